/-
  CountOutputs: both sides and the law, walked.
-/
import Derived.Test.YtnhpiebddelebabDoorV1
namespace Go.Proofs.YtnhpiebddelebabDoor
open Go.RowKit Go.Lib Rd Go.WideShapes

/-- An output that is no or what. -/
def noB (x : ByteArray) : Bool := x.toList == [110, 111] || x.toList == [119, 104, 97, 116]
def badN (ps : List ByteArray) (k : Nat) : Nat := ((ps.take k).filter noB).length
theorem badN_le (ps : List ByteArray) (k : Nat) : badN ps k ≤ k := by
  unfold badN
  exact Nat.le_trans (List.length_filter_le _ _) (by rw [List.length_take]; omega)
theorem badN_yes {ps : List ByteArray} {k : Nat} {x : ByteArray} (hx : ps[k]? = some x) (h : noB x = true) : badN ps (k + 1) = badN ps k + 1 := by
  unfold badN
  rw [List.take_add_one, hx, List.filter_append, List.length_append]
  simp [h]
theorem badN_no {ps : List ByteArray} {k : Nat} {x : ByteArray} (hx : ps[k]? = some x) (h : noB x = false) : badN ps (k + 1) = badN ps k := by
  unfold badN
  rw [List.take_add_one, hx, List.filter_append, List.length_append]
  simp [h]
def goodB (s : ByteArray) : Bool := decide (s.size ≤ 16000) && lastB s
/-- What both sides answer. -/
def CntV (s : ByteArray) (w : World) (e : Ending) (w' : World) : Prop :=
  Below w.heap.size w w' ∧ ((goodB s = true ∧ e = .returned (.tuple #[.int .i64 (badN (PS s) ((PS s).length - 1) : Nat), .int .i64 (((PS s).length - 1 : Nat) - (badN (PS s) ((PS s).length - 1) : Nat)), .bool true])) ∨ (goodB s = false ∧ e = .returned (.tuple #[.int .i64 0, .int .i64 0, .bool false])))

set_option maxRecDepth 100000 in
set_option maxHeartbeats 2000000 in
theorem countOutputs_calls (s : ByteArray) (hs : s.size ≤ 1048576) (m : Int) (w : World) (hm : w.cell? ⟨0, 0, none⟩ = some (.int .i64 m)) :
    Calls Tryd.prog 8 #[.string s] w (CntV s w) := by
  have HL := Frame.hid (linesOf_calls s hs m w hm)
  clear hm
  go_enter Tryd.func8, Tryd.ntmps8
  go_wp2_with fail
  refine HL.out.mono ?_
  rintro e w1 ⟨hB, hcase⟩
  have HB := Frame.hid hB
  clear hB
  rcases hcase with ⟨h1, h2, g, n, c, hn, rfl, hR, hg⟩ | ⟨hno, rfl⟩
  · have HG : Hid (goodB s = true) := Frame.hid (by unfold goodB; rw [h2, decide_eq_true h1]; rfl)
    have HN := Frame.hid hn
    have HR := Frame.hid hR
    have hnb : n ≤ 16000 := by have := (PS_len s).2; omega
    clear h1 h2 hn hR
    go_wp2_with fail
    go_loopw [7, 19] (fun bv jv wr => ∃ j : Nat, j ≤ n ∧ jv = .int .i64 (j : Nat) ∧ bv = .int .i64 (badN (PS s) j : Nat) ∧ wr = w1) (fun _ jv _ => n - (Go.RowKit.intOf jv).toNat)
    case atStart => exact ⟨0, Nat.zero_le _, rfl, rfl, rfl⟩
    case round =>
      obtain ⟨j, hj, rfl, rfl, rfl⟩ := hrel
      have hbl := badN_le (PS s) j
      by_cases hlt : j < n
      · obtain ⟨x, hx⟩ : ∃ x, (PS s)[j]? = some x := ⟨_, List.getElem?_eq_getElem (by have := HN.out; omega)⟩
        have hc := HR.out j x hx
        have hj0 : (0 : Int) ≤ (j : Int) := by omega
        have hlt3 : (j : Int) < (n : Int) := by omega
        obtain ⟨B, hBd⟩ : ∃ B, B = badN (PS s) j := ⟨_, rfl⟩
        rw [← hBd] at hbl ⊢
        have HBD := Frame.hid hBd
        have HX := Frame.hid hx
        clear hBd hx
        cases h1 : (x.toList == [110, 111])
        · cases h2 : (x.toList == [119, 104, 97, 116])
          · have HNB : Hid (noB x = false) := Frame.hid (by unfold noB; rw [h1, h2]; rfl)
            go_wp2_with fail
            go_roundw
            case rel => exact ⟨j + 1, by omega, by go_num, by rw [badN_no HX.out HNB.out, ← HBD.out], trivial⟩
            case measure => simp [Go.RowKit.intOf]; omega
          · have HNB : Hid (noB x = true) := Frame.hid (by unfold noB; rw [h1, h2]; rfl)
            go_wp2_with fail
            go_roundw
            case rel => exact ⟨j + 1, by omega, by go_num, by rw [badN_yes HX.out HNB.out, ← HBD.out]; go_num, trivial⟩
            case measure => simp [Go.RowKit.intOf]; omega
        · have HNB : Hid (noB x = true) := Frame.hid (by unfold noB; rw [h1]; rfl)
          go_wp2_with fail
          go_roundw
          case rel => exact ⟨j + 1, by omega, by go_num, by rw [badN_yes HX.out HNB.out, ← HBD.out]; go_num, trivial⟩
          case measure => simp [Go.RowKit.intOf]; omega
      · have hjn : j = n := by omega
        subst hjn
        have he : (PS s).length - 1 = j := by rw [HN.out]; rfl
        have HF : Hid (∀ e, e = .returned (.tuple #[.int .i64 (badN (PS s) j : Nat), .int .i64 ((j : Int) - (badN (PS s) j : Nat)), .bool true]) → CntV s w e wr) := Frame.hid (fun e h => ⟨HB.out, .inl ⟨HG.out, by rw [he]; exact h⟩⟩)
        have hsub : IntKind.i64.wrap ((j : Int) - (badN (PS s) j : Nat)) = (j : Int) - (badN (PS s) j : Nat) := by rw [IntKind.wrap_i64]; omega
        clear he
        go_wp2_with fail
        refine bodyPost_ret (v := .tuple #[.int .i64 (badN (PS s) j : Nat), .int .i64 ((j : Int) - (badN (PS s) j : Nat)), .bool true]) (by simp [results, Tryd.results8, go_sem]) rfl ?_
        exact HF.out _ rfl
  · have HG : Hid (goodB s = false) := Frame.hid (by
      unfold goodB
      rw [Bool.and_eq_false_iff]
      by_cases h1 : s.size ≤ 16000
      · exact .inr (by cases h2 : lastB s; rfl; exact absurd ⟨h1, h2⟩ hno)
      · exact .inl (decide_eq_false h1))
    clear hno
    go_wp2_with fail
    refine bodyPost_ret (v := .tuple #[.int .i64 0, .int .i64 0, .bool false]) (by simp [results, Tryd.results8, go_sem]) rfl ?_
    exact ⟨HB.out, .inr ⟨HG.out, rfl⟩⟩

set_option maxRecDepth 100000 in
set_option maxHeartbeats 2000000 in
theorem specCountOutputs_calls (s : ByteArray) (hs : s.size ≤ 1048576) (w : World) :
    Calls Tryd.prog 7 #[.string s] w (CntV s w) := by
  by_cases hbig : 16000 < s.size
  · have HG : Hid (goodB s = false) := Frame.hid (by unfold goodB; rw [decide_eq_false (by omega)]; rfl)
    go_enter Tryd.func7, Tryd.ntmps7
    go_wp2_with fail
    refine bodyPost_ret (v := .tuple #[.int .i64 0, .int .i64 0, .bool false]) (by simp [results, Tryd.results7, go_sem]) rfl ?_
    exact ⟨Below.refl _ _, .inr ⟨HG.out, rfl⟩⟩
  · have HL := Frame.hid (l08Lines_calls s hs w)
    go_enter Tryd.func7, Tryd.ntmps7
    go_wp2_with fail
    refine HL.out.mono ?_
    rintro e w1 ⟨hB, g, n, c, r, hn, hr, rfl, hR, hg⟩
    have HB := Frame.hid hB
    have hlast := last_at hn hr
    have HN := Frame.hid hn
    have HR := Frame.hid hR
    have hnb : n ≤ 16000 := by have := (PS_len s).2; omega
    clear hB hn hr hR
    cases hb : lastB s
    · have hb1 : (r.toList == []) = false := by rw [hlast, hb]
      have HG : Hid (goodB s = false) := Frame.hid (by unfold goodB; rw [hb, Bool.and_false])
      clear hlast hb
      go_wp2_with fail
      refine bodyPost_ret (v := .tuple #[.int .i64 0, .int .i64 0, .bool false]) (by simp [results, Tryd.results7, go_sem]) rfl ?_
      exact ⟨HB.out, .inr ⟨HG.out, rfl⟩⟩
    · have hb1 : (r.toList == []) = true := by rw [hlast, hb]
      have HG : Hid (goodB s = true) := Frame.hid (by unfold goodB; rw [hb, decide_eq_true (show s.size ≤ 16000 by omega)]; rfl)
      clear hlast hb
      go_wp2_with fail
      go_loopw [7, 8] (fun bv jv wr => ∃ j : Nat, j ≤ n ∧ jv = .int .i64 (j : Nat) ∧ bv = .int .i64 (badN (PS s) j : Nat) ∧ wr = w1) (fun _ jv _ => n - (Go.RowKit.intOf jv).toNat)
      case atStart => exact ⟨0, Nat.zero_le _, rfl, rfl, rfl⟩
      case round =>
        obtain ⟨j, hj, rfl, rfl, rfl⟩ := hrel
        have hbl := badN_le (PS s) j
        by_cases hlt : j < n
        · obtain ⟨x, hx⟩ : ∃ x, (PS s)[j]? = some x := ⟨_, List.getElem?_eq_getElem (by have := HN.out; omega)⟩
          have hc := HR.out j x hx
          have hj0 : (0 : Int) ≤ (j : Int) := by omega
          have hlt3 : (j : Int) < (n : Int) := by omega
          obtain ⟨B, hBd⟩ : ∃ B, B = badN (PS s) j := ⟨_, rfl⟩
          rw [← hBd] at hbl ⊢
          have HBD := Frame.hid hBd
          have HX := Frame.hid hx
          clear hBd hx
          cases h1 : (x.toList == [110, 111])
          · cases h2 : (x.toList == [119, 104, 97, 116])
            · have HNB : Hid (noB x = false) := Frame.hid (by unfold noB; rw [h1, h2]; rfl)
              go_wp2_with fail
              go_roundw
              case rel => exact ⟨j + 1, by omega, by go_num, by rw [badN_no HX.out HNB.out, ← HBD.out], trivial⟩
              case measure => simp [Go.RowKit.intOf]; omega
            · have HNB : Hid (noB x = true) := Frame.hid (by unfold noB; rw [h1, h2]; rfl)
              go_wp2_with fail
              go_roundw
              case rel => exact ⟨j + 1, by omega, by go_num, by rw [badN_yes HX.out HNB.out, ← HBD.out]; go_num, trivial⟩
              case measure => simp [Go.RowKit.intOf]; omega
          · have HNB : Hid (noB x = true) := Frame.hid (by unfold noB; rw [h1]; rfl)
            go_wp2_with fail
            go_roundw
            case rel => exact ⟨j + 1, by omega, by go_num, by rw [badN_yes HX.out HNB.out, ← HBD.out]; go_num, trivial⟩
            case measure => simp [Go.RowKit.intOf]; omega
        · have hjn : j = n := by omega
          subst hjn
          have he : (PS s).length - 1 = j := by rw [HN.out]; rfl
          have HF : Hid (∀ e, e = .returned (.tuple #[.int .i64 (badN (PS s) j : Nat), .int .i64 ((j : Int) - (badN (PS s) j : Nat)), .bool true]) → CntV s w e wr) := Frame.hid (fun e h => ⟨HB.out, .inl ⟨HG.out, by rw [he]; exact h⟩⟩)
          have hsub : IntKind.i64.wrap ((j : Int) - (badN (PS s) j : Nat)) = (j : Int) - (badN (PS s) j : Nat) := by rw [IntKind.wrap_i64]; omega
          clear he
          go_wp2_with fail
          refine bodyPost_ret (v := .tuple #[.int .i64 (badN (PS s) j : Nat), .int .i64 ((j : Int) - (badN (PS s) j : Nat)), .bool true]) (by simp [results, Tryd.results7, go_sem]) rfl ?_
          exact HF.out _ rfl

set_option maxRecDepth 100000 in
set_option maxHeartbeats 2000000 in
theorem fnExactCountOutputs_walk (s : ByteArray) (w : World) (m : Int) (hm : w.cell? ⟨0, 0, none⟩ = some (.int .i64 m)) :
    Calls Tryd.prog 3 #[.string s] w fun e w' => e = .returned (.bool true) ∧ Below w.heap.size w w' := by
  by_cases hbig : 1048576 < s.size
  · clear hm
    go_enter Tryd.func3, Tryd.ntmps3
    go_wp2_with fail
    go_ret
    exact ⟨rfl, Below.refl _ _⟩
  · have hs1 : s.size ≤ 1048576 := by omega
    have HM := Frame.hid hm
    have HA := Frame.hid (specCountOutputs_calls s hs1 w)
    clear hm
    go_enter Tryd.func3, Tryd.ntmps3
    go_wp2_with fail
    refine HA.out.mono ?_
    rintro e w1 ⟨hB1, hcase⟩
    have HI := Frame.hid (countOutputs_calls s hs1 m w1 ((hB1.cell (World.block_lt_of_cell? w _ HM.out)).trans HM.out))
    have HB1 := Frame.hid hB1
    clear hB1
    rcases hcase with ⟨hg, rfl⟩ | ⟨hg, rfl⟩
    · generalize hX : ((badN (PS s) ((PS s).length - 1) : Nat) : Int) = X
      generalize hY : (((PS s).length - 1 : Nat) : Int) - X = Y
      have HX := Frame.hid (And.intro hX hY)
      have HG := Frame.hid hg
      clear hX hY hg
      go_wp2_with fail
      refine HI.out.mono ?_
      rintro e w2 ⟨hB2, hcase⟩
      have HB2 := Frame.hid (HB1.out.trans (hB2.mono HB1.out.size))
      clear hB2
      rcases hcase with ⟨_, rfl⟩ | ⟨hg, _⟩
      · rw [HX.out.1, HX.out.2]
        go_wp2_with fail
        go_ret
        exact ⟨rfl, HB2.out⟩
      · rw [HG.out] at hg; cases hg
    · have HG := Frame.hid hg
      clear hg
      go_wp2_with fail
      refine HI.out.mono ?_
      rintro e w2 ⟨hB2, hcase⟩
      have HB2 := Frame.hid (HB1.out.trans (hB2.mono HB1.out.size))
      clear hB2
      rcases hcase with ⟨hg, _⟩ | ⟨_, rfl⟩
      · rw [HG.out] at hg; cases hg
      · go_wp2_with fail
        go_ret
        exact ⟨rfl, HB2.out⟩

end Go.Proofs.YtnhpiebddelebabDoor
