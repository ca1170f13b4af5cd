/-
  Lists of texts in the laws: sizes, copies, comparing. The law of JournalOf, walked.
-/
import Derived.Test.YtnhpiebddelebabDoorW1
import Derived.SliceStrings
namespace Go.Proofs.YtnhpiebddelebabDoor
open Go.RowKit Go.Lib Rd Go.WideShapes

set_option maxHeartbeats 2000000 in
theorem szStringS_calls (A : Option Addr) (ps : List ByteArray) (n c : Nat) (hxn : n = ps.length) (hn : n ≤ maxLen) (hsz : ∀ (j : Nat) p, ps[j]? = some p → p.size ≤ maxLen) (w : World) (hr : RdL w A ps) :
    Calls Tryd.prog 9 #[.slice A n c, .int .i64 1048576] w fun e w' => (∃ r : Int, e = .returned (.int .i64 r) ∧ (r = -1 ∨ (0 ≤ r ∧ n ≤ 1048576 ∧ ∀ (j : Nat) p, ps[j]? = some p → p.size ≤ 1048576))) ∧ w = w' := by
  have HX := Frame.hid hxn
  have HR := Frame.hid hr
  have HSZ := Frame.hid hsz
  unfold maxLen at hn
  clear hxn hr hsz
  by_cases hbig : 1048576 < n
  · have hb : (1048576 : Int) - (n : Int) < 0 := by omega
    go_enter Tryd.func9, Tryd.ntmps9
    go_wp2_with fail
    go_ret
    exact ⟨⟨_, rfl, .inl rfl⟩, rfl⟩
  · have hb : ¬ ((1048576 : Int) - (n : Int) < 0) := by omega
    go_enter Tryd.func9, Tryd.ntmps9
    go_wp2_with fail
    go_loopw [1, 5] (fun lv iv wr => ∃ (k : Nat) (r : Int), k ≤ n ∧ iv = .int .i64 (k : Nat) ∧ lv = .int .i64 r ∧ 0 ≤ r ∧ r ≤ 1048576 ∧ (∀ (j : Nat) p, j < k → ps[j]? = some p → p.size ≤ 1048576) ∧ wr = w) (fun _ iv _ => n - (Go.RowKit.intOf iv).toNat)
    case atStart => exact ⟨0, _, Nat.zero_le _, rfl, rfl, by omega, by omega, fun j p hj => absurd hj (by omega), rfl⟩
    case round =>
      obtain ⟨k, r, hk, rfl, rfl, r0, r1, hs, rfl⟩ := hrel
      have HS := Frame.hid hs
      clear hs
      by_cases hlt : k < n
      · obtain ⟨b, off, rfl, hbl, hc⟩ := HR.out.h (by have := HX.out; omega)
        obtain ⟨p, hp⟩ : ∃ p, ps[k]? = some p := ⟨_, List.getElem?_eq_getElem (by have := HX.out; omega)⟩
        have hc1 := hc k p hp
        have hps := HSZ.out k p hp
        unfold maxLen at hps
        have HP := Frame.hid hp
        have hlt3 : (k : Int) < (n : Int) := by omega
        have hk0 : (0 : Int) ≤ (k : Int) := by omega
        clear hp hc
        by_cases hneg : r - (p.size : Int) < 0
        · go_wp2_with fail
          go_ret
          exact ⟨⟨_, rfl, .inl rfl⟩, rfl⟩
        · go_wp2_with fail
          go_roundw
          case rel =>
            refine ⟨k + 1, r - (p.size : Int), by omega, by go_num, rfl, by omega, by omega, fun j q hj hq => ?_, by first | rfl | trivial⟩
            by_cases he : j = k
            · subst he
              have := HP.out
              rw [this] at hq
              injection hq with hq
              rw [← hq]
              omega
            · exact HS.out j q (by omega) hq
          case measure => simp [Go.RowKit.intOf]; omega
      · have hkn : k = n := by omega
        subst hkn
        have HF : Hid (∀ (j : Nat) p, ps[j]? = some p → p.size ≤ 1048576) := Frame.hid (fun j p hp => HS.out j p (by have := (List.getElem?_eq_some_iff.1 hp).1; have := HX.out; omega) hp)
        go_wp2_with fail
        go_ret
        exact ⟨⟨_, rfl, .inr ⟨r0, by omega, HF.out⟩⟩, rfl⟩

set_option maxHeartbeats 2000000 in
theorem toStringS_calls (A : Option Addr) (ps : List ByteArray) (n c : Nat) (hxn : n = ps.length) (hn : n ≤ 1048576) (w : World) (hr : RdL w A ps) :
    Calls Tryd.prog 11 #[.slice A n c] w fun e w' => ∃ g, e = .returned (.slice (some ⟨g, 0, none⟩) n n) ∧ RdL w' (some ⟨g, 0, none⟩) ps ∧ Below w.heap.size w w' := by
  obtain ⟨i0, hi, hz0, hz1, hz2⟩ := info_parts infoS
  have HX := Frame.hid hxn
  have HR := Frame.hid hr
  clear hxn hr
  go_enter Tryd.func11, Tryd.ntmps11
  go_wp2_with (at_make; refine wpList_make_full _ rfl _ _ 25 rfl w.heap.size 9 i0 (.string ByteArray.empty) 1 Tryd.underlying25 hi hz0 hz1 _ _ _ _ n rfl rfl rfl rfl ?c1 ?c2 ?c3 ?_)
  case c1 => rw [hz2]; omega
  case c2 => unfold maxLen; omega
  case c3 => simp
  intro w1 hown hgrow
  have HST : Hid (w1.ownsRow w.heap.size 9 1 (.slice (some ⟨w.heap.size, 0, none⟩) n n) n ((List.replicate n ByteArray.empty).map Value.string) ∧ Below w.heap.size w w1) := by
    refine ⟨?_, (Below.refl _ _).grown hgrow (Nat.le_refl _) (by simp)⟩
    have e : (madeCells #[Value.string ByteArray.empty] n).toList = (List.replicate n ByteArray.empty).map Value.string := by
      rw [List.map_replicate]
      exact toList_madeCells_one _ _
    rw [e] at hown
    exact hown
  clear hown hgrow hi hz0 hz1 hz2
  go_wp2_with fail
  go_loopw [4] (fun iv wr => ∃ (k : Nat) (ss : List ByteArray), k ≤ n ∧ iv = .int .i64 (k : Nat) ∧ ss.length = n ∧ (∀ j, j < k → ss[j]? = ps[j]?) ∧ wr.ownsRow w.heap.size 9 1 (.slice (some ⟨w.heap.size, 0, none⟩) n n) n (ss.map Value.string) ∧ Below w.heap.size w wr) (fun iv _ => n - (Go.RowKit.intOf iv).toNat)
  case atStart => exact ⟨0, _, Nat.zero_le _, rfl, List.length_replicate, fun j hj => absurd hj (by omega), HST.out.1, HST.out.2⟩
  case round =>
    obtain ⟨k, ss, hk, rfl, hsl, hss, hO, hB⟩ := hrel
    have HSL := Frame.hid hsl
    have HSS := Frame.hid hss
    have HO := Frame.hid hO
    have HB := Frame.hid hB
    clear HST
    by_cases hlt : k < n
    · obtain ⟨b, off, rfl, hbl, hc⟩ := HR.out.h (by have := HX.out; omega)
      obtain ⟨p, hp⟩ : ∃ p, ps[k]? = some p := ⟨_, List.getElem?_eq_getElem (by have := HX.out; omega)⟩
      have hc1 := (hB.cell (p := ⟨b, off + k, none⟩) hbl).trans (hc k p hp)
      obtain ⟨s0, hs0⟩ : ∃ s0, ss[k]? = some s0 := ⟨_, List.getElem?_eq_getElem (by omega)⟩
      have hc2 : wr.cell? ⟨w.heap.size, k, none⟩ = some (.string s0) := by
        rw [World.ownsRow.cellAt hO k (by omega), List.getElem?_map, hs0]
        rfl
      have hfz := World.ownsRow.frozenAt hO k
      have HP := Frame.hid hp
      have hlt3 : (k : Int) < (n : Int) := by omega
      have hk0 : (0 : Int) ≤ (k : Int) := by omega
      clear hsl hss hO hB hc hp hs0
      go_wp2_with fail
      go_roundw
      case rel =>
        have hst := (World.ownsRow.stored HO.out k (.string p)).1
        have hset : (ss.map Value.string).set k (.string p) = (ss.set k p).map Value.string := by rw [List.map_set]
        rw [hset] at hst
        refine ⟨k + 1, ss.set k p, by omega, by go_num, by rw [List.length_set]; exact HSL.out, fun j hj => ?_, hst, HB.out.setCell (p := ⟨w.heap.size, _, none⟩) (Nat.le_refl _) _⟩
        by_cases he : j = k
        · rw [he, List.getElem?_set_self (by have := HSL.out; omega), HP.out]
        · rw [List.getElem?_set_ne (by omega)]
          exact HSS.out j (by omega)
      case measure => simp [Go.RowKit.intOf]; omega
    · have hkn : k = n := by omega
      subst hkn
      have hR : RdL wr (some ⟨w.heap.size, 0, none⟩) ps := ⟨fun h0 => ⟨w.heap.size, 0, rfl, (World.ownsRow.lt hO w.heap.size rfl).2, fun j x hx => by
        have hj : j < k := by have := (List.getElem?_eq_some_iff.1 hx).1; have := HX.out; omega
        rw [Nat.zero_add, World.ownsRow.cellAt hO j (by omega), List.getElem?_map, hss j hj, hx]
        rfl⟩⟩
      have HRR := Frame.hid hR
      clear hR hO hss hsl hB
      go_wp2_with fail
      go_ret
      exact ⟨_, rfl, HRR.out, HB.out⟩

set_option maxHeartbeats 2000000 in
theorem eqStringS_calls (A B : Option Addr) (ps : List ByteArray) (n c d : Nat) (hxn : n = ps.length) (hn : n ≤ 1048576) (w : World) (hA : RdL w A ps) (hB : RdL w B ps) :
    Calls Tryd.prog 13 #[.slice A n c, .slice B n d] w fun e w' => e = .returned (.bool true) ∧ ∃ m, w' = w.drewN m := by
  have HX := Frame.hid hxn
  have HA := Frame.hid hA
  have HB := Frame.hid hB
  clear hxn hA hB
  go_enter Tryd.func13, Tryd.ntmps13
  go_wp2_with fail
  go_loopw [5] (fun i wr => ∃ k : Nat, k ≤ n ∧ i = .int .i64 k ∧ ∃ m, wr = w.drewN m) (fun i _ => n - (Go.RowKit.intOf i).toNat)
  case atStart => exact ⟨0, Nat.zero_le _, rfl, 0, rfl⟩
  case round =>
    obtain ⟨k, hk, rfl, m, rfl⟩ := hrel
    by_cases hlt : k < n
    · obtain ⟨b, off, rfl, hb, hc⟩ := HA.out.h (by have := HX.out; omega)
      obtain ⟨b', off', rfl, hb', hc'⟩ := HB.out.h (by have := HX.out; omega)
      obtain ⟨p, hp⟩ : ∃ p, ps[k]? = some p := ⟨_, List.getElem?_eq_getElem (by have := HX.out; omega)⟩
      have hc1 := hc k p hp
      have hc2 := hc' k p hp
      have hlt3 : (k : Int) < (n : Int) := by omega
      have hk0 : (0 : Int) ≤ (k : Int) := by omega
      clear hc hc' hp HA HB
      go_wp2_with fail
      go_quiet (fail)
      go_wp2_with fail
      go_roundw
      case rel => exact ⟨k + 1, by omega, by go_num, _, rfl⟩
      case measure => simp [Go.RowKit.intOf]; omega
    · have hlt3 : ¬ ((k : Int) < (n : Int)) := by omega
      go_wp2_with fail
      go_ret
      exact ⟨rfl, _, rfl⟩

end Go.Proofs.YtnhpiebddelebabDoor
