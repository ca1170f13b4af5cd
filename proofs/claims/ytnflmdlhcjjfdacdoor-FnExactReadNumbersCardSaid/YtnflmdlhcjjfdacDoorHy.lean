/-
  ReadNumbers: what both sides answer, and the specification's side, walked.
-/
import Derived.Test.YtnflmdlhcjjfdacDoorHx
namespace Go.Proofs.YtnflmdlhcjjfdacDoor
open Go.RowKit Go.Lib Rd Go.WideShapes Fl

theorem none_litF (w : World) : OwnF (w.alloc (.cells #[] 55)) w.heap.size (.slice (some ⟨w.heap.size, 0, none⟩) 0 0) [] :=
  World.ownsRow_lit w #[] 0 (Nat.le_refl _) (by unfold maxLen; omega) rfl
theorem own_appF {w3 : World} {B k : Nat} {x : Nat} {v' : Value} {out : List Nat} (hk : k = out.length) (h : w3.ownsRow B 55 1 v' (k + 1) (fl out ++ [.float .f32 x])) :
    ∃ g cap, v' = .slice (some ⟨g, 0, none⟩) (k + 1) cap ∧ OwnF w3 B v' (out ++ [x]) := by
  have h2 : OwnF w3 B v' (out ++ [x]) := by
    unfold OwnF
    rw [List.length_append, ← fl_app, ← hk]
    exact h
  rcases h.2 with ⟨_, h0⟩ | ⟨g, cap, cur, hv, _⟩
  · omega
  · exact ⟨g, cap, hv, h2⟩

def OkF (l : List UInt8) (xs : List Nat) : Prop := (l = noneT ∧ xs = []) ∨ (l ≠ noneT ∧ xs.length ≤ 256 ∧ xs.length = (Ct.cut 44 l).length ∧ ∀ (j : Nat) x, xs[j]? = some x → ∃ p, (Ct.cut 44 l)[j]? = some p ∧ WantF p x)
def BadF (l : List UInt8) : Prop := l ≠ noneT ∧ (256 < (Ct.cut 44 l).length ∨ ∃ p ∈ Ct.cut 44 l, ∀ n, ¬ WantF p n)
theorem OkF.same {l : List UInt8} {xs ys : List Nat} (h : OkF l xs) (g : OkF l ys) : ys = xs := by
  rcases h with ⟨h1, h2⟩ | ⟨h1, h2, h3, h4⟩ <;> rcases g with ⟨g1, g2⟩ | ⟨g1, g2, g3, g4⟩
  · rw [h2, g2]
  · exact absurd h1 g1
  · exact absurd g1 h1
  · apply List.ext_getElem?
    intro j
    by_cases hj : j < xs.length
    · obtain ⟨p, e1, e2⟩ := h4 j _ (List.getElem?_eq_getElem hj)
      obtain ⟨q, e3, e4⟩ := g4 j _ (List.getElem?_eq_getElem (show j < ys.length by omega))
      rw [e1] at e3
      injection e3 with e3
      rw [← e3] at e4
      rw [List.getElem?_eq_getElem hj, List.getElem?_eq_getElem (show j < ys.length by omega), WantF.one e2 e4]
    · rw [List.getElem?_eq_none (by omega), List.getElem?_eq_none (by omega)]
theorem OkF.not {l : List UInt8} {xs : List Nat} (h : OkF l xs) (g : BadF l) : False := by
  rcases h with ⟨h1, h2⟩ | ⟨h1, h2, h3, h4⟩
  · exact g.1 h1
  · rcases g.2 with g2 | ⟨p, hp, hn⟩
    · omega
    · obtain ⟨j, hj, e⟩ := List.getElem_of_mem hp
      obtain ⟨q, e1, e2⟩ := h4 j _ (List.getElem?_eq_getElem (show j < xs.length by omega))
      rw [List.getElem?_eq_getElem hj] at e1
      injection e1 with e1
      rw [e] at e1
      rw [← e1] at e2
      exact hn _ e2
theorem wantF_snoc {ps : List ByteArray} {xs : List Nat} {p : ByteArray} {r : Nat} (h : ∀ (j : Nat) x, xs[j]? = some x → ∃ p : ByteArray, ps[j]? = some p ∧ WantF p.data.toList x) (hp : ps[xs.length]? = some p) (hw : WantF p.data.toList r) :
    ∀ (j : Nat) x, (xs ++ [r])[j]? = some x → ∃ p : ByteArray, ps[j]? = some p ∧ WantF p.data.toList x := by
  intro j x hx
  by_cases hj : j < xs.length
  · rw [List.getElem?_append_left hj] at hx
    exact h j x hx
  · rw [List.getElem?_append_right (by omega)] at hx
    have hj2 : j - xs.length < [r].length := (List.getElem?_eq_some_iff.1 hx).1
    have : j = xs.length := by simp at hj2; omega
    subst this
    simp at hx
    exact ⟨p, hp, by rw [← hx]; exact hw⟩
theorem okF_all {l : List UInt8} {ps : List ByteArray} {xs : List Nat} (hn : l ≠ noneT) (hcut : Ct.cut 44 l = ps.map (·.data.toList)) (hl : xs.length = ps.length) (h64 : ps.length ≤ 256) (h : ∀ (j : Nat) x, xs[j]? = some x → ∃ p : ByteArray, ps[j]? = some p ∧ WantF p.data.toList x) : OkF l xs := by
  refine .inr ⟨hn, by omega, by rw [hcut, List.length_map, hl], fun j x hx => ?_⟩
  obtain ⟨p, h1, h2⟩ := h j x hx
  exact ⟨_, by rw [hcut, List.getElem?_map, h1]; rfl, h2⟩
theorem badF_one {l : List UInt8} {ps : List ByteArray} {p : ByteArray} {j : Nat} (hn : l ≠ noneT) (hcut : Ct.cut 44 l = ps.map (·.data.toList)) (hp : ps[j]? = some p) (h : ∀ n, ¬ WantF p.data.toList n) : BadF l :=
  ⟨hn, .inr ⟨p.data.toList, by rw [hcut]; exact List.mem_map_of_mem (List.mem_of_getElem? hp), h⟩⟩

/-- What both sides answer. -/
def RnV (l : List UInt8) (w : World) (e : Ending) (w' : World) : Prop :=
  ∃ v xs b, e = .returned (.tuple #[v, .bool b]) ∧ xs.length ≤ 256 ∧ ((b = true ∧ OkF l xs) ∨ (b = false ∧ BadF l ∧ xs = [])) ∧ OwnF w' w.heap.size v xs ∧ Below w.heap.size w w'
theorem rn_same {l : List UInt8} {xs ys : List Nat} {b c : Bool} (h : (b = true ∧ OkF l xs) ∨ (b = false ∧ BadF l ∧ xs = [])) (g : (c = true ∧ OkF l ys) ∨ (c = false ∧ BadF l ∧ ys = [])) : ys = xs ∧ c = b := by
  rcases h with ⟨rfl, h⟩ | ⟨rfl, h, rfl⟩ <;> rcases g with ⟨rfl, g⟩ | ⟨rfl, g, rfl⟩
  · exact ⟨h.same g, rfl⟩
  · exact (h.not g).elim
  · exact (g.not h).elim
  · exact ⟨rfl, rfl⟩
theorem rn_bad {l : List UInt8} {w w' : World} (h : BadF l) (hb : Below w.heap.size w w') : RnV l w (.returned (.tuple #[.slice none 0 0, .bool false])) w' :=
  ⟨_, [], false, rfl, by simp, .inr ⟨rfl, h, rfl⟩, World.ownsRow_nil _ _ _ _, hb⟩
theorem OkF.len {l : List UInt8} {xs : List Nat} (h : OkF l xs) : xs.length ≤ 256 := by
  rcases h with ⟨_, rfl⟩ | ⟨_, h, _⟩
  · simp
  · exact h
theorem rn_ok {l : List UInt8} {w w' : World} {v : Value} {xs : List Nat} (h : OkF l xs) (ho : OwnF w' w.heap.size v xs) (hb : Below w.heap.size w w') : RnV l w (.returned (.tuple #[v, .bool true])) w' :=
  ⟨_, xs, true, rfl, h.len, .inl ⟨rfl, h⟩, ho, hb⟩

def NumFAt (ps : List ByteArray) (gp cp n : Nat) (w : World) (v iv : Value) (wr : World) : Prop :=
  ∃ (k g cap : Nat) (xs : List Nat), k ≤ n ∧ iv = .int .i64 k ∧ v = .slice (some ⟨g, 0, none⟩) k cap ∧ k = xs.length ∧ (∀ (j : Nat) x, xs[j]? = some x → ∃ p : ByteArray, ps[j]? = some p ∧ WantF p.data.toList x) ∧
    OwnF wr w.heap.size v xs ∧ OwnT wr w.heap.size (.slice (some ⟨gp, 0, none⟩) n cp) ps ∧ Below w.heap.size w wr
def DigAt (s : ByteArray) (w : World) (v kv : Value) (wr : World) : Prop :=
  ∃ k n : Nat, k ≤ 8 ∧ kv = .int .i64 k ∧ v = .int .i64 (n : Int) ∧ hxAll (s.data.toList.take k) 0 = some n ∧ wr = w
theorem hxV_of_num {c : UInt8} (h0 : 48 ≤ c.toNat) (h1 : c.toNat ≤ 57) : hxV c = some (c.toNat - 48) := if_pos ⟨h0, h1⟩
theorem hxV_of_let {c : UInt8} (h0 : 97 ≤ c.toNat) (h1 : c.toNat ≤ 102) : hxV c = some (c.toNat - 87) := by unfold hxV; rw [if_neg (by omega), if_pos ⟨h0, h1⟩]
theorem hxV_of_no {c : UInt8} (h : c.toNat < 48 ∨ (57 < c.toNat ∧ c.toNat < 97) ∨ 102 < c.toNat) : hxV c = none := by unfold hxV; rw [if_neg (by omega), if_neg (by omega)]

set_option maxRecDepth 100000 in
set_option maxHeartbeats 4000000 in
theorem l01NRead_calls (s : ByteArray) (hmax : s.size ≤ 1048576) (w : World) : Calls Tryd.prog 45 #[.string s] w (RnV s.data.toList w) := by
  obtain ⟨i0, hi, hz0, hz1, hz2⟩ := info_parts Tryd.infoF
  by_cases hnone : s.data.toList = noneT
  · have hb : (s.toList == [110, 111, 110, 101]) = true := by rw [bytes_toList, hnone]; rfl
    have HN := Frame.hid hnone
    clear hnone
    go_enter Tryd.func45, Tryd.ntmps45
    go_wp2_with fail
    go_ret2
    exact rn_ok (.inl ⟨HN.out, rfl⟩) (none_litF w) ((Below.refl _ _).alloc (Nat.le_refl _) _)
  · have hb : (s.toList == [110, 111, 110, 101]) = false := by rw [bytes_toList, beq_eq_false_iff_ne]; exact hnone
    have HN := Frame.hid hnone
    clear hnone
    go_enter Tryd.func45, Tryd.ntmps45
    go_wp2_with fail
    refine (l01Cut_calls s 44 hmax _).mono ?_
    rintro e w1 ⟨gp, cp, ps, rfl, hcut, hT, hB1⟩
    obtain ⟨n, hpn⟩ : ∃ n, n = ps.length := ⟨_, rfl⟩
    rw [← hpn] at hT ⊢
    have HPN := Frame.hid hpn
    have HC := Frame.hid hcut
    have hsz1 := hB1.size
    have HOW := Frame.hid (OwnF.below (none_litF w) hB1)
    have HT : Hid (OwnT w1 w.heap.size (.slice (some ⟨gp, 0, none⟩) n cp) ps) := by
      have h := own_mono hT (base' := w.heap.size) (by simp)
      exact h
    have HB1 : Hid (Below w.heap.size w w1) := (((Below.refl w.heap.size w).alloc (Nat.le_refl _) _)).trans (hB1.mono (by simp))
    clear hpn hcut hB1 hT hb
    by_cases h64 : 256 < n
    · go_wp2_with fail
      go_ret2
      exact rn_bad ⟨HN.out, .inl (by have := HC.out; rw [this, List.length_map, ← HPN.out]; exact h64)⟩ HB1.out
    · go_wp2_with fail
      go_loopw [4, 6] (fun v i wr => NumFAt ps gp cp n w v i wr) (fun _ i _ => n - (Go.RowKit.intOf i).toNat)
      case atStart => exact ⟨0, _, 0, [], Nat.zero_le _, rfl, rfl, rfl, fun j x hx => by simp at hx, HOW.out, HT.out, HB1.out⟩
      case round =>
        obtain ⟨k, g, cap, xs, hk, rfl, rfl, hkx, hW, hO, hT, hB⟩ := hrel
        have HKX := Frame.hid hkx
        have HW := Frame.hid hW
        have HO := Frame.hid hO
        have HT := Frame.hid hT
        have HB := Frame.hid hB
        clear hkx hW hO hT hB HOW HB1
        by_cases hlt : k < n
        · obtain ⟨p, hp⟩ : ∃ p, ps[k]? = some p := ⟨_, List.getElem?_eq_getElem (by have := HPN.out; omega)⟩
          have hc1 := HT.out.cell HPN.out hp
          have hpl := part_le HC.out hp
          have HP := Frame.hid hp
          clear hp
          by_cases h8 : p.size = 8
          · go_wp2_with fail
            go_loopw [7, 8] (fun v kv wr' => DigAt p wr v kv wr') (fun _ kv _ => 8 - (Go.RowKit.intOf kv).toNat)
            case atStart => exact ⟨0, 0, by omega, rfl, rfl, rfl, rfl⟩
            case round =>
              obtain ⟨q, m, hq, rfl, rfl, hm, rfl⟩ := hrel
              by_cases hq8 : q < 8
              · have hm7 := hx_bound7 (by omega) hm
                have HM := Frame.hid hm
                clear hm
                have hqs : q < p.size := by omega
                rcases (by omega : (48 ≤ p[q].toNat ∧ p[q].toNat ≤ 57) ∨ (97 ≤ p[q].toNat ∧ p[q].toNat ≤ 102) ∨ (p[q].toNat < 48) ∨ (57 < p[q].toNat ∧ p[q].toNat < 97) ∨ 102 < p[q].toNat) with ⟨h1, h2⟩ | ⟨h1, h2⟩ | h1 | ⟨h1, h2⟩ | h1
                · have HD := Frame.hid (hx_take hqs HM.out (hxV_of_num h1 h2))
                  go_wp2_with fail
                  go_roundw
                  case rel => exact ⟨q + 1, _, by omega, by go_num, by go_num, HD.out, rfl⟩
                  case measure => simp [Go.RowKit.intOf]; omega
                · have HD := Frame.hid (hx_take hqs HM.out (hxV_of_let h1 h2))
                  go_wp2_with fail
                  go_roundw
                  case rel => exact ⟨q + 1, _, by omega, by go_num, by go_num, HD.out, rfl⟩
                  case measure => simp [Go.RowKit.intOf]; omega
                all_goals
                  have HBAD := Frame.hid (badF_one HN.out HC.out HP.out (noF_stop hqs (hxV_of_no (by omega))))
                  go_wp2_with fail
                  go_ret2
                  exact rn_bad HBAD.out HB.out
              · have hb32 := hx_bound (by omega) hm
                have HM := Frame.hid (hx_whole (by omega) hm)
                clear hm
                go_wp2_with fail
                refine (l01From_calls (m : Int) (by omega) (by omega) _).mono ?_
                rintro e w2 ⟨rfl, rfl⟩
                rw [Int.toNat_natCast]
                go_wp2_with fail
                refine (l01Bits_calls m (by omega) _).mono ?_
                rintro e w2 ⟨rfl, rfl⟩
                by_cases hbv : bitsV m = (m : Int)
                · rw [hbv]
                  have HBV := Frame.hid hbv
                  have hO1 : wr.ownsRow w.heap.size 55 1 (.slice (some ⟨g, 0, none⟩) k cap) k (fl xs) := by have h := HO.out; unfold OwnF at h; rwa [← HKX.out] at h
                  have hgB : w.heap.size ≤ g := (World.ownsRow.lt hO1 g rfl).1
                  have HGB := Frame.hid hgB
                  have hsz := HB.out.size
                  clear hbv hgB
                  go_wp2_with (at_builtin; refine wpList_append_own _ rfl _ _ 27 rfl w.heap.size 55 i0 (.float .f32 0) 1 4 Tryd.underlying27 hi hz0 hz1 hz2 rfl (by decide) _ _ _ rfl (hO1.alloc _) ⟨wr.heap.size, 0, none⟩ 1 1 [.float .f32 m] rfl rfl (cell_one_new _ _ _) (fun x hx => by simp at hx; subst hx; rfl) (by unfold maxLen; omega) (by omega) (by simp; omega) ?_; intro v' w3 hown' hgrow3 hnil3; obtain ⟨g', cap', rfl, hO2⟩ := own_appF HKX.out hown')
                  have hgrow4 : (wr.alloc (.cells #[.float .f32 m] 55)).grownBy w3 (some g) := hgrow3
                  have HB3 : Hid (Below w.heap.size w w3) := Below.grown (HB.out.alloc hsz _) hgrow4 (by simp; omega) (fun k hk => by injection hk with hk; rw [← hk]; exact HGB.out)
                  have HT3 : Hid (OwnT w3 w.heap.size (.slice (some ⟨gp, 0, none⟩) n cp) ps) := World.ownsRow.kept (World.ownsRow.alloc HT.out _) hgrow4 (rows_apart HT.out hO1 (by decide))
                  have HO3 := Frame.hid hO2
                  clear hgrow3 hgrow4 hnil3 hown' hO1 hO2 hsz
                  go_roundw
                  case rel => exact ⟨k + 1, g', cap', _, by omega, by go_num, rfl, by rw [List.length_append, HKX.out]; rfl, wantF_snoc HW.out (by rw [← HKX.out]; exact HP.out) ⟨by rw [size_list]; exact h8, HM.out, HBV.out⟩, HO3.out, HT3.out, HB3.out⟩
                  case measure => simp [Go.RowKit.intOf]; omega
                · have hne : (bitsV m == (m : Int)) = false := by rw [beq_eq_false_iff_ne]; exact hbv
                  have HBAD := Frame.hid (badF_one HN.out HC.out HP.out (noF_bits HM.out hbv))
                  generalize bitsV m = z at hne
                  clear hbv
                  go_wp2_with fail
                  go_ret2
                  exact rn_bad HBAD.out HB.out
          · have HBAD := Frame.hid (badF_one HN.out HC.out HP.out (noF_len h8))
            rcases (by omega : p.size < 8 ∨ 8 < p.size) with h9 | h9
            all_goals
              clear h8
              go_wp2_with fail
              go_ret2
              exact rn_bad HBAD.out HB.out
        · have hkn : k = n := by omega
          subst hkn
          have HOK := Frame.hid (okF_all HN.out HC.out (by rw [← HKX.out, HPN.out]) (by rw [← HPN.out]; omega) HW.out)
          go_wp2_with fail
          go_ret2
          exact rn_ok HOK.out HO.out HB.out

theorem specReadNumbers_calls (s : ByteArray) (hmax : s.size ≤ 1048576) (w : World) : Calls Tryd.prog 18 #[.string s] w (RnV s.data.toList w) := by
  go_enter Tryd.func18, Tryd.ntmps18
  go_wp2_with fail
  refine (l01NRead_calls s hmax _).mono ?_
  rintro e w1 ⟨v, xs, b, rfl, hl, hA, hO, hB⟩
  have HA := Frame.hid hA
  have HO := Frame.hid hO
  have HB := Frame.hid hB
  have HL := Frame.hid hl
  clear hA hO hB hl
  go_wp2_with fail
  go_ret2
  exact ⟨_, xs, _, rfl, HL.out, HA.out, HO.out, HB.out⟩

end Go.Proofs.YtnflmdlhcjjfdacDoor
