/-
  ReadComplex: what both sides answer, and the specification's side, walked.
-/
import Derived.Test.YtnflmdlhcjjfdacDoorGr
namespace Go.Proofs.YtnflmdlhcjjfdacDoor
open Go.RowKit Go.Lib Rd Go.WideShapes Fl

theorem none_litC (w : World) : OwnC (w.alloc (.cells #[] 63)) w.heap.size (.slice (some ⟨w.heap.size, 0, none⟩) 0 0) [] :=
  World.ownsRow_lit w #[] 0 (Nat.le_refl _) (by unfold maxLen; omega) rfl
theorem own_appC {w3 : World} {B k : Nat} {x : Nat × Nat} {v' : Value} {out : List (Nat × Nat)} (hk : k = out.length) (h : w3.ownsRow B 63 1 v' (k + 1) (cl out ++ [cx x])) :
    ∃ g cap, v' = .slice (some ⟨g, 0, none⟩) (k + 1) cap ∧ OwnC w3 B v' (out ++ [x]) := by
  have h2 : OwnC w3 B v' (out ++ [x]) := by
    unfold OwnC
    rw [List.length_append, ← cl_app, ← hk]
    exact h
  rcases h.2 with ⟨_, h0⟩ | ⟨g, cap, cur, hv, _⟩
  · omega
  · exact ⟨g, cap, hv, h2⟩

def OkC (l : List UInt8) (xs : List (Nat × Nat)) : Prop := (l = noneT ∧ xs = []) ∨ (l ≠ noneT ∧ xs.length ≤ 256 ∧ xs.length = (Ct.cut 44 l).length ∧ ∀ (j : Nat) x, xs[j]? = some x → ∃ p, (Ct.cut 44 l)[j]? = some p ∧ WantC p x)
def BadC (l : List UInt8) : Prop := l ≠ noneT ∧ (256 < (Ct.cut 44 l).length ∨ ∃ p ∈ Ct.cut 44 l, ∀ n, ¬ WantC p n)
theorem OkC.same {l : List UInt8} {xs ys : List (Nat × Nat)} (h : OkC l xs) (g : OkC l ys) : ys = xs := by
  rcases h with ⟨h1, h2⟩ | ⟨h1, h2, h3, h4⟩ <;> rcases g with ⟨g1, g2⟩ | ⟨g1, g2, g3, g4⟩
  · rw [h2, g2]
  · exact absurd h1 g1
  · exact absurd g1 h1
  · apply List.ext_getElem?
    intro j
    by_cases hj : j < xs.length
    · obtain ⟨p, e1, e2⟩ := h4 j _ (List.getElem?_eq_getElem hj)
      obtain ⟨q, e3, e4⟩ := g4 j _ (List.getElem?_eq_getElem (show j < ys.length by omega))
      rw [e1] at e3
      injection e3 with e3
      rw [← e3] at e4
      rw [List.getElem?_eq_getElem hj, List.getElem?_eq_getElem (show j < ys.length by omega), WantC.one e2 e4]
    · rw [List.getElem?_eq_none (by omega), List.getElem?_eq_none (by omega)]
theorem OkC.not {l : List UInt8} {xs : List (Nat × Nat)} (h : OkC l xs) (g : BadC l) : False := by
  rcases h with ⟨h1, h2⟩ | ⟨h1, h2, h3, h4⟩
  · exact g.1 h1
  · rcases g.2 with g2 | ⟨p, hp, hn⟩
    · omega
    · obtain ⟨j, hj, e⟩ := List.getElem_of_mem hp
      obtain ⟨q, e1, e2⟩ := h4 j _ (List.getElem?_eq_getElem (show j < xs.length by omega))
      rw [List.getElem?_eq_getElem hj] at e1
      injection e1 with e1
      rw [e] at e1
      rw [← e1] at e2
      exact hn _ e2
theorem wantC_snoc {ps : List ByteArray} {xs : List (Nat × Nat)} {p : ByteArray} {r : Nat × Nat} (h : ∀ (j : Nat) x, xs[j]? = some x → ∃ p : ByteArray, ps[j]? = some p ∧ WantC p.data.toList x) (hp : ps[xs.length]? = some p) (hw : WantC p.data.toList r) :
    ∀ (j : Nat) x, (xs ++ [r])[j]? = some x → ∃ p : ByteArray, ps[j]? = some p ∧ WantC p.data.toList x := by
  intro j x hx
  by_cases hj : j < xs.length
  · rw [List.getElem?_append_left hj] at hx
    exact h j x hx
  · rw [List.getElem?_append_right (by omega)] at hx
    have hj2 : j - xs.length < [r].length := (List.getElem?_eq_some_iff.1 hx).1
    have : j = xs.length := by simp at hj2; omega
    subst this
    simp at hx
    exact ⟨p, hp, by rw [← hx]; exact hw⟩
theorem okC_all {l : List UInt8} {ps : List ByteArray} {xs : List (Nat × Nat)} (hn : l ≠ noneT) (hcut : Ct.cut 44 l = ps.map (·.data.toList)) (hl : xs.length = ps.length) (h64 : ps.length ≤ 256) (h : ∀ (j : Nat) x, xs[j]? = some x → ∃ p : ByteArray, ps[j]? = some p ∧ WantC p.data.toList x) : OkC l xs := by
  refine .inr ⟨hn, by omega, by rw [hcut, List.length_map, hl], fun j x hx => ?_⟩
  obtain ⟨p, h1, h2⟩ := h j x hx
  exact ⟨_, by rw [hcut, List.getElem?_map, h1]; rfl, h2⟩
theorem badC_one {l : List UInt8} {ps : List ByteArray} {p : ByteArray} {j : Nat} (hn : l ≠ noneT) (hcut : Ct.cut 44 l = ps.map (·.data.toList)) (hp : ps[j]? = some p) (h : ∀ n, ¬ WantC p.data.toList n) : BadC l :=
  ⟨hn, .inr ⟨p.data.toList, by rw [hcut]; exact List.mem_map_of_mem (List.mem_of_getElem? hp), h⟩⟩

/-- What both sides answer. -/
def RcV (l : List UInt8) (w : World) (e : Ending) (w' : World) : Prop :=
  ∃ v xs b, e = .returned (.tuple #[v, .bool b]) ∧ xs.length ≤ 256 ∧ ((b = true ∧ OkC l xs) ∨ (b = false ∧ BadC l ∧ xs = [])) ∧ OwnC w' w.heap.size v xs ∧ Below w.heap.size w w'
theorem rc_same {l : List UInt8} {xs ys : List (Nat × Nat)} {b c : Bool} (h : (b = true ∧ OkC l xs) ∨ (b = false ∧ BadC l ∧ xs = [])) (g : (c = true ∧ OkC l ys) ∨ (c = false ∧ BadC l ∧ ys = [])) : ys = xs ∧ c = b := by
  rcases h with ⟨rfl, h⟩ | ⟨rfl, h, rfl⟩ <;> rcases g with ⟨rfl, g⟩ | ⟨rfl, g, rfl⟩
  · exact ⟨h.same g, rfl⟩
  · exact (h.not g).elim
  · exact (g.not h).elim
  · exact ⟨rfl, rfl⟩
theorem rc_bad {l : List UInt8} {w w' : World} (h : BadC l) (hb : Below w.heap.size w w') : RcV l w (.returned (.tuple #[.slice none 0 0, .bool false])) w' :=
  ⟨_, [], false, rfl, by simp, .inr ⟨rfl, h, rfl⟩, World.ownsRow_nil _ _ _ _, hb⟩
theorem OkC.len {l : List UInt8} {xs : List (Nat × Nat)} (h : OkC l xs) : xs.length ≤ 256 := by
  rcases h with ⟨_, rfl⟩ | ⟨_, h, _⟩
  · simp
  · exact h
theorem rc_ok {l : List UInt8} {w w' : World} {v : Value} {xs : List (Nat × Nat)} (h : OkC l xs) (ho : OwnC w' w.heap.size v xs) (hb : Below w.heap.size w w') : RcV l w (.returned (.tuple #[v, .bool true])) w' :=
  ⟨_, xs, true, rfl, h.len, .inl ⟨rfl, h⟩, ho, hb⟩

def NumCAt (ps : List ByteArray) (gp cp n : Nat) (w : World) (v iv : Value) (wr : World) : Prop :=
  ∃ (k g cap : Nat) (xs : List (Nat × Nat)), k ≤ n ∧ iv = .int .i64 k ∧ v = .slice (some ⟨g, 0, none⟩) k cap ∧ k = xs.length ∧ (∀ (j : Nat) x, xs[j]? = some x → ∃ p : ByteArray, ps[j]? = some p ∧ WantC p.data.toList x) ∧
    OwnC wr w.heap.size v xs ∧ OwnT wr w.heap.size (.slice (some ⟨gp, 0, none⟩) n cp) ps ∧ Below w.heap.size w wr

set_option maxRecDepth 100000 in
set_option maxHeartbeats 4000000 in
theorem l01CRead_calls (s : ByteArray) (hmax : s.size ≤ 1048576) (w : World) : Calls Tryd.prog 48 #[.string s] w (RcV s.data.toList w) := by
  obtain ⟨i0, hi, hz0, hz1, hz2⟩ := info_parts Tryd.infoC
  by_cases hnone : s.data.toList = noneT
  · have hb : (s.toList == [110, 111, 110, 101]) = true := by rw [bytes_toList, hnone]; rfl
    have HN := Frame.hid hnone
    clear hnone
    go_enter Tryd.func48, Tryd.ntmps48
    go_wp2_with fail
    go_ret2
    exact rc_ok (.inl ⟨HN.out, rfl⟩) (none_litC w) ((Below.refl _ _).alloc (Nat.le_refl _) _)
  · have hb : (s.toList == [110, 111, 110, 101]) = false := by rw [bytes_toList, beq_eq_false_iff_ne]; exact hnone
    have HN := Frame.hid hnone
    clear hnone
    go_enter Tryd.func48, Tryd.ntmps48
    go_wp2_with fail
    refine (l01Cut_calls s 44 hmax _).mono ?_
    rintro e w1 ⟨gp, cp, ps, rfl, hcut, hT, hB1⟩
    obtain ⟨n, hpn⟩ : ∃ n, n = ps.length := ⟨_, rfl⟩
    rw [← hpn] at hT ⊢
    have HPN := Frame.hid hpn
    have HC := Frame.hid hcut
    have hsz1 := hB1.size
    have HOW := Frame.hid (OwnC.below (none_litC w) hB1)
    have HT : Hid (OwnT w1 w.heap.size (.slice (some ⟨gp, 0, none⟩) n cp) ps) := by
      have h := own_mono hT (base' := w.heap.size) (by simp)
      exact h
    have HB1 : Hid (Below w.heap.size w w1) := (((Below.refl w.heap.size w).alloc (Nat.le_refl _) _)).trans (hB1.mono (by simp))
    clear hpn hcut hB1 hT hb
    by_cases h64 : 256 < n
    · go_wp2_with fail
      go_ret2
      exact rc_bad ⟨HN.out, .inl (by have := HC.out; rw [this, List.length_map, ← HPN.out]; exact h64)⟩ HB1.out
    · go_wp2_with fail
      go_loopw [4, 6] (fun v i wr => NumCAt ps gp cp n w v i wr) (fun _ i _ => n - (Go.RowKit.intOf i).toNat)
      case atStart => exact ⟨0, _, 0, [], Nat.zero_le _, rfl, rfl, rfl, fun j x hx => by simp at hx, HOW.out, HT.out, HB1.out⟩
      case round =>
        obtain ⟨k, g, cap, xs, hk, rfl, rfl, hkx, hW, hO, hT, hB⟩ := hrel
        have HKX := Frame.hid hkx
        have HW0 := Frame.hid hW
        have HO := Frame.hid hO
        have HT := Frame.hid hT
        have HB := Frame.hid hB
        clear hkx hW hO hT hB HOW HB1
        by_cases hlt : k < n
        · obtain ⟨p, hp⟩ : ∃ p, ps[k]? = some p := ⟨_, List.getElem?_eq_getElem (by have := HPN.out; omega)⟩
          have hc1 := HT.out.cell HPN.out hp
          have hpl := part_le HC.out hp
          have HP := Frame.hid hp
          clear hp
          by_cases h16 : p.size = 16
          · have HL := Frame.hid (half_left p)
            have HR := Frame.hid (half_right p h16)
            have s1 := Frame.hid (size_left p h16)
            have s2 := Frame.hid (size_right p h16)
            have H16 := Frame.hid h16
            have HPL := Frame.hid hpl
            clear hpl
            go_wp2_with fail
            refine (l01Digits_calls (p.extract 0 8) s1.out _).mono ?_
            rintro e w2 ⟨r1, t1, rfl, hA1, hB1⟩
            have HA1 := Frame.hid hA1
            have HB1 := Frame.hid (HB.out.trans (hB1.mono HB.out.size))
            have HO1 := Frame.hid (OwnC.below HO.out hB1)
            have HT1 : Hid (OwnT w2 w.heap.size (.slice (some ⟨gp, 0, none⟩) n cp) ps) := own_below HT.out hB1
            have hc2 := HT1.out.cell HPN.out HP.out
            clear hA1 hB1 hc1
            go_wp2_with fail
            refine (l01Digits_calls (p.extract 8 16) s2.out _).mono ?_
            rintro e w3 ⟨r2, t2, rfl, hA2, hB2⟩
            have HA2 := Frame.hid hA2
            have HO2 := Frame.hid (OwnC.below HO1.out hB2)
            have HT2 : Hid (OwnT w3 w.heap.size (.slice (some ⟨gp, 0, none⟩) n cp) ps) := own_below HT1.out hB2
            have HB2 := Frame.hid (HB1.out.trans (hB2.mono HB1.out.size))
            clear hA2 hB2 hc2
            rcases HA1.out with ⟨rfl, h1⟩ | ⟨rfl, rfl, h1⟩
            · rcases HA2.out with ⟨rfl, h2⟩ | ⟨rfl, rfl, h2⟩
              · have HW : Hid (WantC p.data.toList (r1, r2)) := by
                  rw [HL.out] at h1
                  rw [HR.out] at h2
                  exact ⟨by rw [size_list]; exact H16.out, h1, h2⟩
                have hO1 : w3.ownsRow w.heap.size 63 1 (.slice (some ⟨g, 0, none⟩) k cap) k (cl xs) := by have h := HO2.out; unfold OwnC at h; rwa [← HKX.out] at h
                have hgB : w.heap.size ≤ g := (World.ownsRow.lt hO1 g rfl).1
                have HGB := Frame.hid hgB
                have hsz := HB2.out.size
                clear hgB h1 h2 HA1 HA2
                go_wp2_with (at_builtin; refine wpList_append_own _ rfl _ _ 36 rfl w.heap.size 63 i0 (.complex .f32 0 0) 1 8 Tryd.underlying36 hi hz0 hz1 hz2 rfl (by decide) _ _ _ rfl (hO1.alloc _) ⟨w3.heap.size, 0, none⟩ 1 1 [.complex .f32 r1 r2] rfl rfl (cell_one_new _ _ _) (fun x hx => by simp at hx; subst hx; rfl) (by unfold maxLen; omega) (by omega) (by simp; omega) ?_; intro v' w4 hown' hgrow3 hnil3; obtain ⟨g', cap', rfl, hO2⟩ := own_appC (x := (r1, r2)) HKX.out hown')
                have hgrow4 : (w3.alloc (.cells #[.complex .f32 r1 r2] 63)).grownBy w4 (some g) := hgrow3
                have HB3 : Hid (Below w.heap.size w w4) := Below.grown (HB2.out.alloc hsz _) hgrow4 (by simp; omega) (fun k hk => by injection hk with hk; rw [← hk]; exact HGB.out)
                have HT3 : Hid (OwnT w4 w.heap.size (.slice (some ⟨gp, 0, none⟩) n cp) ps) := World.ownsRow.kept (World.ownsRow.alloc HT2.out _) hgrow4 (rows_apart HT2.out hO1 (by decide))
                have HO3 := Frame.hid hO2
                clear hgrow3 hgrow4 hnil3 hown' hO1 hO2 hsz
                go_roundw
                case rel => exact ⟨k + 1, g', cap', _, by omega, by go_num, rfl, by rw [List.length_append, HKX.out]; rfl, wantC_snoc HW0.out (by rw [← HKX.out]; exact HP.out) HW.out, HO3.out, HT3.out, HB3.out⟩
                case measure => simp [Go.RowKit.intOf]; omega
              · have HBAD := Frame.hid (badC_one HN.out HC.out HP.out (noC_right (by rw [← HR.out]; exact h2)))
                clear h1 h2 HA1 HA2
                go_wp2_with fail
                go_ret2
                exact rc_bad HBAD.out HB2.out
            · have HBAD := Frame.hid (badC_one HN.out HC.out HP.out (noC_left (by rw [← HL.out]; exact h1)))
              clear h1 HA1 HA2
              go_wp2_with fail
              go_ret2
              exact rc_bad HBAD.out HB2.out
          · have HBAD := Frame.hid (badC_one HN.out HC.out HP.out (noC_len h16))
            rcases (by omega : p.size < 16 ∨ 16 < p.size) with h9 | h9
            all_goals
              clear h16
              go_wp2_with fail
              go_ret2
              exact rc_bad HBAD.out HB.out
        · have hkn : k = n := by omega
          subst hkn
          have HOK := Frame.hid (okC_all HN.out HC.out (by rw [← HKX.out, HPN.out]) (by rw [← HPN.out]; omega) HW0.out)
          go_wp2_with fail
          go_ret2
          exact rc_ok HOK.out HO.out HB.out

theorem specReadComplex_calls (s : ByteArray) (hmax : s.size ≤ 1048576) (w : World) : Calls Tryd.prog 22 #[.string s] w (RcV s.data.toList w) := by
  go_enter Tryd.func22, Tryd.ntmps22
  go_wp2_with fail
  refine (l01CRead_calls s hmax _).mono ?_
  rintro e w1 ⟨v, xs, b, rfl, hl, hA, hO, hB⟩
  have HA := Frame.hid hA
  have HO := Frame.hid hO
  have HB := Frame.hid hB
  have HL := Frame.hid hl
  clear hA hO hB hl
  go_wp2_with fail
  go_ret2
  exact ⟨_, xs, _, rfl, HL.out, HA.out, HO.out, HB.out⟩

end Go.Proofs.YtnflmdlhcjjfdacDoor
