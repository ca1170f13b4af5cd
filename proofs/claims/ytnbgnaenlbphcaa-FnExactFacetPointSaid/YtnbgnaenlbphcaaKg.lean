/-
  Slices of spots of the call's own, cell by cell; slices.Clone of spots.
-/
import Derived.Test.YtnbgnaenlbphcaaKq
namespace Go.Proofs.Ytnbgnaenlbphcaa
open Go.RowKit Fl Go.WideShapes Go.Deep
attribute [local go_sem] kstore_f kalloc_drewN kset_drewN hstore_i hstore_s

/-- The cells of a list of spots. -/
def cellsS : List (Nat × Nat × Nat) → List Value
  | [] => []
  | p :: xs => .float .f32 p.1 :: .float .f32 p.2.1 :: .float .f32 p.2.2 :: cellsS xs
theorem cellsS_len (xs : List (Nat × Nat × Nat)) : (cellsS xs).length = xs.length * 3 := by
  induction xs with
  | nil => rfl
  | cons p xs ih => simp [cellsS, ih]; omega
theorem cellsS_get : ∀ (xs : List (Nat × Nat × Nat)) (j : Nat), j < xs.length → (cellsS xs)[j * 3]? = some (.float .f32 (sx xs j)) ∧ (cellsS xs)[j * 3 + 1]? = some (.float .f32 (sy xs j)) ∧ (cellsS xs)[j * 3 + 2]? = some (.float .f32 (sz xs j))
  | [], _, h => absurd h (by simp)
  | p :: xs, 0, _ => ⟨rfl, rfl, rfl⟩
  | p :: xs, j + 1, h => by
    have ih := cellsS_get xs j (by simpa using h)
    have e : (j + 1) * 3 = j * 3 + 3 := by omega
    rw [e]
    exact ih
theorem cellsS_append (xs ys : List (Nat × Nat × Nat)) : cellsS (xs ++ ys) = cellsS xs ++ cellsS ys := by
  induction xs with
  | nil => rfl
  | cons p xs ih => simp [cellsS, ih]
theorem cellsS_one (xs : List (Nat × Nat × Nat)) : ∀ u ∈ cellsS xs, u.oneCell' = true := by
  induction xs with
  | nil => intro u hu; cases hu
  | cons p xs ih =>
    intro u hu
    simp only [cellsS, List.mem_cons] at hu
    rcases hu with rfl | rfl | rfl | hu
    · rfl
    · rfl
    · rfl
    · exact ih u hu

/-- A slice of spots of the call's own. -/
def OwnedS (w : World) (base : Nat) (v : Value) (xs : List (Nat × Nat × Nat)) : Prop := w.ownsRow base 57 3 v xs.length (cellsS xs)
theorem OwnedS.ow {w : World} {B : Nat} {v : Value} {xs : List (Nat × Nat × Nat)} (h : OwnedS w B v xs) : OwS w B v xs.length := OwS.of h
theorem OwnedS.rd {w : World} {B : Nat} {v : Value} {xs : List (Nat × Nat × Nat)} (h : OwnedS w B v xs) : ∃ A c, v = .slice A xs.length c ∧ RdS w A xs := by
  rcases h.2 with ⟨rfl, h0⟩ | ⟨g, cap, cur, rfl, hg, hh, hn, hc, hs, ht⟩
  · have : xs = [] := List.eq_nil_of_length_eq_zero h0
    subst this
    exact ⟨none, 0, rfl, ⟨fun h => absurd h (by simp)⟩⟩
  · refine ⟨_, cap, rfl, ⟨fun _ => ⟨g, 0, rfl, (Array.getElem?_eq_some_iff.1 hh).1, fun j hj => ?_⟩⟩⟩
    have hcell : ∀ i u, (cellsS xs)[i]? = some u → w.cell? ⟨g, i, none⟩ = some u := by
      intro i u hu
      rw [cell_of_row w g i cur _ (0, 0) hh]
      rw [← ht, List.getElem?_take] at hu
      split at hu
      · simpa using hu
      · cases hu
    obtain ⟨h1, h2, h3⟩ := cellsS_get xs j hj
    rw [Nat.zero_add]
    exact ⟨hcell _ _ h1, hcell _ _ h2, hcell _ _ h3⟩
theorem none_litS (w : World) : OwnedS (w.alloc (.cells #[] 57)) w.heap.size (.slice (some ⟨w.heap.size, 0, none⟩) 0 0) [] :=
  World.ownsRow_lit w #[] 0 (Nat.le_refl _) (by unfold maxLen; omega) rfl
theorem RdS.news {w : World} {b off : Nat} {xs : List (Nat × Nat × Nat)} (h : RdS w (some ⟨b, off, none⟩) xs) (h1 : 0 < xs.length) : b < w.heap.size ∧ ∀ j u, (cellsS xs)[j]? = some u → w.cell? ((⟨b, off, none⟩ : Addr).add j) = some u := by
  obtain ⟨b', off', e, hlt, hc⟩ := h.h h1
  injection e with e
  injection e with e1 e2
  subst e1 e2
  refine ⟨hlt, fun j u hj => ?_⟩
  have hjl : j < xs.length * 3 := by have := (List.getElem?_eq_some_iff.1 hj).1; rwa [cellsS_len] at this
  have hq := hc (j / 3) (by omega)
  obtain ⟨g0, g1, g2⟩ := cellsS_get xs (j / 3) (by omega)
  rw [add_plain]
  rcases (by omega : j = j / 3 * 3 ∨ j = j / 3 * 3 + 1 ∨ j = j / 3 * 3 + 2) with h | h | h
  · rw [h, g0] at hj; rw [h]; rw [← hj]; exact hq.c0
  · rw [h, g1] at hj; rw [h, ← Nat.add_assoc]; rw [← hj]; exact hq.c1
  · rw [h, g2] at hj; rw [h, ← Nat.add_assoc]; rw [← hj]; exact hq.c2

set_option maxRecDepth 100000 in
set_option maxHeartbeats 4000000 in
theorem cloneS_calls (b off c : Nat) (xs : List (Nat × Nat × Nat)) (h1 : 1 ≤ xs.length) (hn : xs.length ≤ 100000) (w : World) (hA : RdS w (some ⟨b, off, none⟩) xs) :
    Calls Try.prog 94 #[.slice (some ⟨b, off, none⟩) xs.length c] w fun e w' => ∃ v, e = .returned v ∧ OwnedS w' w.heap.size v xs ∧ Below w.heap.size w w' := by
  obtain ⟨i0, hi, hz0, hz1, hz2⟩ := info_parts infoSpot
  obtain ⟨hlt, hnw⟩ := hA.news (by omega)
  have hnews : ∀ j u, (cellsS xs)[j]? = some u → (w.alloc (.cells #[] 57)).cell? ((⟨b, off, none⟩ : Addr).add j) = some u := by
    intro j u hj
    have := hnw j u hj
    rw [add_plain] at this ⊢
    rw [World.cell?_alloc_past _ _ _ hlt]
    exact this
  have HN := Frame.hid hnews
  have hnil : ∀ W, (binOp .eql 27 (.slice (some ⟨b, off, none⟩) xs.length c) (.slice none 0 0)).run Try.prog W = .ok (.bool false) W := by
    intro W
    simp [binOp, go_sem, run_equal_slice_nil (P := Try.prog) W 27 57 (some ⟨b, off, none⟩) xs.length c Try.underlying27]
  clear hA hnews hnw hlt
  go_enter Try.func94, Try.ntmps94
  go_wp2_with (at_builtin; refine wpList_append_own _ rfl _ _ 27 rfl w.heap.size 57 i0 (.agg #[.float .f32 0, .float .f32 0, .float .f32 0]) 3 12 Try.underlying27 hi hz0 hz1 hz2 rfl (by decide) _ _ _ rfl (none_litS w) ⟨b, off, none⟩ xs.length _ (cellsS xs) rfl (cellsS_len xs) HN.out (cellsS_one xs) (by show 0 + xs.length ≤ maxLen; unfold maxLen; omega) (by show (0 + xs.length) * 12 ≤ _; omega) (by simp) ?_; intro v' w3 hown' hgrow3 hnil3)
  have hgrow4 : (w.alloc (.cells #[] 57)).grownBy w3 (some w.heap.size) := hgrow3
  have HB : Hid (Below w.heap.size w w3) := Frame.hid (Below.grown ((Below.refl _ w).alloc (Nat.le_refl _) _) hgrow4 (by simp) (fun k hk => by injection hk with hk; omega))
  have HO : Hid (OwnedS w3 w.heap.size v' xs) := Frame.hid (by unfold OwnedS; have h := hown'; simp only [List.length_nil, Nat.zero_add, cellsS, List.nil_append] at h; exact h)
  clear hown' hgrow3 hgrow4 hnil3
  go_wp2_with fail
  go_ret
  exact ⟨_, rfl, HO.out, HB.out⟩

end Go.Proofs.Ytnbgnaenlbphcaa
