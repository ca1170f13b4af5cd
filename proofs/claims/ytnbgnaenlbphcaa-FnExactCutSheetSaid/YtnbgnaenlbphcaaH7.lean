/-
  A spot of a sheet: the specification's side.
-/
import Derived.Test.YtnbgnaenlbphcaaH6
import Derived.Test.YtnbgnaenlbphcaaH1
namespace Go.Proofs.Ytnbgnaenlbphcaa
open Go.RowKit Fl Go.WideShapes Go.Deep
attribute [local go_sem] kstore_f kalloc_drewN kset_drewN hstore_i hstore_s

/-- What the spots of the rows are cut to. -/
def RowsL (p t : Nat) (xs zs : List (Nat × Nat × Nat)) : Prop := ∀ j, j < zs.length → ∃ ys, CutR t (p - 1) (partL xs (fun i => j * p + i) p) ys ∧ sx zs j = sx ys 0 ∧ sy zs j = sy ys 0 ∧ sz zs j = sz ys 0
theorem RowsL.nil {p t : Nat} {xs : List (Nat × Nat × Nat)} : RowsL p t xs [] := fun j h => absurd h (by simp)
theorem RowsL.snoc {p t : Nat} {xs zs ys : List (Nat × Nat × Nat)} (h : RowsL p t xs zs) (hy : CutR t (p - 1) (partL xs (fun i => zs.length * p + i) p) ys) : RowsL p t xs (zs ++ [(sx ys 0, sy ys 0, sz ys 0)]) := fun k hk => by
  rcases Nat.lt_or_ge k zs.length with hlt | hge
  · have e : (zs ++ [(sx ys 0, sy ys 0, sz ys 0)]).getD k (0, 0, 0) = zs.getD k (0, 0, 0) := by simp [List.getD, List.getElem?_append_left hlt]
    obtain ⟨zs', h1, h2⟩ := h k hlt
    obtain ⟨h2, h3, h4⟩ := h2
    refine ⟨zs', h1, ?_, ?_, ?_⟩
    · rw [← h2]; show ((zs ++ [(sx ys 0, sy ys 0, sz ys 0)]).getD k (0, 0, 0)).1 = _; rw [e]; rfl
    · rw [← h3]; show ((zs ++ [(sx ys 0, sy ys 0, sz ys 0)]).getD k (0, 0, 0)).2.1 = _; rw [e]; rfl
    · rw [← h4]; show ((zs ++ [(sx ys 0, sy ys 0, sz ys 0)]).getD k (0, 0, 0)).2.2 = _; rw [e]; rfl
  · have h0 : k = zs.length := by simp at hk; omega
    subst h0
    have e : (zs ++ [(sx ys 0, sy ys 0, sz ys 0)]).getD zs.length (0, 0, 0) = (sx ys 0, sy ys 0, sz ys 0) := by simp [List.getD]
    refine ⟨ys, hy, ?_, ?_, ?_⟩
    · show ((zs ++ [(sx ys 0, sy ys 0, sz ys 0)]).getD zs.length (0, 0, 0)).1 = _; rw [e]
    · show ((zs ++ [(sx ys 0, sy ys 0, sz ys 0)]).getD zs.length (0, 0, 0)).2.1 = _; rw [e]
    · show ((zs ++ [(sx ys 0, sy ys 0, sz ys 0)]).getD zs.length (0, 0, 0)).2.2 = _; rw [e]
theorem RowsL.same {p t q : Nat} {xs zs zs' : List (Nat × Nat × Nat)} (hp : 1 ≤ p) (h : RowsL p t xs zs) (g : RowsL p t xs zs') (hl : zs.length = q) (hl' : zs'.length = q) : LS zs zs' := by
  refine ⟨by rw [hl, hl'], fun j hj => ?_⟩
  obtain ⟨ys, h1, h2, h3, h4⟩ := h j hj
  obtain ⟨ys', g1, g2, g3, g4⟩ := g j (by omega)
  have hS := CutR.same (FSame.refl _ _) (LS.refl _) h1 g1
  have hlen : 0 < ys.length := by rw [h1.len, partL_len]; omega
  rw [h2, h3, h4, g2, g3, g4]
  exact hS.2 0 hlen
/-- The spot of a sheet. -/
def AtR (p q u v : Nat) (xs : List (Nat × Nat × Nat)) (x y z : Nat) : Prop := ∃ zs ys, zs.length = q ∧ RowsL p u xs zs ∧ CutR v (q - 1) zs ys ∧ x = sx ys 0 ∧ y = sy ys 0 ∧ z = sz ys 0
theorem AtR.same {p q u v x y z x' y' z' : Nat} {xs : List (Nat × Nat × Nat)} (hp : 1 ≤ p) (hq : 1 ≤ q) (h : AtR p q u v xs x y z) (g : AtR p q u v xs x' y' z') : S3 x y z x' y' z' := by
  obtain ⟨zs, ys, h1, h2, h3, rfl, rfl, rfl⟩ := h
  obtain ⟨zs', ys', g1, g2, g3, rfl, rfl, rfl⟩ := g
  have hS := CutR.same (FSame.refl _ _) (RowsL.same hp h2 g2 h1 g1) h3 g3
  exact hS.2 0 (by rw [h3.len]; omega)

end Go.Proofs.Ytnbgnaenlbphcaa
