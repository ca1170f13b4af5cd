/-
  The cells of a list of rises.
-/
import Derived.Test.YtfkdkdocbecjmaaB5
namespace Go.Proofs.Ytfkdkdocbecjmaa
open Go.RowKit Fl Go.WideShapes Go.Deep

theorem riseCells_at : ∀ (l : List (Nat × Nat)) (i : Nat), i < l.length → (riseCells l)[i * 2]? = some (.float .f32 (l.getD i (0, 0)).1) ∧ (riseCells l)[i * 2 + 1]? = some (.float .f32 (l.getD i (0, 0)).2)
  | [], _, h => by simp at h
  | p :: l, 0, _ => by simp [riseCells]
  | p :: l, i + 1, h => by
    have hi := riseCells_at l i (by simpa using h)
    rw [riseCells, show (i + 1) * 2 = i * 2 + 1 + 1 by omega, show i * 2 + 1 + 1 + 1 = (i * 2 + 1) + 1 + 1 by omega]
    simpa using hi
/-- Each rise gives a slope. -/
theorem RiseL.all {xs ys : List Nat} {m : Nat} {cs : List Value} (h : RiseL xs ys (List.finRange m) cs) : ∃ l : List (Nat × Nat), l.length = m ∧ cs = riseCells l ∧ ∀ i, i < m → SlR xs ys i (l.getD i (0, 0)).2 := by
  obtain ⟨l, h1, h2, h3⟩ := h
  rw [List.length_finRange] at h1
  refine ⟨l, h1, h2, fun i hi => ⟨_, h3 i (by omega) ⟨i, hi⟩ ?_⟩⟩
  rw [List.getElem?_eq_getElem (by simpa using hi), List.getElem_finRange]
  rfl

end Go.Proofs.Ytfkdkdocbecjmaa
