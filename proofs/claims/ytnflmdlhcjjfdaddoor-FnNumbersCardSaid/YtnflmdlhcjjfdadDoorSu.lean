/-
  The laws of sums of 32-bit numbers, walked.
-/
import Derived.Test.YtnflmdlhcjjfdadDoorSl
namespace Go.Proofs.YtnflmdlhcjjfdadDoor
open Go.RowKit Fl

theorem SumV_same {xs : List Nat} {r r' : Nat} {t t' : Bool} (h : (xs.length ≤ 256 ∧ t = true ∧ SumTo xs xs.length r) ∨ (256 < xs.length ∧ t = false ∧ r = 0))
    (h' : (xs.length ≤ 256 ∧ t' = true ∧ SumTo xs xs.length r') ∨ (256 < xs.length ∧ t' = false ∧ r' = 0)) : t' = t ∧ FSame .f32 r' r := by
  rcases h with ⟨h1, h2, h3⟩ | ⟨h1, h2, h3⟩ <;> rcases h' with ⟨g1, g2, g3⟩ | ⟨g1, g2, g3⟩
  · exact ⟨by rw [h2, g2], SumTo.same g3 h3⟩
  · omega
  · omega
  · exact ⟨by rw [h2, g2], .inl (by rw [h3, g3])⟩

theorem below_step {w w1 w2 : World} {n : Nat} (h : Below w.heap.size w w1) (h2 : Below (w1.drewN n).heap.size (w1.drewN n) w2) : Below w.heap.size w w2 :=
  (below_drewN h n).trans (h2.mono h.size)

end Go.Proofs.YtnflmdlhcjjfdadDoor
