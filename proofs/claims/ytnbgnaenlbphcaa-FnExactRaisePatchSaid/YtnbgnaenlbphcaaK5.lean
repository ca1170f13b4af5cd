/-
  MoveSpot: the specification's side.
-/
import Derived.Test.YtnbgnaenlbphcaaK4
namespace Go.Proofs.Ytnbgnaenlbphcaa
open Go.RowKit Fl Go.WideShapes Go.Deep
attribute [local go_sem] kstore_f kalloc_drewN kset_drewN hstore_i hstore_s

theorem specSpotW_calls (x y z : Nat) (w : World) : Calls Try.prog 138 #[.agg #[.float .f32 x, .float .f32 y, .float .f32 z]] w fun e w' => e = .returned (.bool (fin3 x y z)) ∧ Below w.heap.size w w' := (l04Spot_calls x y z w).mono (by rintro e w' ⟨rfl, n, rfl⟩; exact ⟨rfl, b1 _ _ _⟩)

theorem shB_mul {a b : Int} {xs : List (Nat × Nat × Nat)} (h : shB a b xs = true) : (xs.length : Int) = a * b := by
  unfold shB at h
  simp only [Bool.and_eq_true, decide_eq_true_eq] at h
  exact h.1.2

end Go.Proofs.Ytnbgnaenlbphcaa
