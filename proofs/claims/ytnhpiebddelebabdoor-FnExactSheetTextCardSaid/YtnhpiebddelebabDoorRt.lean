/-
  The square root of a number, walked on both sides.
-/
import Derived.Test.YtnhpiebddelebabDoorSc
import Derived.Test.YtnhpiebddelebabDoorBd
namespace Go.Proofs.YtnhpiebddelebabDoor
open Go.RowKit Fl

/-- What RootNumber may give. -/
def RootR (b r : Nat) : Prop := ∃ y q, FCv .f32 .f64 b y ∧ FSq y q ∧ FCv .f64 .f32 q r
theorem RootR.same {b r r' : Nat} (h : RootR b r) (h' : RootR b r') : FSame .f32 r r' := by
  obtain ⟨y, q, h1, h2, h3⟩ := h
  obtain ⟨y', q', g1, g2, g3⟩ := h'
  have hy := wide_same (FSame.refl _ _) h1 g1
  exact told_same (FSq.same hy h2 g2) (sqrt_told h1 h2) h3 g3

end Go.Proofs.YtnhpiebddelebabDoor
