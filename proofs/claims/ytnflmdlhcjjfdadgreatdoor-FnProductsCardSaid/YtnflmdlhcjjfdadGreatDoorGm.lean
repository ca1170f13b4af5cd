/-
  Slices of complex numbers: marks, what is held.
-/
import Derived.Test.YtnflmdlhcjjfdadGreatDoorGo
namespace Go.Proofs.YtnflmdlhcjjfdadGreatDoor
open Go.RowKit Fl Ieee
attribute [local go_sem] run_store_c

def MarkCAt (B : Nat) (g m cap : Nat) (w : World) (k i : Value) (wr : World) : Prop :=
  ∃ q : Nat, q ≤ m ∧ k = .int .i64 (1 + (q : Int)) ∧ i = .int .i64 q ∧ ∃ zs, zs.length = m ∧ OwnC wr B (.slice (some ⟨g, 0, none⟩) m cap) zs ∧ (∀ p, p < q → zs.getD p (0, 0) = mkC p) ∧ Below B w wr

end Go.Proofs.YtnflmdlhcjjfdadGreatDoor
