/-
  Tenths of a product and of its factors differ by at most 1: part 3.
  Own work; imports nothing of the program.
-/
import Derived.Test.YtnflmdlhcjjfdadTe
namespace Go.Proofs.Ytnflmdlhcjjfdad
namespace Fl

def pairOk_3 (i j : Nat) : Bool := decide (tenT (8 * (i + 1)) + tenT (8 * (j + 1)) - tenT ((i + 1) * (j + 1)) ≤ 1) && decide (tenT ((i + 1) * (j + 1)) - tenT (8 * (i + 1)) - tenT (8 * (j + 1)) ≤ 1)
theorem ten_pairs3 : ∀ i : Fin 50, ∀ j : Fin 200, pairOk_3 (150 + i.val) j.val = true := by decide +kernel

end Fl
end Go.Proofs.Ytnflmdlhcjjfdad
