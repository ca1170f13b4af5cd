/-
  Products of the phasors of 64ths of turns, reckoned: part 3.
-/
import Derived.Test.YtnflmdlhcjjfdadMv
namespace Go.Proofs.Ytnflmdlhcjjfdad
namespace Fl

theorem pair_tab3 : ∀ j : Fin 16, ∀ k : Fin 64, pairO (48 + j.val) k.val = true := by decide +kernel

end Fl
end Go.Proofs.Ytnflmdlhcjjfdad
