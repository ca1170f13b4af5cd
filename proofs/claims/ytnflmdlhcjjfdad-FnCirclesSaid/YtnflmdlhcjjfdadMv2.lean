/-
  Products of the phasors of 64ths of turns, reckoned: part 2.
-/
import Derived.Test.YtnflmdlhcjjfdadMv
namespace Go.Proofs.Ytnflmdlhcjjfdad
namespace Fl

theorem pair_tab2 : ∀ j : Fin 16, ∀ k : Fin 64, pairO (32 + j.val) k.val = true := by decide +kernel

end Fl
end Go.Proofs.Ytnflmdlhcjjfdad
