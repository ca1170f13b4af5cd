/-
  The tables of powers and logarithms of eighths, reckoned by the kernel: another part.
  Own work; imports nothing of the program.
-/
import Derived.Test.YtnflmdlhcjjfdacPt
namespace Go.Proofs.Ytnflmdlhcjjfdac
namespace Fl
set_option maxRecDepth 100000 in
set_option maxHeartbeats 0 in
theorem allP2 : allB ((tabX.drop 26).take 13) ((tabAw.drop 26).take 13) (tabZ.drop 26) (tabCw.drop 26) (tabM.drop 26) = true := by decide +kernel
end Fl
end Go.Proofs.Ytnflmdlhcjjfdac
