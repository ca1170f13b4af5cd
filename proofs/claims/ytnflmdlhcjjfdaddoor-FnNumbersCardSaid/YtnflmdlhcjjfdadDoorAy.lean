/-
  The specification's angle, walked.
-/
import Derived.Test.YtnflmdlhcjjfdadDoorAx
namespace Go.Proofs.YtnflmdlhcjjfdadDoor
open Go.RowKit Fl
attribute [local go_sem] unary_neg_f

end Go.Proofs.YtnflmdlhcjjfdadDoor
