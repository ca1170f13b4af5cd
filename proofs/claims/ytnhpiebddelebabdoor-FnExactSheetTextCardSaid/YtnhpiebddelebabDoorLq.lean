/-
  The text of a list: the law, walked.
-/
import Derived.Test.YtnhpiebddelebabDoorLp
namespace Go.Proofs.YtnhpiebddelebabDoor
open Go.RowKit Go.Lib Rd Go.WideShapes

end Go.Proofs.YtnhpiebddelebabDoor
