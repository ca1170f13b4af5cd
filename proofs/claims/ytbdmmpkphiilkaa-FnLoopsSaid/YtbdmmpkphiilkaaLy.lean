/-
  The specification's logarithm, walked.
-/
import Derived.Test.YtbdmmpkphiilkaaLx
namespace Go.Proofs.Ytbdmmpkphiilkaa
open Go.RowKit Fl

end Go.Proofs.Ytbdmmpkphiilkaa
