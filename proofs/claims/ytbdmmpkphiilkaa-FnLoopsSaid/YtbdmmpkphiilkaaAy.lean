/-
  The specification's angle, walked.
-/
import Derived.Test.YtbdmmpkphiilkaaAx
namespace Go.Proofs.Ytbdmmpkphiilkaa
open Go.RowKit Fl
attribute [local go_sem] unary_neg_f

end Go.Proofs.Ytbdmmpkphiilkaa
