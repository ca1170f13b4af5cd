/-
  The law of NearestTile, walked.
-/
import Derived.Test.YtnhpiebddelebaaKn
namespace Go.Proofs.Ytnhpiebddelebaa
open Go.RowKit Fl Go.WideShapes Go.Deep
attribute [local go_sem] kstore_f kalloc_drewN kset_drewN

end Go.Proofs.Ytnhpiebddelebaa
