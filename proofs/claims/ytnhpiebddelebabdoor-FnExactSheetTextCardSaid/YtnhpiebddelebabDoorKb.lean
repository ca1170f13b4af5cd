/-
  Cross products and lengths of spots, walked on both sides; the laws of single spots.
-/
import Derived.Test.YtnhpiebddelebabDoorKa
namespace Go.Proofs.YtnhpiebddelebabDoor
open Go.RowKit Fl
attribute [local go_sem] kstore_f kalloc_drewN kset_drewN

end Go.Proofs.YtnhpiebddelebabDoor
