/-
  The law of ValidSheet, walked.
-/
import Derived.Test.YtnhpiebddelebabDoorKh
import Derived.Deep.RegionHeld3
namespace Go.Proofs.YtnhpiebddelebabDoor
open Go.RowKit Fl Go.WideShapes Go.Deep
attribute [local go_sem] kstore_f kalloc_drewN kset_drewN hstore_i hstore_s

end Go.Proofs.YtnhpiebddelebabDoor
