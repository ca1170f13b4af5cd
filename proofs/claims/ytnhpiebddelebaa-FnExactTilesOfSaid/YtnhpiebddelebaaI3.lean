/-
  The law of SheetAt, walked.
-/
import Derived.Test.YtnhpiebddelebaaK7
import Derived.Test.YtnhpiebddelebaaI2
namespace Go.Proofs.Ytnhpiebddelebaa
open Go.RowKit Fl Go.WideShapes Go.Deep
attribute [local go_sem] kstore_f kalloc_drewN kset_drewN hstore_i hstore_s

end Go.Proofs.Ytnhpiebddelebaa
