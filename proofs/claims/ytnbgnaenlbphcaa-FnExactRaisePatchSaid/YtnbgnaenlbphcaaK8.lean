/-
  FlipSheet, the program's side: the spot at a place of a sheet, the closure that exchanges rows and columns.
-/
import Derived.Test.YtnbgnaenlbphcaaK6
namespace Go.Proofs.Ytnbgnaenlbphcaa
open Go.RowKit Fl Go.WideShapes Go.Deep
attribute [local go_sem] kstore_f kalloc_drewN kset_drewN hstore_i hstore_s

end Go.Proofs.Ytnbgnaenlbphcaa
