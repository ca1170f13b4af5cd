/-
  The specification's logarithm, walked.
-/
import Derived.Test.YtnflmdlhcjjfdadLx
namespace Go.Proofs.Ytnflmdlhcjjfdad
open Go.RowKit Fl

end Go.Proofs.Ytnflmdlhcjjfdad
