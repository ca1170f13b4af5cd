/-
  No cell of these rows narrows 'for every input' (looked for: loops, veiled, ifaces, maps, wideKeys, modest, calm, conditions, laid).
  DERIVED. THE GIVEN ROWS OF THIS SEAT. 4 by the template 'for every input the law returns true; each argument reads behind the call as it read before'; 0 by the template 'total and deterministic' (their statements: YtfkdkdocbecjmaaTotals.lean).
  GIVEN WITH THE SEED: the statements are not yours to turn. If you find one false, say at which input.
  Laid BY PROGRAM, IN A SANDBOX (cutbox-rows.mjs): the forced cells as the released guide's own fill.sh prints them over the translation 349de520c1191dbb… (all of the seat's roots in one cut). By AI agents, Wed Nov 11 2026. No macro, syntax, notation, axiom, sorry.
-/
import Derived.Test.YtfkdkdocbecjmaaChecked
import GoSem.Claim
import GoSem.ClaimJoined
import GoSem.ClaimMapViews
import Derived.JoinedTies
import Derived.KernelRfl
namespace Go.Proofs.Ytfkdkdocbecjmaa
/- THE CELL 'sum', in the pinned program and in every row, IS THE sha256 OF THE DUMP (.gsa) THAT YtfkdkdocbecjmaaProg.lean LOADS. Nothing in Lean hashes anything: it is a label: what it is worth is what the hold of that sum in a sandbox is worth. -/
noncomputable def Try.pinned : Pinned := { name := "ytfkdkdocbecjmaa", sum := "349de520c1191dbb89aaa21283e1a8541b0c9f72e966948bf31a23dc7c827b99", checked := Try.checked }
namespace Rows
def none {H : Type} : Left H := { results := [], args := [] }

/-- 'laws.FnExactCutSheet': WHATEVER THE INPUT: true; the input reads as it did. -/
def fnExactCutSheetSpec : ChangeSpec := { name := "fnExactCutSheet", fn := fun _ => fun
  | [d1, d2] => { results := [.lit (.bool true)], args := [d1, d2] }
  | _ => none }
def fnExactCutSheetRow : OpenClaim := { program := "ytfkdkdocbecjmaa", sum := "349de520c1191dbb89aaa21283e1a8541b0c9f72e966948bf31a23dc7c827b99", func := "loop.example/g01328/laws.FnExactCutSheet", spec := "fnExactCutSheet", inPlace := ["math.Float64bits", "math.Float64frombits"], unfollowed := true, recurses := true, apart := false }
def FnExactCutSheetSaid : Prop := fnExactCutSheetRow.holds Try.pinned (OpenSpec.ofChange fnExactCutSheetSpec)

/-- ITS FALSE NEIGHBOUR: 'it returns false'. Refute it at one input. -/
def fnExactCutSheetWrong : ChangeSpec := { name := "fnExactCutSheet", fn := fun _ => fun
  | [d1, d2] => { results := [.lit (.bool false)], args := [d1, d2] }
  | _ => none }
def FnExactCutSheetWrongFalsely : Prop := fnExactCutSheetRow.holds Try.pinned (OpenSpec.ofChange fnExactCutSheetWrong)

/-- 'laws.FnExactAreaOfTiles': WHATEVER THE INPUT: true; the input reads as it did. -/
def fnExactAreaOfTilesSpec : ChangeSpec := { name := "fnExactAreaOfTiles", fn := fun _ => fun
  | [d1, d2, d3] => { results := [.lit (.bool true)], args := [d1, d2, d3] }
  | _ => none }
def fnExactAreaOfTilesRow : OpenClaim := { program := "ytfkdkdocbecjmaa", sum := "349de520c1191dbb89aaa21283e1a8541b0c9f72e966948bf31a23dc7c827b99", func := "loop.example/g01328/laws.FnExactAreaOfTiles", spec := "fnExactAreaOfTiles", inPlace := ["math.sqrt", "math.Float64bits", "math.Float64frombits"], unfollowed := true, recurses := true, apart := false }
def FnExactAreaOfTilesSaid : Prop := fnExactAreaOfTilesRow.holds Try.pinned (OpenSpec.ofChange fnExactAreaOfTilesSpec)

/-- ITS FALSE NEIGHBOUR: 'it returns false'. Refute it at one input. -/
def fnExactAreaOfTilesWrong : ChangeSpec := { name := "fnExactAreaOfTiles", fn := fun _ => fun
  | [d1, d2, d3] => { results := [.lit (.bool false)], args := [d1, d2, d3] }
  | _ => none }
def FnExactAreaOfTilesWrongFalsely : Prop := fnExactAreaOfTilesRow.holds Try.pinned (OpenSpec.ofChange fnExactAreaOfTilesWrong)

/-- 'laws.FnExactNaturalBends': WHATEVER THE INPUT: true; the input reads as it did. -/
def fnExactNaturalBendsSpec : ChangeSpec := { name := "fnExactNaturalBends", fn := fun _ => fun
  | [d1, d2] => { results := [.lit (.bool true)], args := [d1, d2] }
  | _ => none }
def fnExactNaturalBendsRow : OpenClaim := { program := "ytfkdkdocbecjmaa", sum := "349de520c1191dbb89aaa21283e1a8541b0c9f72e966948bf31a23dc7c827b99", func := "loop.example/g01328/laws.FnExactNaturalBends", spec := "fnExactNaturalBends", inPlace := ["math.Float64bits", "math.Float64frombits"], unfollowed := true, recurses := true, apart := false }
def FnExactNaturalBendsSaid : Prop := fnExactNaturalBendsRow.holds Try.pinned (OpenSpec.ofChange fnExactNaturalBendsSpec)

/-- ITS FALSE NEIGHBOUR: 'it returns false'. Refute it at one input. -/
def fnExactNaturalBendsWrong : ChangeSpec := { name := "fnExactNaturalBends", fn := fun _ => fun
  | [d1, d2] => { results := [.lit (.bool false)], args := [d1, d2] }
  | _ => none }
def FnExactNaturalBendsWrongFalsely : Prop := fnExactNaturalBendsRow.holds Try.pinned (OpenSpec.ofChange fnExactNaturalBendsWrong)

/-- 'laws.FnExactSteadySlopes': WHATEVER THE INPUT: true; the input reads as it did. -/
def fnExactSteadySlopesSpec : ChangeSpec := { name := "fnExactSteadySlopes", fn := fun _ => fun
  | [d1, d2] => { results := [.lit (.bool true)], args := [d1, d2] }
  | _ => none }
def fnExactSteadySlopesRow : OpenClaim := { program := "ytfkdkdocbecjmaa", sum := "349de520c1191dbb89aaa21283e1a8541b0c9f72e966948bf31a23dc7c827b99", func := "loop.example/g01328/laws.FnExactSteadySlopes", spec := "fnExactSteadySlopes", inPlace := ["math.sqrt", "math.Float64bits", "math.Float64frombits"], unfollowed := true, recurses := true, apart := false }
def FnExactSteadySlopesSaid : Prop := fnExactSteadySlopesRow.holds Try.pinned (OpenSpec.ofChange fnExactSteadySlopesSpec)

/-- ITS FALSE NEIGHBOUR: 'it returns false'. Refute it at one input. -/
def fnExactSteadySlopesWrong : ChangeSpec := { name := "fnExactSteadySlopes", fn := fun _ => fun
  | [d1, d2] => { results := [.lit (.bool false)], args := [d1, d2] }
  | _ => none }
def FnExactSteadySlopesWrongFalsely : Prop := fnExactSteadySlopesRow.holds Try.pinned (OpenSpec.ofChange fnExactSteadySlopesWrong)

/- THE SECOND FORM. 'bulk': how many values and letters a reading holds, each counted each time it is reached (what is shared counts as often as it is met; a slice's spare places count too). A statement '..UptoSaid' is the law's where the arguments, and the package variables that the reading takes, are together of bulk at most 1048576: NARROWER than '..Said'. Prove '..Said' where nothing that the law and all that it calls make is longer than what came in: it says more and counts as full. Else prove '..UptoSaid'. A law counts once. -/
mutual
def uptoBulk {H : Type} : DataW H → Nat
  | .lit (.string bytes) => bytes.length + 1
  | .lit _ => 1
  | .nil => 1
  | .ptr d => uptoBulk d + 1
  | .slice elems spare => uptoBulkAll elems + uptoBulkAll spare + 1
  | .agg parts => uptoBulkAll parts + 1
  | .iface _ d => uptoBulk d + 1
  | .map entries => uptoBulkEntries entries + 1
  | .held _ => 1
def uptoBulkAll {H : Type} : List (DataW H) → Nat
  | [] => 0
  | d :: r => uptoBulk d + uptoBulkAll r
def uptoBulkEntries {H : Type} : List (Lit × DataW H) → Nat
  | [] => 0
  | x :: r => uptoBulkEntry x + uptoBulkEntries r
def uptoBulkEntry {H : Type} : Lit × DataW H → Nat
  | (.string bytes, d) => bytes.length + uptoBulk d + 1
  | (_, d) => uptoBulk d + 1
 end
def uptoSmall : (H : Type) → List (DataW H) → Bool := fun _ ds => decide (uptoBulkAll ds ≤ 1048576)
def OpenSpec.upto (s : _root_.Go.ChangeSpec) : _root_.Go.OpenSpec := { _root_.Go.OpenSpec.ofChange s with cond := some uptoSmall }

/-- 'laws.FnExactCutSheet', WHERE WHAT IT READS IS OF BULK AT MOST 1048576: true; the input reads as it did. -/
def fnExactCutSheetUptoRow : OpenClaim := { program := "ytfkdkdocbecjmaa", sum := "349de520c1191dbb89aaa21283e1a8541b0c9f72e966948bf31a23dc7c827b99", func := "loop.example/g01328/laws.FnExactCutSheet", spec := "fnExactCutSheet", inPlace := ["math.Float64bits", "math.Float64frombits"], unfollowed := true, recurses := true, apart := false, narrowed := true }
def FnExactCutSheetUptoSaid : Prop := fnExactCutSheetUptoRow.holds Try.pinned (OpenSpec.upto fnExactCutSheetSpec)

/-- 'laws.FnExactAreaOfTiles', WHERE WHAT IT READS IS OF BULK AT MOST 1048576: true; the input reads as it did. -/
def fnExactAreaOfTilesUptoRow : OpenClaim := { program := "ytfkdkdocbecjmaa", sum := "349de520c1191dbb89aaa21283e1a8541b0c9f72e966948bf31a23dc7c827b99", func := "loop.example/g01328/laws.FnExactAreaOfTiles", spec := "fnExactAreaOfTiles", inPlace := ["math.sqrt", "math.Float64bits", "math.Float64frombits"], unfollowed := true, recurses := true, apart := false, narrowed := true }
def FnExactAreaOfTilesUptoSaid : Prop := fnExactAreaOfTilesUptoRow.holds Try.pinned (OpenSpec.upto fnExactAreaOfTilesSpec)

/-- 'laws.FnExactNaturalBends', WHERE WHAT IT READS IS OF BULK AT MOST 1048576: true; the input reads as it did. -/
def fnExactNaturalBendsUptoRow : OpenClaim := { program := "ytfkdkdocbecjmaa", sum := "349de520c1191dbb89aaa21283e1a8541b0c9f72e966948bf31a23dc7c827b99", func := "loop.example/g01328/laws.FnExactNaturalBends", spec := "fnExactNaturalBends", inPlace := ["math.Float64bits", "math.Float64frombits"], unfollowed := true, recurses := true, apart := false, narrowed := true }
def FnExactNaturalBendsUptoSaid : Prop := fnExactNaturalBendsUptoRow.holds Try.pinned (OpenSpec.upto fnExactNaturalBendsSpec)

/-- 'laws.FnExactSteadySlopes', WHERE WHAT IT READS IS OF BULK AT MOST 1048576: true; the input reads as it did. -/
def fnExactSteadySlopesUptoRow : OpenClaim := { program := "ytfkdkdocbecjmaa", sum := "349de520c1191dbb89aaa21283e1a8541b0c9f72e966948bf31a23dc7c827b99", func := "loop.example/g01328/laws.FnExactSteadySlopes", spec := "fnExactSteadySlopes", inPlace := ["math.sqrt", "math.Float64bits", "math.Float64frombits"], unfollowed := true, recurses := true, apart := false, narrowed := true }
def FnExactSteadySlopesUptoSaid : Prop := fnExactSteadySlopesUptoRow.holds Try.pinned (OpenSpec.upto fnExactSteadySlopesSpec)

end Rows
end Go.Proofs.Ytfkdkdocbecjmaa
