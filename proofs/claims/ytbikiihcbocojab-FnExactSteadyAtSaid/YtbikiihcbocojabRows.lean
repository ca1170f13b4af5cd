/-
  No cell of these rows narrows 'for every input' (looked for: loops, veiled, ifaces, maps, wideKeys, modest, calm, conditions, laid).
  DERIVED. THE GIVEN ROWS OF THIS SEAT. 12 by the template 'for every input the law returns true; each argument reads behind the call as it read before'; 0 by the template 'total and deterministic' (their statements: YtbikiihcbocojabTotals.lean).
  GIVEN WITH THE SEED: the statements are not yours to turn. If you find one false, say at which input.
  Laid BY PROGRAM, IN A SANDBOX (cutbox-rows.mjs): the forced cells as the released guide's own fill.sh prints them over the translation a1d068537b7d3753… (all of the seat's roots in one cut). By AI agents, Wed Nov 11 2026. No macro, syntax, notation, axiom, sorry.
-/
import Derived.Test.YtbikiihcbocojabChecked
import GoSem.Claim
import GoSem.ClaimJoined
import GoSem.ClaimMapViews
import Derived.JoinedTies
import Derived.KernelRfl
namespace Go.Proofs.Ytbikiihcbocojab
/- THE CELL 'sum', in the pinned program and in every row, IS THE sha256 OF THE DUMP (.gsa) THAT YtbikiihcbocojabProg.lean LOADS. Nothing in Lean hashes anything: it is a label: what it is worth is what the hold of that sum in a sandbox is worth. -/
noncomputable def Try.pinned : Pinned := { name := "ytbikiihcbocojab", sum := "a1d068537b7d375319fbda40f151b7d92b9c6b72ebecc801f8c0e294d3d83067", checked := Try.checked }
namespace Rows
def none {H : Type} : Left H := { results := [], args := [] }

/-- 'laws.FnExactIsGraph': WHATEVER THE INPUT: true; the input reads as it did. -/
def fnExactIsGraphSpec : ChangeSpec := { name := "fnExactIsGraph", fn := fun _ => fun
  | [d1, d2] => { results := [.lit (.bool true)], args := [d1, d2] }
  | _ => none }
def fnExactIsGraphRow : OpenClaim := { program := "ytbikiihcbocojab", sum := "a1d068537b7d375319fbda40f151b7d92b9c6b72ebecc801f8c0e294d3d83067", func := "loop.example/g01328/laws.FnExactIsGraph", spec := "fnExactIsGraph", inPlace := ["math.Float64bits", "math.Float64frombits"], unfollowed := true, recurses := true, apart := false }
def FnExactIsGraphSaid : Prop := fnExactIsGraphRow.holds Try.pinned (OpenSpec.ofChange fnExactIsGraphSpec)

/-- ITS FALSE NEIGHBOUR: 'it returns false'. Refute it at one input. -/
def fnExactIsGraphWrong : ChangeSpec := { name := "fnExactIsGraph", fn := fun _ => fun
  | [d1, d2] => { results := [.lit (.bool false)], args := [d1, d2] }
  | _ => none }
def FnExactIsGraphWrongFalsely : Prop := fnExactIsGraphRow.holds Try.pinned (OpenSpec.ofChange fnExactIsGraphWrong)

/-- 'laws.FnExactRoughOf': WHATEVER THE INPUT: true; the input reads as it did. -/
def fnExactRoughOfSpec : ChangeSpec := { name := "fnExactRoughOf", fn := fun _ => fun
  | [d] => { results := [.lit (.bool true)], args := [d] }
  | _ => none }
def fnExactRoughOfRow : OpenClaim := { program := "ytbikiihcbocojab", sum := "a1d068537b7d375319fbda40f151b7d92b9c6b72ebecc801f8c0e294d3d83067", func := "loop.example/g01328/laws.FnExactRoughOf", spec := "fnExactRoughOf", inPlace := ["math.Float64bits", "math.Float64frombits"], apart := false }
def FnExactRoughOfSaid : Prop := fnExactRoughOfRow.holds Try.pinned (OpenSpec.ofChange fnExactRoughOfSpec)

/-- ITS FALSE NEIGHBOUR: 'it returns false'. Refute it at one input. -/
def fnExactRoughOfWrong : ChangeSpec := { name := "fnExactRoughOf", fn := fun _ => fun
  | [d] => { results := [.lit (.bool false)], args := [d] }
  | _ => none }
def FnExactRoughOfWrongFalsely : Prop := fnExactRoughOfRow.holds Try.pinned (OpenSpec.ofChange fnExactRoughOfWrong)

/-- 'laws.FnExactQuietList': WHATEVER THE INPUT: true; the input reads as it did. -/
def fnExactQuietListSpec : ChangeSpec := { name := "fnExactQuietList", fn := fun _ => fun
  | [d1, d2] => { results := [.lit (.bool true)], args := [d1, d2] }
  | _ => none }
def fnExactQuietListRow : OpenClaim := { program := "ytbikiihcbocojab", sum := "a1d068537b7d375319fbda40f151b7d92b9c6b72ebecc801f8c0e294d3d83067", func := "loop.example/g01328/laws.FnExactQuietList", spec := "fnExactQuietList", inPlace := ["math.Float64bits", "math.Float64frombits"], unfollowed := true, recurses := true, apart := false }
def FnExactQuietListSaid : Prop := fnExactQuietListRow.holds Try.pinned (OpenSpec.ofChange fnExactQuietListSpec)

/-- ITS FALSE NEIGHBOUR: 'it returns false'. Refute it at one input. -/
def fnExactQuietListWrong : ChangeSpec := { name := "fnExactQuietList", fn := fun _ => fun
  | [d1, d2] => { results := [.lit (.bool false)], args := [d1, d2] }
  | _ => none }
def FnExactQuietListWrongFalsely : Prop := fnExactQuietListRow.holds Try.pinned (OpenSpec.ofChange fnExactQuietListWrong)

/-- 'laws.FnExactSteadySlopes': WHATEVER THE INPUT: true; the input reads as it did. -/
def fnExactSteadySlopesSpec : ChangeSpec := { name := "fnExactSteadySlopes", fn := fun _ => fun
  | [d1, d2] => { results := [.lit (.bool true)], args := [d1, d2] }
  | _ => none }
def fnExactSteadySlopesRow : OpenClaim := { program := "ytbikiihcbocojab", sum := "a1d068537b7d375319fbda40f151b7d92b9c6b72ebecc801f8c0e294d3d83067", func := "loop.example/g01328/laws.FnExactSteadySlopes", spec := "fnExactSteadySlopes", inPlace := ["math.sqrt", "math.Float64bits", "math.Float64frombits"], unfollowed := true, recurses := true, apart := false }
def FnExactSteadySlopesSaid : Prop := fnExactSteadySlopesRow.holds Try.pinned (OpenSpec.ofChange fnExactSteadySlopesSpec)

/-- ITS FALSE NEIGHBOUR: 'it returns false'. Refute it at one input. -/
def fnExactSteadySlopesWrong : ChangeSpec := { name := "fnExactSteadySlopes", fn := fun _ => fun
  | [d1, d2] => { results := [.lit (.bool false)], args := [d1, d2] }
  | _ => none }
def FnExactSteadySlopesWrongFalsely : Prop := fnExactSteadySlopesRow.holds Try.pinned (OpenSpec.ofChange fnExactSteadySlopesWrong)

/-- 'laws.FnExactNaturalBends': WHATEVER THE INPUT: true; the input reads as it did. -/
def fnExactNaturalBendsSpec : ChangeSpec := { name := "fnExactNaturalBends", fn := fun _ => fun
  | [d1, d2] => { results := [.lit (.bool true)], args := [d1, d2] }
  | _ => none }
def fnExactNaturalBendsRow : OpenClaim := { program := "ytbikiihcbocojab", sum := "a1d068537b7d375319fbda40f151b7d92b9c6b72ebecc801f8c0e294d3d83067", func := "loop.example/g01328/laws.FnExactNaturalBends", spec := "fnExactNaturalBends", inPlace := ["math.Float64bits", "math.Float64frombits"], unfollowed := true, recurses := true, apart := false }
def FnExactNaturalBendsSaid : Prop := fnExactNaturalBendsRow.holds Try.pinned (OpenSpec.ofChange fnExactNaturalBendsSpec)

/-- ITS FALSE NEIGHBOUR: 'it returns false'. Refute it at one input. -/
def fnExactNaturalBendsWrong : ChangeSpec := { name := "fnExactNaturalBends", fn := fun _ => fun
  | [d1, d2] => { results := [.lit (.bool false)], args := [d1, d2] }
  | _ => none }
def FnExactNaturalBendsWrongFalsely : Prop := fnExactNaturalBendsRow.holds Try.pinned (OpenSpec.ofChange fnExactNaturalBendsWrong)

/-- 'laws.FnExactBentAt': WHATEVER THE INPUT: true; the input reads as it did. -/
def fnExactBentAtSpec : ChangeSpec := { name := "fnExactBentAt", fn := fun _ => fun
  | [d1, d2, d3, d4] => { results := [.lit (.bool true)], args := [d1, d2, d3, d4] }
  | _ => none }
def fnExactBentAtRow : OpenClaim := { program := "ytbikiihcbocojab", sum := "a1d068537b7d375319fbda40f151b7d92b9c6b72ebecc801f8c0e294d3d83067", func := "loop.example/g01328/laws.FnExactBentAt", spec := "fnExactBentAt", inPlace := ["math.Float64bits", "math.Float64frombits"], unfollowed := true, recurses := true, apart := false }
def FnExactBentAtSaid : Prop := fnExactBentAtRow.holds Try.pinned (OpenSpec.ofChange fnExactBentAtSpec)

/-- ITS FALSE NEIGHBOUR: 'it returns false'. Refute it at one input. -/
def fnExactBentAtWrong : ChangeSpec := { name := "fnExactBentAt", fn := fun _ => fun
  | [d1, d2, d3, d4] => { results := [.lit (.bool false)], args := [d1, d2, d3, d4] }
  | _ => none }
def FnExactBentAtWrongFalsely : Prop := fnExactBentAtRow.holds Try.pinned (OpenSpec.ofChange fnExactBentAtWrong)

/-- 'laws.FnExactSteadyAt': WHATEVER THE INPUT: true; the input reads as it did. -/
def fnExactSteadyAtSpec : ChangeSpec := { name := "fnExactSteadyAt", fn := fun _ => fun
  | [d1, d2, d3, d4] => { results := [.lit (.bool true)], args := [d1, d2, d3, d4] }
  | _ => none }
def fnExactSteadyAtRow : OpenClaim := { program := "ytbikiihcbocojab", sum := "a1d068537b7d375319fbda40f151b7d92b9c6b72ebecc801f8c0e294d3d83067", func := "loop.example/g01328/laws.FnExactSteadyAt", spec := "fnExactSteadyAt", inPlace := ["math.Float64bits", "math.Float64frombits"], unfollowed := true, recurses := true, apart := false }
def FnExactSteadyAtSaid : Prop := fnExactSteadyAtRow.holds Try.pinned (OpenSpec.ofChange fnExactSteadyAtSpec)

/-- ITS FALSE NEIGHBOUR: 'it returns false'. Refute it at one input. -/
def fnExactSteadyAtWrong : ChangeSpec := { name := "fnExactSteadyAt", fn := fun _ => fun
  | [d1, d2, d3, d4] => { results := [.lit (.bool false)], args := [d1, d2, d3, d4] }
  | _ => none }
def FnExactSteadyAtWrongFalsely : Prop := fnExactSteadyAtRow.holds Try.pinned (OpenSpec.ofChange fnExactSteadyAtWrong)

/-- 'laws.FnExactSpiralPoints': WHATEVER THE INPUT: true; the input reads as it did. -/
def fnExactSpiralPointsSpec : ChangeSpec := { name := "fnExactSpiralPoints", fn := fun _ => fun
  | [d1, d2, d3, d4] => { results := [.lit (.bool true)], args := [d1, d2, d3, d4] }
  | _ => none }
def fnExactSpiralPointsRow : OpenClaim := { program := "ytbikiihcbocojab", sum := "a1d068537b7d375319fbda40f151b7d92b9c6b72ebecc801f8c0e294d3d83067", func := "loop.example/g01328/laws.FnExactSpiralPoints", spec := "fnExactSpiralPoints", inPlace := ["math.Float32frombits", "math.Float64frombits", "math.Float64bits"], unfollowed := true, recurses := true, apart := false }
def FnExactSpiralPointsSaid : Prop := fnExactSpiralPointsRow.holds Try.pinned (OpenSpec.ofChange fnExactSpiralPointsSpec)

/-- ITS FALSE NEIGHBOUR: 'it returns false'. Refute it at one input. -/
def fnExactSpiralPointsWrong : ChangeSpec := { name := "fnExactSpiralPoints", fn := fun _ => fun
  | [d1, d2, d3, d4] => { results := [.lit (.bool false)], args := [d1, d2, d3, d4] }
  | _ => none }
def FnExactSpiralPointsWrongFalsely : Prop := fnExactSpiralPointsRow.holds Try.pinned (OpenSpec.ofChange fnExactSpiralPointsWrong)

/-- 'laws.FnExactAreaOfTiles': WHATEVER THE INPUT: true; the input reads as it did. -/
def fnExactAreaOfTilesSpec : ChangeSpec := { name := "fnExactAreaOfTiles", fn := fun _ => fun
  | [d1, d2, d3] => { results := [.lit (.bool true)], args := [d1, d2, d3] }
  | _ => none }
def fnExactAreaOfTilesRow : OpenClaim := { program := "ytbikiihcbocojab", sum := "a1d068537b7d375319fbda40f151b7d92b9c6b72ebecc801f8c0e294d3d83067", func := "loop.example/g01328/laws.FnExactAreaOfTiles", spec := "fnExactAreaOfTiles", inPlace := ["math.sqrt", "math.Float64bits", "math.Float64frombits"], unfollowed := true, recurses := true, apart := false }
def FnExactAreaOfTilesSaid : Prop := fnExactAreaOfTilesRow.holds Try.pinned (OpenSpec.ofChange fnExactAreaOfTilesSpec)

/-- ITS FALSE NEIGHBOUR: 'it returns false'. Refute it at one input. -/
def fnExactAreaOfTilesWrong : ChangeSpec := { name := "fnExactAreaOfTiles", fn := fun _ => fun
  | [d1, d2, d3] => { results := [.lit (.bool false)], args := [d1, d2, d3] }
  | _ => none }
def FnExactAreaOfTilesWrongFalsely : Prop := fnExactAreaOfTilesRow.holds Try.pinned (OpenSpec.ofChange fnExactAreaOfTilesWrong)

/-- 'laws.FnExactLevelCuts': WHATEVER THE INPUT: true; the input reads as it did. -/
def fnExactLevelCutsSpec : ChangeSpec := { name := "fnExactLevelCuts", fn := fun _ => fun
  | [d1, d2, d3, d4, d5] => { results := [.lit (.bool true)], args := [d1, d2, d3, d4, d5] }
  | _ => none }
def fnExactLevelCutsRow : OpenClaim := { program := "ytbikiihcbocojab", sum := "a1d068537b7d375319fbda40f151b7d92b9c6b72ebecc801f8c0e294d3d83067", func := "loop.example/g01328/laws.FnExactLevelCuts", spec := "fnExactLevelCuts", inPlace := ["math.Float64bits", "math.Float64frombits"], unfollowed := true, recurses := true, apart := false }
def FnExactLevelCutsSaid : Prop := fnExactLevelCutsRow.holds Try.pinned (OpenSpec.ofChange fnExactLevelCutsSpec)

/-- ITS FALSE NEIGHBOUR: 'it returns false'. Refute it at one input. -/
def fnExactLevelCutsWrong : ChangeSpec := { name := "fnExactLevelCuts", fn := fun _ => fun
  | [d1, d2, d3, d4, d5] => { results := [.lit (.bool false)], args := [d1, d2, d3, d4, d5] }
  | _ => none }
def FnExactLevelCutsWrongFalsely : Prop := fnExactLevelCutsRow.holds Try.pinned (OpenSpec.ofChange fnExactLevelCutsWrong)

/-- 'laws.FnQuiet': WHATEVER THE INPUT: true; the input reads as it did. -/
def fnQuietSpec : ChangeSpec := { name := "fnQuiet", fn := fun _ => fun
  | [d1, d2] => { results := [.lit (.bool true)], args := [d1, d2] }
  | _ => none }
def fnQuietRow : OpenClaim := { program := "ytbikiihcbocojab", sum := "a1d068537b7d375319fbda40f151b7d92b9c6b72ebecc801f8c0e294d3d83067", func := "loop.example/g01328/laws.FnQuiet", spec := "fnQuiet", inPlace := ["math.Float64bits", "math.Float64frombits"], unfollowed := true, recurses := true, apart := false }
def FnQuietSaid : Prop := fnQuietRow.holds Try.pinned (OpenSpec.ofChange fnQuietSpec)

/-- ITS FALSE NEIGHBOUR: 'it returns false'. Refute it at one input. -/
def fnQuietWrong : ChangeSpec := { name := "fnQuiet", fn := fun _ => fun
  | [d1, d2] => { results := [.lit (.bool false)], args := [d1, d2] }
  | _ => none }
def FnQuietWrongFalsely : Prop := fnQuietRow.holds Try.pinned (OpenSpec.ofChange fnQuietWrong)

/-- 'laws.FnGraphs': WHATEVER THE INPUT: true; the input reads as it did. -/
def fnGraphsSpec : ChangeSpec := { name := "fnGraphs", fn := fun _ => fun
  | [d1, d2] => { results := [.lit (.bool true)], args := [d1, d2] }
  | _ => none }
def fnGraphsRow : OpenClaim := { program := "ytbikiihcbocojab", sum := "a1d068537b7d375319fbda40f151b7d92b9c6b72ebecc801f8c0e294d3d83067", func := "loop.example/g01328/laws.FnGraphs", spec := "fnGraphs", inPlace := ["math.Float64bits", "math.Float64frombits", "math.sqrt"], unfollowed := true, recurses := true, apart := false }
def FnGraphsSaid : Prop := fnGraphsRow.holds Try.pinned (OpenSpec.ofChange fnGraphsSpec)

/-- ITS FALSE NEIGHBOUR: 'it returns false'. Refute it at one input. -/
def fnGraphsWrong : ChangeSpec := { name := "fnGraphs", fn := fun _ => fun
  | [d1, d2] => { results := [.lit (.bool false)], args := [d1, d2] }
  | _ => none }
def FnGraphsWrongFalsely : Prop := fnGraphsRow.holds Try.pinned (OpenSpec.ofChange fnGraphsWrong)

/- THE SECOND FORM. 'bulk': how many values and letters a reading holds, each counted each time it is reached (what is shared counts as often as it is met; a slice's spare places count too). A statement '..UptoSaid' is the law's where the arguments, and the package variables that the reading takes, are together of bulk at most 1048576: NARROWER than '..Said'. Prove '..Said' where nothing that the law and all that it calls make is longer than what came in: it says more and counts as full. Else prove '..UptoSaid'. A law counts once. -/
mutual
def uptoBulk {H : Type} : DataW H → Nat
  | .lit (.string bytes) => bytes.length + 1
  | .lit _ => 1
  | .nil => 1
  | .ptr d => uptoBulk d + 1
  | .slice elems spare => uptoBulkAll elems + uptoBulkAll spare + 1
  | .agg parts => uptoBulkAll parts + 1
  | .iface _ d => uptoBulk d + 1
  | .map entries => uptoBulkEntries entries + 1
  | .held _ => 1
def uptoBulkAll {H : Type} : List (DataW H) → Nat
  | [] => 0
  | d :: r => uptoBulk d + uptoBulkAll r
def uptoBulkEntries {H : Type} : List (Lit × DataW H) → Nat
  | [] => 0
  | x :: r => uptoBulkEntry x + uptoBulkEntries r
def uptoBulkEntry {H : Type} : Lit × DataW H → Nat
  | (.string bytes, d) => bytes.length + uptoBulk d + 1
  | (_, d) => uptoBulk d + 1
 end
def uptoSmall : (H : Type) → List (DataW H) → Bool := fun _ ds => decide (uptoBulkAll ds ≤ 1048576)
def OpenSpec.upto (s : _root_.Go.ChangeSpec) : _root_.Go.OpenSpec := { _root_.Go.OpenSpec.ofChange s with cond := some uptoSmall }

/-- 'laws.FnExactIsGraph', WHERE WHAT IT READS IS OF BULK AT MOST 1048576: true; the input reads as it did. -/
def fnExactIsGraphUptoRow : OpenClaim := { program := "ytbikiihcbocojab", sum := "a1d068537b7d375319fbda40f151b7d92b9c6b72ebecc801f8c0e294d3d83067", func := "loop.example/g01328/laws.FnExactIsGraph", spec := "fnExactIsGraph", inPlace := ["math.Float64bits", "math.Float64frombits"], unfollowed := true, recurses := true, apart := false, narrowed := true }
def FnExactIsGraphUptoSaid : Prop := fnExactIsGraphUptoRow.holds Try.pinned (OpenSpec.upto fnExactIsGraphSpec)

/-- 'laws.FnExactRoughOf', WHERE WHAT IT READS IS OF BULK AT MOST 1048576: true; the input reads as it did. -/
def fnExactRoughOfUptoRow : OpenClaim := { program := "ytbikiihcbocojab", sum := "a1d068537b7d375319fbda40f151b7d92b9c6b72ebecc801f8c0e294d3d83067", func := "loop.example/g01328/laws.FnExactRoughOf", spec := "fnExactRoughOf", inPlace := ["math.Float64bits", "math.Float64frombits"], apart := false, narrowed := true }
def FnExactRoughOfUptoSaid : Prop := fnExactRoughOfUptoRow.holds Try.pinned (OpenSpec.upto fnExactRoughOfSpec)

/-- 'laws.FnExactQuietList', WHERE WHAT IT READS IS OF BULK AT MOST 1048576: true; the input reads as it did. -/
def fnExactQuietListUptoRow : OpenClaim := { program := "ytbikiihcbocojab", sum := "a1d068537b7d375319fbda40f151b7d92b9c6b72ebecc801f8c0e294d3d83067", func := "loop.example/g01328/laws.FnExactQuietList", spec := "fnExactQuietList", inPlace := ["math.Float64bits", "math.Float64frombits"], unfollowed := true, recurses := true, apart := false, narrowed := true }
def FnExactQuietListUptoSaid : Prop := fnExactQuietListUptoRow.holds Try.pinned (OpenSpec.upto fnExactQuietListSpec)

/-- 'laws.FnExactSteadySlopes', WHERE WHAT IT READS IS OF BULK AT MOST 1048576: true; the input reads as it did. -/
def fnExactSteadySlopesUptoRow : OpenClaim := { program := "ytbikiihcbocojab", sum := "a1d068537b7d375319fbda40f151b7d92b9c6b72ebecc801f8c0e294d3d83067", func := "loop.example/g01328/laws.FnExactSteadySlopes", spec := "fnExactSteadySlopes", inPlace := ["math.sqrt", "math.Float64bits", "math.Float64frombits"], unfollowed := true, recurses := true, apart := false, narrowed := true }
def FnExactSteadySlopesUptoSaid : Prop := fnExactSteadySlopesUptoRow.holds Try.pinned (OpenSpec.upto fnExactSteadySlopesSpec)

/-- 'laws.FnExactNaturalBends', WHERE WHAT IT READS IS OF BULK AT MOST 1048576: true; the input reads as it did. -/
def fnExactNaturalBendsUptoRow : OpenClaim := { program := "ytbikiihcbocojab", sum := "a1d068537b7d375319fbda40f151b7d92b9c6b72ebecc801f8c0e294d3d83067", func := "loop.example/g01328/laws.FnExactNaturalBends", spec := "fnExactNaturalBends", inPlace := ["math.Float64bits", "math.Float64frombits"], unfollowed := true, recurses := true, apart := false, narrowed := true }
def FnExactNaturalBendsUptoSaid : Prop := fnExactNaturalBendsUptoRow.holds Try.pinned (OpenSpec.upto fnExactNaturalBendsSpec)

/-- 'laws.FnExactBentAt', WHERE WHAT IT READS IS OF BULK AT MOST 1048576: true; the input reads as it did. -/
def fnExactBentAtUptoRow : OpenClaim := { program := "ytbikiihcbocojab", sum := "a1d068537b7d375319fbda40f151b7d92b9c6b72ebecc801f8c0e294d3d83067", func := "loop.example/g01328/laws.FnExactBentAt", spec := "fnExactBentAt", inPlace := ["math.Float64bits", "math.Float64frombits"], unfollowed := true, recurses := true, apart := false, narrowed := true }
def FnExactBentAtUptoSaid : Prop := fnExactBentAtUptoRow.holds Try.pinned (OpenSpec.upto fnExactBentAtSpec)

/-- 'laws.FnExactSteadyAt', WHERE WHAT IT READS IS OF BULK AT MOST 1048576: true; the input reads as it did. -/
def fnExactSteadyAtUptoRow : OpenClaim := { program := "ytbikiihcbocojab", sum := "a1d068537b7d375319fbda40f151b7d92b9c6b72ebecc801f8c0e294d3d83067", func := "loop.example/g01328/laws.FnExactSteadyAt", spec := "fnExactSteadyAt", inPlace := ["math.Float64bits", "math.Float64frombits"], unfollowed := true, recurses := true, apart := false, narrowed := true }
def FnExactSteadyAtUptoSaid : Prop := fnExactSteadyAtUptoRow.holds Try.pinned (OpenSpec.upto fnExactSteadyAtSpec)

/-- 'laws.FnExactSpiralPoints', WHERE WHAT IT READS IS OF BULK AT MOST 1048576: true; the input reads as it did. -/
def fnExactSpiralPointsUptoRow : OpenClaim := { program := "ytbikiihcbocojab", sum := "a1d068537b7d375319fbda40f151b7d92b9c6b72ebecc801f8c0e294d3d83067", func := "loop.example/g01328/laws.FnExactSpiralPoints", spec := "fnExactSpiralPoints", inPlace := ["math.Float32frombits", "math.Float64frombits", "math.Float64bits"], unfollowed := true, recurses := true, apart := false, narrowed := true }
def FnExactSpiralPointsUptoSaid : Prop := fnExactSpiralPointsUptoRow.holds Try.pinned (OpenSpec.upto fnExactSpiralPointsSpec)

/-- 'laws.FnExactAreaOfTiles', WHERE WHAT IT READS IS OF BULK AT MOST 1048576: true; the input reads as it did. -/
def fnExactAreaOfTilesUptoRow : OpenClaim := { program := "ytbikiihcbocojab", sum := "a1d068537b7d375319fbda40f151b7d92b9c6b72ebecc801f8c0e294d3d83067", func := "loop.example/g01328/laws.FnExactAreaOfTiles", spec := "fnExactAreaOfTiles", inPlace := ["math.sqrt", "math.Float64bits", "math.Float64frombits"], unfollowed := true, recurses := true, apart := false, narrowed := true }
def FnExactAreaOfTilesUptoSaid : Prop := fnExactAreaOfTilesUptoRow.holds Try.pinned (OpenSpec.upto fnExactAreaOfTilesSpec)

/-- 'laws.FnExactLevelCuts', WHERE WHAT IT READS IS OF BULK AT MOST 1048576: true; the input reads as it did. -/
def fnExactLevelCutsUptoRow : OpenClaim := { program := "ytbikiihcbocojab", sum := "a1d068537b7d375319fbda40f151b7d92b9c6b72ebecc801f8c0e294d3d83067", func := "loop.example/g01328/laws.FnExactLevelCuts", spec := "fnExactLevelCuts", inPlace := ["math.Float64bits", "math.Float64frombits"], unfollowed := true, recurses := true, apart := false, narrowed := true }
def FnExactLevelCutsUptoSaid : Prop := fnExactLevelCutsUptoRow.holds Try.pinned (OpenSpec.upto fnExactLevelCutsSpec)

/-- 'laws.FnQuiet', WHERE WHAT IT READS IS OF BULK AT MOST 1048576: true; the input reads as it did. -/
def fnQuietUptoRow : OpenClaim := { program := "ytbikiihcbocojab", sum := "a1d068537b7d375319fbda40f151b7d92b9c6b72ebecc801f8c0e294d3d83067", func := "loop.example/g01328/laws.FnQuiet", spec := "fnQuiet", inPlace := ["math.Float64bits", "math.Float64frombits"], unfollowed := true, recurses := true, apart := false, narrowed := true }
def FnQuietUptoSaid : Prop := fnQuietUptoRow.holds Try.pinned (OpenSpec.upto fnQuietSpec)

/-- 'laws.FnGraphs', WHERE WHAT IT READS IS OF BULK AT MOST 1048576: true; the input reads as it did. -/
def fnGraphsUptoRow : OpenClaim := { program := "ytbikiihcbocojab", sum := "a1d068537b7d375319fbda40f151b7d92b9c6b72ebecc801f8c0e294d3d83067", func := "loop.example/g01328/laws.FnGraphs", spec := "fnGraphs", inPlace := ["math.Float64bits", "math.Float64frombits", "math.sqrt"], unfollowed := true, recurses := true, apart := false, narrowed := true }
def FnGraphsUptoSaid : Prop := fnGraphsUptoRow.holds Try.pinned (OpenSpec.upto fnGraphsSpec)

end Rows
end Go.Proofs.Ytbikiihcbocojab
