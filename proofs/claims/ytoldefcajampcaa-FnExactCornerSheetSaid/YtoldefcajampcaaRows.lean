/-
  No cell of these rows narrows 'for every input' (looked for: loops, veiled, ifaces, maps, wideKeys, modest, calm, conditions, laid).
  DERIVED. THE GIVEN ROWS OF THIS SEAT. 12 by the template 'for every input the law returns true; each argument reads behind the call as it read before'; 0 by the template 'total and deterministic' (their statements: YtoldefcajampcaaTotals.lean).
  GIVEN WITH THE SEED: the statements are not yours to turn. If you find one false, say at which input.
  Laid BY PROGRAM, IN A SANDBOX (cutbox-rows.mjs): the forced cells as the released guide's own fill.sh prints them over the translation e26fbad2b6e91543… (all of the seat's roots in one cut). By AI agents, Wed Nov 11 2026. No macro, syntax, notation, axiom, sorry.
-/
import Derived.Test.YtoldefcajampcaaChecked
import GoSem.Claim
import GoSem.ClaimJoined
import GoSem.ClaimMapViews
import Derived.JoinedTies
import Derived.KernelRfl
namespace Go.Proofs.Ytoldefcajampcaa
/- THE CELL 'sum', in the pinned program and in every row, IS THE sha256 OF THE DUMP (.gsa) THAT YtoldefcajampcaaProg.lean LOADS. Nothing in Lean hashes anything: it is a label: what it is worth is what the hold of that sum in a sandbox is worth. -/
noncomputable def Try.pinned : Pinned := { name := "ytoldefcajampcaa", sum := "e26fbad2b6e91543d6a2157517207e7c7cf2721da4b4c255c6c211ba2b07aed0", checked := Try.checked }
namespace Rows
def none {H : Type} : Left H := { results := [], args := [] }

/-- 'laws.FnExactIsSpot': WHATEVER THE INPUT: true; the input reads as it did. -/
def fnExactIsSpotSpec : ChangeSpec := { name := "fnExactIsSpot", fn := fun _ => fun
  | [d] => { results := [.lit (.bool true)], args := [d] }
  | _ => none }
def fnExactIsSpotRow : OpenClaim := { program := "ytoldefcajampcaa", sum := "e26fbad2b6e91543d6a2157517207e7c7cf2721da4b4c255c6c211ba2b07aed0", func := "loop.example/g01328/laws.FnExactIsSpot", spec := "fnExactIsSpot", inPlace := ["math.Float64bits", "math.Float64frombits"], apart := false }
def FnExactIsSpotSaid : Prop := fnExactIsSpotRow.holds Try.pinned (OpenSpec.ofChange fnExactIsSpotSpec)

/-- ITS FALSE NEIGHBOUR: 'it returns false'. Refute it at one input. -/
def fnExactIsSpotWrong : ChangeSpec := { name := "fnExactIsSpot", fn := fun _ => fun
  | [d] => { results := [.lit (.bool false)], args := [d] }
  | _ => none }
def FnExactIsSpotWrongFalsely : Prop := fnExactIsSpotRow.holds Try.pinned (OpenSpec.ofChange fnExactIsSpotWrong)

/-- 'laws.FnExactSameSpot': WHATEVER THE INPUT: true; the input reads as it did. -/
def fnExactSameSpotSpec : ChangeSpec := { name := "fnExactSameSpot", fn := fun _ => fun
  | [d1, d2] => { results := [.lit (.bool true)], args := [d1, d2] }
  | _ => none }
def fnExactSameSpotRow : OpenClaim := { program := "ytoldefcajampcaa", sum := "e26fbad2b6e91543d6a2157517207e7c7cf2721da4b4c255c6c211ba2b07aed0", func := "loop.example/g01328/laws.FnExactSameSpot", spec := "fnExactSameSpot", inPlace := ["math.Float32bits"], apart := false }
def FnExactSameSpotSaid : Prop := fnExactSameSpotRow.holds Try.pinned (OpenSpec.ofChange fnExactSameSpotSpec)

/-- ITS FALSE NEIGHBOUR: 'it returns false'. Refute it at one input. -/
def fnExactSameSpotWrong : ChangeSpec := { name := "fnExactSameSpot", fn := fun _ => fun
  | [d1, d2] => { results := [.lit (.bool false)], args := [d1, d2] }
  | _ => none }
def FnExactSameSpotWrongFalsely : Prop := fnExactSameSpotRow.holds Try.pinned (OpenSpec.ofChange fnExactSameSpotWrong)

/-- 'laws.FnExactCrossSpots': WHATEVER THE INPUT: true; the input reads as it did. -/
def fnExactCrossSpotsSpec : ChangeSpec := { name := "fnExactCrossSpots", fn := fun _ => fun
  | [d1, d2] => { results := [.lit (.bool true)], args := [d1, d2] }
  | _ => none }
def fnExactCrossSpotsRow : OpenClaim := { program := "ytoldefcajampcaa", sum := "e26fbad2b6e91543d6a2157517207e7c7cf2721da4b4c255c6c211ba2b07aed0", func := "loop.example/g01328/laws.FnExactCrossSpots", spec := "fnExactCrossSpots", inPlace := ["math.Float64bits", "math.Float64frombits"], apart := false }
def FnExactCrossSpotsSaid : Prop := fnExactCrossSpotsRow.holds Try.pinned (OpenSpec.ofChange fnExactCrossSpotsSpec)

/-- ITS FALSE NEIGHBOUR: 'it returns false'. Refute it at one input. -/
def fnExactCrossSpotsWrong : ChangeSpec := { name := "fnExactCrossSpots", fn := fun _ => fun
  | [d1, d2] => { results := [.lit (.bool false)], args := [d1, d2] }
  | _ => none }
def FnExactCrossSpotsWrongFalsely : Prop := fnExactCrossSpotsRow.holds Try.pinned (OpenSpec.ofChange fnExactCrossSpotsWrong)

/-- 'laws.FnExactLongOfSpot': WHATEVER THE INPUT: true; the input reads as it did. -/
def fnExactLongOfSpotSpec : ChangeSpec := { name := "fnExactLongOfSpot", fn := fun _ => fun
  | [d] => { results := [.lit (.bool true)], args := [d] }
  | _ => none }
def fnExactLongOfSpotRow : OpenClaim := { program := "ytoldefcajampcaa", sum := "e26fbad2b6e91543d6a2157517207e7c7cf2721da4b4c255c6c211ba2b07aed0", func := "loop.example/g01328/laws.FnExactLongOfSpot", spec := "fnExactLongOfSpot", inPlace := ["math.sqrt", "math.Float64bits", "math.Float64frombits"], apart := false }
def FnExactLongOfSpotSaid : Prop := fnExactLongOfSpotRow.holds Try.pinned (OpenSpec.ofChange fnExactLongOfSpotSpec)

/-- ITS FALSE NEIGHBOUR: 'it returns false'. Refute it at one input. -/
def fnExactLongOfSpotWrong : ChangeSpec := { name := "fnExactLongOfSpot", fn := fun _ => fun
  | [d] => { results := [.lit (.bool false)], args := [d] }
  | _ => none }
def FnExactLongOfSpotWrongFalsely : Prop := fnExactLongOfSpotRow.holds Try.pinned (OpenSpec.ofChange fnExactLongOfSpotWrong)

/-- 'laws.FnExactValidSheet': WHATEVER THE INPUT: true; the input reads as it did. -/
def fnExactValidSheetSpec : ChangeSpec := { name := "fnExactValidSheet", fn := fun _ => fun
  | [d] => { results := [.lit (.bool true)], args := [d] }
  | _ => none }
def fnExactValidSheetRow : OpenClaim := { program := "ytoldefcajampcaa", sum := "e26fbad2b6e91543d6a2157517207e7c7cf2721da4b4c255c6c211ba2b07aed0", func := "loop.example/g01328/laws.FnExactValidSheet", spec := "fnExactValidSheet", inPlace := ["math.Float64bits", "math.Float64frombits"], apart := false }
def FnExactValidSheetSaid : Prop := fnExactValidSheetRow.holds Try.pinned (OpenSpec.ofChange fnExactValidSheetSpec)

/-- ITS FALSE NEIGHBOUR: 'it returns false'. Refute it at one input. -/
def fnExactValidSheetWrong : ChangeSpec := { name := "fnExactValidSheet", fn := fun _ => fun
  | [d] => { results := [.lit (.bool false)], args := [d] }
  | _ => none }
def FnExactValidSheetWrongFalsely : Prop := fnExactValidSheetRow.holds Try.pinned (OpenSpec.ofChange fnExactValidSheetWrong)

/-- 'laws.FnExactSameSheet': WHATEVER THE INPUT: true; the input reads as it did. -/
def fnExactSameSheetSpec : ChangeSpec := { name := "fnExactSameSheet", fn := fun _ => fun
  | [d1, d2] => { results := [.lit (.bool true)], args := [d1, d2] }
  | _ => none }
def fnExactSameSheetRow : OpenClaim := { program := "ytoldefcajampcaa", sum := "e26fbad2b6e91543d6a2157517207e7c7cf2721da4b4c255c6c211ba2b07aed0", func := "loop.example/g01328/laws.FnExactSameSheet", spec := "fnExactSameSheet", inPlace := ["math.Float32bits"], unfollowed := true, recurses := true, apart := false }
def FnExactSameSheetSaid : Prop := fnExactSameSheetRow.holds Try.pinned (OpenSpec.ofChange fnExactSameSheetSpec)

/-- ITS FALSE NEIGHBOUR: 'it returns false'. Refute it at one input. -/
def fnExactSameSheetWrong : ChangeSpec := { name := "fnExactSameSheet", fn := fun _ => fun
  | [d1, d2] => { results := [.lit (.bool false)], args := [d1, d2] }
  | _ => none }
def FnExactSameSheetWrongFalsely : Prop := fnExactSameSheetRow.holds Try.pinned (OpenSpec.ofChange fnExactSameSheetWrong)

/-- 'laws.FnExactFlatSheet': WHATEVER THE INPUT: true; the input reads as it did. -/
def fnExactFlatSheetSpec : ChangeSpec := { name := "fnExactFlatSheet", fn := fun _ => fun
  | [d1, d2, d3, d4] => { results := [.lit (.bool true)], args := [d1, d2, d3, d4] }
  | _ => none }
def fnExactFlatSheetRow : OpenClaim := { program := "ytoldefcajampcaa", sum := "e26fbad2b6e91543d6a2157517207e7c7cf2721da4b4c255c6c211ba2b07aed0", func := "loop.example/g01328/laws.FnExactFlatSheet", spec := "fnExactFlatSheet", inPlace := ["math.Float64bits", "math.Float64frombits"], unfollowed := true, recurses := true, apart := false }
def FnExactFlatSheetSaid : Prop := fnExactFlatSheetRow.holds Try.pinned (OpenSpec.ofChange fnExactFlatSheetSpec)

/-- ITS FALSE NEIGHBOUR: 'it returns false'. Refute it at one input. -/
def fnExactFlatSheetWrong : ChangeSpec := { name := "fnExactFlatSheet", fn := fun _ => fun
  | [d1, d2, d3, d4] => { results := [.lit (.bool false)], args := [d1, d2, d3, d4] }
  | _ => none }
def FnExactFlatSheetWrongFalsely : Prop := fnExactFlatSheetRow.holds Try.pinned (OpenSpec.ofChange fnExactFlatSheetWrong)

/-- 'laws.FnExactCornerSheet': WHATEVER THE INPUT: true; the input reads as it did. -/
def fnExactCornerSheetSpec : ChangeSpec := { name := "fnExactCornerSheet", fn := fun _ => fun
  | [d1, d2, d3, d4] => { results := [.lit (.bool true)], args := [d1, d2, d3, d4] }
  | _ => none }
def fnExactCornerSheetRow : OpenClaim := { program := "ytoldefcajampcaa", sum := "e26fbad2b6e91543d6a2157517207e7c7cf2721da4b4c255c6c211ba2b07aed0", func := "loop.example/g01328/laws.FnExactCornerSheet", spec := "fnExactCornerSheet", inPlace := ["math.Float64bits", "math.Float64frombits"], apart := false }
def FnExactCornerSheetSaid : Prop := fnExactCornerSheetRow.holds Try.pinned (OpenSpec.ofChange fnExactCornerSheetSpec)

/-- ITS FALSE NEIGHBOUR: 'it returns false'. Refute it at one input. -/
def fnExactCornerSheetWrong : ChangeSpec := { name := "fnExactCornerSheet", fn := fun _ => fun
  | [d1, d2, d3, d4] => { results := [.lit (.bool false)], args := [d1, d2, d3, d4] }
  | _ => none }
def FnExactCornerSheetWrongFalsely : Prop := fnExactCornerSheetRow.holds Try.pinned (OpenSpec.ofChange fnExactCornerSheetWrong)

/-- 'laws.FnExactMoveSpot': WHATEVER THE INPUT: true; the input reads as it did. -/
def fnExactMoveSpotSpec : ChangeSpec := { name := "fnExactMoveSpot", fn := fun _ => fun
  | [d1, d2, d3] => { results := [.lit (.bool true)], args := [d1, d2, d3] }
  | _ => none }
def fnExactMoveSpotRow : OpenClaim := { program := "ytoldefcajampcaa", sum := "e26fbad2b6e91543d6a2157517207e7c7cf2721da4b4c255c6c211ba2b07aed0", func := "loop.example/g01328/laws.FnExactMoveSpot", spec := "fnExactMoveSpot", inPlace := ["math.Float64bits", "math.Float64frombits"], apart := false }
def FnExactMoveSpotSaid : Prop := fnExactMoveSpotRow.holds Try.pinned (OpenSpec.ofChange fnExactMoveSpotSpec)

/-- ITS FALSE NEIGHBOUR: 'it returns false'. Refute it at one input. -/
def fnExactMoveSpotWrong : ChangeSpec := { name := "fnExactMoveSpot", fn := fun _ => fun
  | [d1, d2, d3] => { results := [.lit (.bool false)], args := [d1, d2, d3] }
  | _ => none }
def FnExactMoveSpotWrongFalsely : Prop := fnExactMoveSpotRow.holds Try.pinned (OpenSpec.ofChange fnExactMoveSpotWrong)

/-- 'laws.FnExactFlipSheet': WHATEVER THE INPUT: true; the input reads as it did. -/
def fnExactFlipSheetSpec : ChangeSpec := { name := "fnExactFlipSheet", fn := fun _ => fun
  | [d] => { results := [.lit (.bool true)], args := [d] }
  | _ => none }
def fnExactFlipSheetRow : OpenClaim := { program := "ytoldefcajampcaa", sum := "e26fbad2b6e91543d6a2157517207e7c7cf2721da4b4c255c6c211ba2b07aed0", func := "loop.example/g01328/laws.FnExactFlipSheet", spec := "fnExactFlipSheet", inPlace := ["math.Float64bits", "math.Float64frombits"], unfollowed := true, recurses := true, apart := false }
def FnExactFlipSheetSaid : Prop := fnExactFlipSheetRow.holds Try.pinned (OpenSpec.ofChange fnExactFlipSheetSpec)

/-- ITS FALSE NEIGHBOUR: 'it returns false'. Refute it at one input. -/
def fnExactFlipSheetWrong : ChangeSpec := { name := "fnExactFlipSheet", fn := fun _ => fun
  | [d] => { results := [.lit (.bool false)], args := [d] }
  | _ => none }
def FnExactFlipSheetWrongFalsely : Prop := fnExactFlipSheetRow.holds Try.pinned (OpenSpec.ofChange fnExactFlipSheetWrong)

/-- 'laws.FnExactBoxOfSpots': WHATEVER THE INPUT: true; the input reads as it did. -/
def fnExactBoxOfSpotsSpec : ChangeSpec := { name := "fnExactBoxOfSpots", fn := fun _ => fun
  | [d] => { results := [.lit (.bool true)], args := [d] }
  | _ => none }
def fnExactBoxOfSpotsRow : OpenClaim := { program := "ytoldefcajampcaa", sum := "e26fbad2b6e91543d6a2157517207e7c7cf2721da4b4c255c6c211ba2b07aed0", func := "loop.example/g01328/laws.FnExactBoxOfSpots", spec := "fnExactBoxOfSpots", inPlace := ["math.Float64bits", "math.Float64frombits"], apart := false }
def FnExactBoxOfSpotsSaid : Prop := fnExactBoxOfSpotsRow.holds Try.pinned (OpenSpec.ofChange fnExactBoxOfSpotsSpec)

/-- ITS FALSE NEIGHBOUR: 'it returns false'. Refute it at one input. -/
def fnExactBoxOfSpotsWrong : ChangeSpec := { name := "fnExactBoxOfSpots", fn := fun _ => fun
  | [d] => { results := [.lit (.bool false)], args := [d] }
  | _ => none }
def FnExactBoxOfSpotsWrongFalsely : Prop := fnExactBoxOfSpotsRow.holds Try.pinned (OpenSpec.ofChange fnExactBoxOfSpotsWrong)

/-- 'laws.FnExactNearestTile': WHATEVER THE INPUT: true; the input reads as it did. -/
def fnExactNearestTileSpec : ChangeSpec := { name := "fnExactNearestTile", fn := fun _ => fun
  | [d1, d2] => { results := [.lit (.bool true)], args := [d1, d2] }
  | _ => none }
def fnExactNearestTileRow : OpenClaim := { program := "ytoldefcajampcaa", sum := "e26fbad2b6e91543d6a2157517207e7c7cf2721da4b4c255c6c211ba2b07aed0", func := "loop.example/g01328/laws.FnExactNearestTile", spec := "fnExactNearestTile", inPlace := ["math.sqrt", "math.Float64bits", "math.Float64frombits"], apart := false }
def FnExactNearestTileSaid : Prop := fnExactNearestTileRow.holds Try.pinned (OpenSpec.ofChange fnExactNearestTileSpec)

/-- ITS FALSE NEIGHBOUR: 'it returns false'. Refute it at one input. -/
def fnExactNearestTileWrong : ChangeSpec := { name := "fnExactNearestTile", fn := fun _ => fun
  | [d1, d2] => { results := [.lit (.bool false)], args := [d1, d2] }
  | _ => none }
def FnExactNearestTileWrongFalsely : Prop := fnExactNearestTileRow.holds Try.pinned (OpenSpec.ofChange fnExactNearestTileWrong)

/- THE SECOND FORM. 'bulk': how many values and letters a reading holds, each counted each time it is reached (what is shared counts as often as it is met; a slice's spare places count too). A statement '..UptoSaid' is the law's where the arguments, and the package variables that the reading takes, are together of bulk at most 1048576: NARROWER than '..Said'. Prove '..Said' where nothing that the law and all that it calls make is longer than what came in: it says more and counts as full. Else prove '..UptoSaid'. A law counts once. -/
mutual
def uptoBulk {H : Type} : DataW H → Nat
  | .lit (.string bytes) => bytes.length + 1
  | .lit _ => 1
  | .nil => 1
  | .ptr d => uptoBulk d + 1
  | .slice elems spare => uptoBulkAll elems + uptoBulkAll spare + 1
  | .agg parts => uptoBulkAll parts + 1
  | .iface _ d => uptoBulk d + 1
  | .map entries => uptoBulkEntries entries + 1
  | .held _ => 1
def uptoBulkAll {H : Type} : List (DataW H) → Nat
  | [] => 0
  | d :: r => uptoBulk d + uptoBulkAll r
def uptoBulkEntries {H : Type} : List (Lit × DataW H) → Nat
  | [] => 0
  | x :: r => uptoBulkEntry x + uptoBulkEntries r
def uptoBulkEntry {H : Type} : Lit × DataW H → Nat
  | (.string bytes, d) => bytes.length + uptoBulk d + 1
  | (_, d) => uptoBulk d + 1
 end
def uptoSmall : (H : Type) → List (DataW H) → Bool := fun _ ds => decide (uptoBulkAll ds ≤ 1048576)
def OpenSpec.upto (s : _root_.Go.ChangeSpec) : _root_.Go.OpenSpec := { _root_.Go.OpenSpec.ofChange s with cond := some uptoSmall }

/-- 'laws.FnExactIsSpot', WHERE WHAT IT READS IS OF BULK AT MOST 1048576: true; the input reads as it did. -/
def fnExactIsSpotUptoRow : OpenClaim := { program := "ytoldefcajampcaa", sum := "e26fbad2b6e91543d6a2157517207e7c7cf2721da4b4c255c6c211ba2b07aed0", func := "loop.example/g01328/laws.FnExactIsSpot", spec := "fnExactIsSpot", inPlace := ["math.Float64bits", "math.Float64frombits"], apart := false, narrowed := true }
def FnExactIsSpotUptoSaid : Prop := fnExactIsSpotUptoRow.holds Try.pinned (OpenSpec.upto fnExactIsSpotSpec)

/-- 'laws.FnExactSameSpot', WHERE WHAT IT READS IS OF BULK AT MOST 1048576: true; the input reads as it did. -/
def fnExactSameSpotUptoRow : OpenClaim := { program := "ytoldefcajampcaa", sum := "e26fbad2b6e91543d6a2157517207e7c7cf2721da4b4c255c6c211ba2b07aed0", func := "loop.example/g01328/laws.FnExactSameSpot", spec := "fnExactSameSpot", inPlace := ["math.Float32bits"], apart := false, narrowed := true }
def FnExactSameSpotUptoSaid : Prop := fnExactSameSpotUptoRow.holds Try.pinned (OpenSpec.upto fnExactSameSpotSpec)

/-- 'laws.FnExactCrossSpots', WHERE WHAT IT READS IS OF BULK AT MOST 1048576: true; the input reads as it did. -/
def fnExactCrossSpotsUptoRow : OpenClaim := { program := "ytoldefcajampcaa", sum := "e26fbad2b6e91543d6a2157517207e7c7cf2721da4b4c255c6c211ba2b07aed0", func := "loop.example/g01328/laws.FnExactCrossSpots", spec := "fnExactCrossSpots", inPlace := ["math.Float64bits", "math.Float64frombits"], apart := false, narrowed := true }
def FnExactCrossSpotsUptoSaid : Prop := fnExactCrossSpotsUptoRow.holds Try.pinned (OpenSpec.upto fnExactCrossSpotsSpec)

/-- 'laws.FnExactLongOfSpot', WHERE WHAT IT READS IS OF BULK AT MOST 1048576: true; the input reads as it did. -/
def fnExactLongOfSpotUptoRow : OpenClaim := { program := "ytoldefcajampcaa", sum := "e26fbad2b6e91543d6a2157517207e7c7cf2721da4b4c255c6c211ba2b07aed0", func := "loop.example/g01328/laws.FnExactLongOfSpot", spec := "fnExactLongOfSpot", inPlace := ["math.sqrt", "math.Float64bits", "math.Float64frombits"], apart := false, narrowed := true }
def FnExactLongOfSpotUptoSaid : Prop := fnExactLongOfSpotUptoRow.holds Try.pinned (OpenSpec.upto fnExactLongOfSpotSpec)

/-- 'laws.FnExactValidSheet', WHERE WHAT IT READS IS OF BULK AT MOST 1048576: true; the input reads as it did. -/
def fnExactValidSheetUptoRow : OpenClaim := { program := "ytoldefcajampcaa", sum := "e26fbad2b6e91543d6a2157517207e7c7cf2721da4b4c255c6c211ba2b07aed0", func := "loop.example/g01328/laws.FnExactValidSheet", spec := "fnExactValidSheet", inPlace := ["math.Float64bits", "math.Float64frombits"], apart := false, narrowed := true }
def FnExactValidSheetUptoSaid : Prop := fnExactValidSheetUptoRow.holds Try.pinned (OpenSpec.upto fnExactValidSheetSpec)

/-- 'laws.FnExactSameSheet', WHERE WHAT IT READS IS OF BULK AT MOST 1048576: true; the input reads as it did. -/
def fnExactSameSheetUptoRow : OpenClaim := { program := "ytoldefcajampcaa", sum := "e26fbad2b6e91543d6a2157517207e7c7cf2721da4b4c255c6c211ba2b07aed0", func := "loop.example/g01328/laws.FnExactSameSheet", spec := "fnExactSameSheet", inPlace := ["math.Float32bits"], unfollowed := true, recurses := true, apart := false, narrowed := true }
def FnExactSameSheetUptoSaid : Prop := fnExactSameSheetUptoRow.holds Try.pinned (OpenSpec.upto fnExactSameSheetSpec)

/-- 'laws.FnExactFlatSheet', WHERE WHAT IT READS IS OF BULK AT MOST 1048576: true; the input reads as it did. -/
def fnExactFlatSheetUptoRow : OpenClaim := { program := "ytoldefcajampcaa", sum := "e26fbad2b6e91543d6a2157517207e7c7cf2721da4b4c255c6c211ba2b07aed0", func := "loop.example/g01328/laws.FnExactFlatSheet", spec := "fnExactFlatSheet", inPlace := ["math.Float64bits", "math.Float64frombits"], unfollowed := true, recurses := true, apart := false, narrowed := true }
def FnExactFlatSheetUptoSaid : Prop := fnExactFlatSheetUptoRow.holds Try.pinned (OpenSpec.upto fnExactFlatSheetSpec)

/-- 'laws.FnExactCornerSheet', WHERE WHAT IT READS IS OF BULK AT MOST 1048576: true; the input reads as it did. -/
def fnExactCornerSheetUptoRow : OpenClaim := { program := "ytoldefcajampcaa", sum := "e26fbad2b6e91543d6a2157517207e7c7cf2721da4b4c255c6c211ba2b07aed0", func := "loop.example/g01328/laws.FnExactCornerSheet", spec := "fnExactCornerSheet", inPlace := ["math.Float64bits", "math.Float64frombits"], apart := false, narrowed := true }
def FnExactCornerSheetUptoSaid : Prop := fnExactCornerSheetUptoRow.holds Try.pinned (OpenSpec.upto fnExactCornerSheetSpec)

/-- 'laws.FnExactMoveSpot', WHERE WHAT IT READS IS OF BULK AT MOST 1048576: true; the input reads as it did. -/
def fnExactMoveSpotUptoRow : OpenClaim := { program := "ytoldefcajampcaa", sum := "e26fbad2b6e91543d6a2157517207e7c7cf2721da4b4c255c6c211ba2b07aed0", func := "loop.example/g01328/laws.FnExactMoveSpot", spec := "fnExactMoveSpot", inPlace := ["math.Float64bits", "math.Float64frombits"], apart := false, narrowed := true }
def FnExactMoveSpotUptoSaid : Prop := fnExactMoveSpotUptoRow.holds Try.pinned (OpenSpec.upto fnExactMoveSpotSpec)

/-- 'laws.FnExactFlipSheet', WHERE WHAT IT READS IS OF BULK AT MOST 1048576: true; the input reads as it did. -/
def fnExactFlipSheetUptoRow : OpenClaim := { program := "ytoldefcajampcaa", sum := "e26fbad2b6e91543d6a2157517207e7c7cf2721da4b4c255c6c211ba2b07aed0", func := "loop.example/g01328/laws.FnExactFlipSheet", spec := "fnExactFlipSheet", inPlace := ["math.Float64bits", "math.Float64frombits"], unfollowed := true, recurses := true, apart := false, narrowed := true }
def FnExactFlipSheetUptoSaid : Prop := fnExactFlipSheetUptoRow.holds Try.pinned (OpenSpec.upto fnExactFlipSheetSpec)

/-- 'laws.FnExactBoxOfSpots', WHERE WHAT IT READS IS OF BULK AT MOST 1048576: true; the input reads as it did. -/
def fnExactBoxOfSpotsUptoRow : OpenClaim := { program := "ytoldefcajampcaa", sum := "e26fbad2b6e91543d6a2157517207e7c7cf2721da4b4c255c6c211ba2b07aed0", func := "loop.example/g01328/laws.FnExactBoxOfSpots", spec := "fnExactBoxOfSpots", inPlace := ["math.Float64bits", "math.Float64frombits"], apart := false, narrowed := true }
def FnExactBoxOfSpotsUptoSaid : Prop := fnExactBoxOfSpotsUptoRow.holds Try.pinned (OpenSpec.upto fnExactBoxOfSpotsSpec)

/-- 'laws.FnExactNearestTile', WHERE WHAT IT READS IS OF BULK AT MOST 1048576: true; the input reads as it did. -/
def fnExactNearestTileUptoRow : OpenClaim := { program := "ytoldefcajampcaa", sum := "e26fbad2b6e91543d6a2157517207e7c7cf2721da4b4c255c6c211ba2b07aed0", func := "loop.example/g01328/laws.FnExactNearestTile", spec := "fnExactNearestTile", inPlace := ["math.sqrt", "math.Float64bits", "math.Float64frombits"], apart := false, narrowed := true }
def FnExactNearestTileUptoSaid : Prop := fnExactNearestTileUptoRow.holds Try.pinned (OpenSpec.upto fnExactNearestTileSpec)

end Rows
end Go.Proofs.Ytoldefcajampcaa
