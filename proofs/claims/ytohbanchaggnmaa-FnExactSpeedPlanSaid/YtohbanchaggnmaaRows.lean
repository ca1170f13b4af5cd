/-
  No cell of these rows narrows 'for every input' (looked for: loops, veiled, ifaces, maps, wideKeys, modest, calm, conditions, laid).
  DERIVED. THE GIVEN ROWS OF THIS SEAT. 12 by the template 'for every input the law returns true; each argument reads behind the call as it read before'; 0 by the template 'total and deterministic' (their statements: YtohbanchaggnmaaTotals.lean).
  GIVEN WITH THE SEED: the statements are not yours to turn. If you find one false, say at which input.
  Laid BY PROGRAM, IN A SANDBOX (cutbox-rows.mjs): the forced cells as the released guide's own fill.sh prints them over the translation 55c408cb6609612a… (all of the seat's roots in one cut). By AI agents, Wed Nov 11 2026. No macro, syntax, notation, axiom, sorry.
-/
import Derived.Test.YtohbanchaggnmaaChecked
import GoSem.Claim
import GoSem.ClaimJoined
import GoSem.ClaimMapViews
import Derived.JoinedTies
import Derived.KernelRfl
namespace Go.Proofs.Ytohbanchaggnmaa
/- THE CELL 'sum', in the pinned program and in every row, IS THE sha256 OF THE DUMP (.gsa) THAT YtohbanchaggnmaaProg.lean LOADS. Nothing in Lean hashes anything: it is a label: what it is worth is what the hold of that sum in a sandbox is worth. -/
noncomputable def Try.pinned : Pinned := { name := "ytohbanchaggnmaa", sum := "55c408cb6609612ac793903b2b2afe86e064434a1148a37a30e41b7142cbc84e", checked := Try.checked }
namespace Rows
def none {H : Type} : Left H := { results := [], args := [] }

/-- 'laws.FnExactSlopesAt': WHATEVER THE INPUT: true; the input reads as it did. -/
def fnExactSlopesAtSpec : ChangeSpec := { name := "fnExactSlopesAt", fn := fun _ => fun
  | [d1, d2, d3] => { results := [.lit (.bool true)], args := [d1, d2, d3] }
  | _ => none }
def fnExactSlopesAtRow : OpenClaim := { program := "ytohbanchaggnmaa", sum := "55c408cb6609612ac793903b2b2afe86e064434a1148a37a30e41b7142cbc84e", func := "loop.example/g01328/laws.FnExactSlopesAt", spec := "fnExactSlopesAt", inPlace := ["math.Float64bits", "math.Float64frombits"], unfollowed := true, recurses := true, apart := false }
def FnExactSlopesAtSaid : Prop := fnExactSlopesAtRow.holds Try.pinned (OpenSpec.ofChange fnExactSlopesAtSpec)

/-- ITS FALSE NEIGHBOUR: 'it returns false'. Refute it at one input. -/
def fnExactSlopesAtWrong : ChangeSpec := { name := "fnExactSlopesAt", fn := fun _ => fun
  | [d1, d2, d3] => { results := [.lit (.bool false)], args := [d1, d2, d3] }
  | _ => none }
def FnExactSlopesAtWrongFalsely : Prop := fnExactSlopesAtRow.holds Try.pinned (OpenSpec.ofChange fnExactSlopesAtWrong)

/-- 'laws.FnExactNormalAt': WHATEVER THE INPUT: true; the input reads as it did. -/
def fnExactNormalAtSpec : ChangeSpec := { name := "fnExactNormalAt", fn := fun _ => fun
  | [d1, d2, d3] => { results := [.lit (.bool true)], args := [d1, d2, d3] }
  | _ => none }
def fnExactNormalAtRow : OpenClaim := { program := "ytohbanchaggnmaa", sum := "55c408cb6609612ac793903b2b2afe86e064434a1148a37a30e41b7142cbc84e", func := "loop.example/g01328/laws.FnExactNormalAt", spec := "fnExactNormalAt", inPlace := ["math.sqrt", "math.Float64bits", "math.Float64frombits"], unfollowed := true, recurses := true, apart := false }
def FnExactNormalAtSaid : Prop := fnExactNormalAtRow.holds Try.pinned (OpenSpec.ofChange fnExactNormalAtSpec)

/-- ITS FALSE NEIGHBOUR: 'it returns false'. Refute it at one input. -/
def fnExactNormalAtWrong : ChangeSpec := { name := "fnExactNormalAt", fn := fun _ => fun
  | [d1, d2, d3] => { results := [.lit (.bool false)], args := [d1, d2, d3] }
  | _ => none }
def FnExactNormalAtWrongFalsely : Prop := fnExactNormalAtRow.holds Try.pinned (OpenSpec.ofChange fnExactNormalAtWrong)

/-- 'laws.FnExactCutSheet': WHATEVER THE INPUT: true; the input reads as it did. -/
def fnExactCutSheetSpec : ChangeSpec := { name := "fnExactCutSheet", fn := fun _ => fun
  | [d1, d2] => { results := [.lit (.bool true)], args := [d1, d2] }
  | _ => none }
def fnExactCutSheetRow : OpenClaim := { program := "ytohbanchaggnmaa", sum := "55c408cb6609612ac793903b2b2afe86e064434a1148a37a30e41b7142cbc84e", func := "loop.example/g01328/laws.FnExactCutSheet", spec := "fnExactCutSheet", inPlace := ["math.Float64bits", "math.Float64frombits"], unfollowed := true, recurses := true, apart := false }
def FnExactCutSheetSaid : Prop := fnExactCutSheetRow.holds Try.pinned (OpenSpec.ofChange fnExactCutSheetSpec)

/-- ITS FALSE NEIGHBOUR: 'it returns false'. Refute it at one input. -/
def fnExactCutSheetWrong : ChangeSpec := { name := "fnExactCutSheet", fn := fun _ => fun
  | [d1, d2] => { results := [.lit (.bool false)], args := [d1, d2] }
  | _ => none }
def FnExactCutSheetWrongFalsely : Prop := fnExactCutSheetRow.holds Try.pinned (OpenSpec.ofChange fnExactCutSheetWrong)

/-- 'laws.FnExactTilesOf': WHATEVER THE INPUT: true; the input reads as it did. -/
def fnExactTilesOfSpec : ChangeSpec := { name := "fnExactTilesOf", fn := fun _ => fun
  | [d1, d2, d3] => { results := [.lit (.bool true)], args := [d1, d2, d3] }
  | _ => none }
def fnExactTilesOfRow : OpenClaim := { program := "ytohbanchaggnmaa", sum := "55c408cb6609612ac793903b2b2afe86e064434a1148a37a30e41b7142cbc84e", func := "loop.example/g01328/laws.FnExactTilesOf", spec := "fnExactTilesOf", inPlace := ["math.Float64bits", "math.Float64frombits"], unfollowed := true, recurses := true, apart := false }
def FnExactTilesOfSaid : Prop := fnExactTilesOfRow.holds Try.pinned (OpenSpec.ofChange fnExactTilesOfSpec)

/-- ITS FALSE NEIGHBOUR: 'it returns false'. Refute it at one input. -/
def fnExactTilesOfWrong : ChangeSpec := { name := "fnExactTilesOf", fn := fun _ => fun
  | [d1, d2, d3] => { results := [.lit (.bool false)], args := [d1, d2, d3] }
  | _ => none }
def FnExactTilesOfWrongFalsely : Prop := fnExactTilesOfRow.holds Try.pinned (OpenSpec.ofChange fnExactTilesOfWrong)

/-- 'laws.FnExactAreaOfTiles': WHATEVER THE INPUT: true; the input reads as it did. -/
def fnExactAreaOfTilesSpec : ChangeSpec := { name := "fnExactAreaOfTiles", fn := fun _ => fun
  | [d1, d2, d3] => { results := [.lit (.bool true)], args := [d1, d2, d3] }
  | _ => none }
def fnExactAreaOfTilesRow : OpenClaim := { program := "ytohbanchaggnmaa", sum := "55c408cb6609612ac793903b2b2afe86e064434a1148a37a30e41b7142cbc84e", func := "loop.example/g01328/laws.FnExactAreaOfTiles", spec := "fnExactAreaOfTiles", inPlace := ["math.sqrt", "math.Float64bits", "math.Float64frombits"], unfollowed := true, recurses := true, apart := false }
def FnExactAreaOfTilesSaid : Prop := fnExactAreaOfTilesRow.holds Try.pinned (OpenSpec.ofChange fnExactAreaOfTilesSpec)

/-- ITS FALSE NEIGHBOUR: 'it returns false'. Refute it at one input. -/
def fnExactAreaOfTilesWrong : ChangeSpec := { name := "fnExactAreaOfTiles", fn := fun _ => fun
  | [d1, d2, d3] => { results := [.lit (.bool false)], args := [d1, d2, d3] }
  | _ => none }
def FnExactAreaOfTilesWrongFalsely : Prop := fnExactAreaOfTilesRow.holds Try.pinned (OpenSpec.ofChange fnExactAreaOfTilesWrong)

/-- 'laws.FnExactLevelCuts': WHATEVER THE INPUT: true; the input reads as it did. -/
def fnExactLevelCutsSpec : ChangeSpec := { name := "fnExactLevelCuts", fn := fun _ => fun
  | [d1, d2, d3, d4, d5] => { results := [.lit (.bool true)], args := [d1, d2, d3, d4, d5] }
  | _ => none }
def fnExactLevelCutsRow : OpenClaim := { program := "ytohbanchaggnmaa", sum := "55c408cb6609612ac793903b2b2afe86e064434a1148a37a30e41b7142cbc84e", func := "loop.example/g01328/laws.FnExactLevelCuts", spec := "fnExactLevelCuts", inPlace := ["math.Float64bits", "math.Float64frombits"], unfollowed := true, recurses := true, apart := false }
def FnExactLevelCutsSaid : Prop := fnExactLevelCutsRow.holds Try.pinned (OpenSpec.ofChange fnExactLevelCutsSpec)

/-- ITS FALSE NEIGHBOUR: 'it returns false'. Refute it at one input. -/
def fnExactLevelCutsWrong : ChangeSpec := { name := "fnExactLevelCuts", fn := fun _ => fun
  | [d1, d2, d3, d4, d5] => { results := [.lit (.bool false)], args := [d1, d2, d3, d4, d5] }
  | _ => none }
def FnExactLevelCutsWrongFalsely : Prop := fnExactLevelCutsRow.holds Try.pinned (OpenSpec.ofChange fnExactLevelCutsWrong)

/-- 'laws.FnExactPatchAt': WHATEVER THE INPUT: true; the input reads as it did. -/
def fnExactPatchAtSpec : ChangeSpec := { name := "fnExactPatchAt", fn := fun _ => fun
  | [d1, d2, d3, d4] => { results := [.lit (.bool true)], args := [d1, d2, d3, d4] }
  | _ => none }
def fnExactPatchAtRow : OpenClaim := { program := "ytohbanchaggnmaa", sum := "55c408cb6609612ac793903b2b2afe86e064434a1148a37a30e41b7142cbc84e", func := "loop.example/g01328/laws.FnExactPatchAt", spec := "fnExactPatchAt", inPlace := ["math.Float64bits", "math.Float64frombits"], unfollowed := true, recurses := true, apart := false }
def FnExactPatchAtSaid : Prop := fnExactPatchAtRow.holds Try.pinned (OpenSpec.ofChange fnExactPatchAtSpec)

/-- ITS FALSE NEIGHBOUR: 'it returns false'. Refute it at one input. -/
def fnExactPatchAtWrong : ChangeSpec := { name := "fnExactPatchAt", fn := fun _ => fun
  | [d1, d2, d3, d4] => { results := [.lit (.bool false)], args := [d1, d2, d3, d4] }
  | _ => none }
def FnExactPatchAtWrongFalsely : Prop := fnExactPatchAtRow.holds Try.pinned (OpenSpec.ofChange fnExactPatchAtWrong)

/-- 'laws.FnExactRaisePatch': WHATEVER THE INPUT: true; the input reads as it did. -/
def fnExactRaisePatchSpec : ChangeSpec := { name := "fnExactRaisePatch", fn := fun _ => fun
  | [d1, d2] => { results := [.lit (.bool true)], args := [d1, d2] }
  | _ => none }
def fnExactRaisePatchRow : OpenClaim := { program := "ytohbanchaggnmaa", sum := "55c408cb6609612ac793903b2b2afe86e064434a1148a37a30e41b7142cbc84e", func := "loop.example/g01328/laws.FnExactRaisePatch", spec := "fnExactRaisePatch", inPlace := ["math.Float64bits", "math.Float64frombits"], unfollowed := true, recurses := true, apart := false }
def FnExactRaisePatchSaid : Prop := fnExactRaisePatchRow.holds Try.pinned (OpenSpec.ofChange fnExactRaisePatchSpec)

/-- ITS FALSE NEIGHBOUR: 'it returns false'. Refute it at one input. -/
def fnExactRaisePatchWrong : ChangeSpec := { name := "fnExactRaisePatch", fn := fun _ => fun
  | [d1, d2] => { results := [.lit (.bool false)], args := [d1, d2] }
  | _ => none }
def FnExactRaisePatchWrongFalsely : Prop := fnExactRaisePatchRow.holds Try.pinned (OpenSpec.ofChange fnExactRaisePatchWrong)

/-- 'laws.FnExactSpeedPlan': WHATEVER THE INPUT: true; the input reads as it did. -/
def fnExactSpeedPlanSpec : ChangeSpec := { name := "fnExactSpeedPlan", fn := fun _ => fun
  | [d1, d2, d3] => { results := [.lit (.bool true)], args := [d1, d2, d3] }
  | _ => none }
def fnExactSpeedPlanRow : OpenClaim := { program := "ytohbanchaggnmaa", sum := "55c408cb6609612ac793903b2b2afe86e064434a1148a37a30e41b7142cbc84e", func := "loop.example/g01328/laws.FnExactSpeedPlan", spec := "fnExactSpeedPlan", inPlace := ["math.sqrt", "math.Float64bits", "math.Float64frombits"], unfollowed := true, recurses := true, apart := false }
def FnExactSpeedPlanSaid : Prop := fnExactSpeedPlanRow.holds Try.pinned (OpenSpec.ofChange fnExactSpeedPlanSpec)

/-- ITS FALSE NEIGHBOUR: 'it returns false'. Refute it at one input. -/
def fnExactSpeedPlanWrong : ChangeSpec := { name := "fnExactSpeedPlan", fn := fun _ => fun
  | [d1, d2, d3] => { results := [.lit (.bool false)], args := [d1, d2, d3] }
  | _ => none }
def FnExactSpeedPlanWrongFalsely : Prop := fnExactSpeedPlanRow.holds Try.pinned (OpenSpec.ofChange fnExactSpeedPlanWrong)

/-- 'laws.FnExactJerkPlan': WHATEVER THE INPUT: true; the input reads as it did. -/
def fnExactJerkPlanSpec : ChangeSpec := { name := "fnExactJerkPlan", fn := fun _ => fun
  | [d1, d2, d3, d4] => { results := [.lit (.bool true)], args := [d1, d2, d3, d4] }
  | _ => none }
def fnExactJerkPlanRow : OpenClaim := { program := "ytohbanchaggnmaa", sum := "55c408cb6609612ac793903b2b2afe86e064434a1148a37a30e41b7142cbc84e", func := "loop.example/g01328/laws.FnExactJerkPlan", spec := "fnExactJerkPlan", inPlace := ["math.sqrt", "math.Float64bits", "math.Float64frombits"], apart := false }
def FnExactJerkPlanSaid : Prop := fnExactJerkPlanRow.holds Try.pinned (OpenSpec.ofChange fnExactJerkPlanSpec)

/-- ITS FALSE NEIGHBOUR: 'it returns false'. Refute it at one input. -/
def fnExactJerkPlanWrong : ChangeSpec := { name := "fnExactJerkPlan", fn := fun _ => fun
  | [d1, d2, d3, d4] => { results := [.lit (.bool false)], args := [d1, d2, d3, d4] }
  | _ => none }
def FnExactJerkPlanWrongFalsely : Prop := fnExactJerkPlanRow.holds Try.pinned (OpenSpec.ofChange fnExactJerkPlanWrong)

/-- 'laws.FnExactPlanTime': WHATEVER THE INPUT: true; the input reads as it did. -/
def fnExactPlanTimeSpec : ChangeSpec := { name := "fnExactPlanTime", fn := fun _ => fun
  | [d] => { results := [.lit (.bool true)], args := [d] }
  | _ => none }
def fnExactPlanTimeRow : OpenClaim := { program := "ytohbanchaggnmaa", sum := "55c408cb6609612ac793903b2b2afe86e064434a1148a37a30e41b7142cbc84e", func := "loop.example/g01328/laws.FnExactPlanTime", spec := "fnExactPlanTime", inPlace := ["math.Float64bits", "math.Float64frombits"], apart := false }
def FnExactPlanTimeSaid : Prop := fnExactPlanTimeRow.holds Try.pinned (OpenSpec.ofChange fnExactPlanTimeSpec)

/-- ITS FALSE NEIGHBOUR: 'it returns false'. Refute it at one input. -/
def fnExactPlanTimeWrong : ChangeSpec := { name := "fnExactPlanTime", fn := fun _ => fun
  | [d] => { results := [.lit (.bool false)], args := [d] }
  | _ => none }
def FnExactPlanTimeWrongFalsely : Prop := fnExactPlanTimeRow.holds Try.pinned (OpenSpec.ofChange fnExactPlanTimeWrong)

/-- 'laws.FnExactPlanWay': WHATEVER THE INPUT: true; the input reads as it did. -/
def fnExactPlanWaySpec : ChangeSpec := { name := "fnExactPlanWay", fn := fun _ => fun
  | [d1, d2] => { results := [.lit (.bool true)], args := [d1, d2] }
  | _ => none }
def fnExactPlanWayRow : OpenClaim := { program := "ytohbanchaggnmaa", sum := "55c408cb6609612ac793903b2b2afe86e064434a1148a37a30e41b7142cbc84e", func := "loop.example/g01328/laws.FnExactPlanWay", spec := "fnExactPlanWay", inPlace := ["math.Float64bits", "math.Float64frombits"], unfollowed := true, recurses := true, apart := false }
def FnExactPlanWaySaid : Prop := fnExactPlanWayRow.holds Try.pinned (OpenSpec.ofChange fnExactPlanWaySpec)

/-- ITS FALSE NEIGHBOUR: 'it returns false'. Refute it at one input. -/
def fnExactPlanWayWrong : ChangeSpec := { name := "fnExactPlanWay", fn := fun _ => fun
  | [d1, d2] => { results := [.lit (.bool false)], args := [d1, d2] }
  | _ => none }
def FnExactPlanWayWrongFalsely : Prop := fnExactPlanWayRow.holds Try.pinned (OpenSpec.ofChange fnExactPlanWayWrong)

/- THE SECOND FORM. 'bulk': how many values and letters a reading holds, each counted each time it is reached (what is shared counts as often as it is met; a slice's spare places count too). A statement '..UptoSaid' is the law's where the arguments, and the package variables that the reading takes, are together of bulk at most 1048576: NARROWER than '..Said'. Prove '..Said' where nothing that the law and all that it calls make is longer than what came in: it says more and counts as full. Else prove '..UptoSaid'. A law counts once. -/
mutual
def uptoBulk {H : Type} : DataW H → Nat
  | .lit (.string bytes) => bytes.length + 1
  | .lit _ => 1
  | .nil => 1
  | .ptr d => uptoBulk d + 1
  | .slice elems spare => uptoBulkAll elems + uptoBulkAll spare + 1
  | .agg parts => uptoBulkAll parts + 1
  | .iface _ d => uptoBulk d + 1
  | .map entries => uptoBulkEntries entries + 1
  | .held _ => 1
def uptoBulkAll {H : Type} : List (DataW H) → Nat
  | [] => 0
  | d :: r => uptoBulk d + uptoBulkAll r
def uptoBulkEntries {H : Type} : List (Lit × DataW H) → Nat
  | [] => 0
  | x :: r => uptoBulkEntry x + uptoBulkEntries r
def uptoBulkEntry {H : Type} : Lit × DataW H → Nat
  | (.string bytes, d) => bytes.length + uptoBulk d + 1
  | (_, d) => uptoBulk d + 1
 end
def uptoSmall : (H : Type) → List (DataW H) → Bool := fun _ ds => decide (uptoBulkAll ds ≤ 1048576)
def OpenSpec.upto (s : _root_.Go.ChangeSpec) : _root_.Go.OpenSpec := { _root_.Go.OpenSpec.ofChange s with cond := some uptoSmall }

/-- 'laws.FnExactSlopesAt', WHERE WHAT IT READS IS OF BULK AT MOST 1048576: true; the input reads as it did. -/
def fnExactSlopesAtUptoRow : OpenClaim := { program := "ytohbanchaggnmaa", sum := "55c408cb6609612ac793903b2b2afe86e064434a1148a37a30e41b7142cbc84e", func := "loop.example/g01328/laws.FnExactSlopesAt", spec := "fnExactSlopesAt", inPlace := ["math.Float64bits", "math.Float64frombits"], unfollowed := true, recurses := true, apart := false, narrowed := true }
def FnExactSlopesAtUptoSaid : Prop := fnExactSlopesAtUptoRow.holds Try.pinned (OpenSpec.upto fnExactSlopesAtSpec)

/-- 'laws.FnExactNormalAt', WHERE WHAT IT READS IS OF BULK AT MOST 1048576: true; the input reads as it did. -/
def fnExactNormalAtUptoRow : OpenClaim := { program := "ytohbanchaggnmaa", sum := "55c408cb6609612ac793903b2b2afe86e064434a1148a37a30e41b7142cbc84e", func := "loop.example/g01328/laws.FnExactNormalAt", spec := "fnExactNormalAt", inPlace := ["math.sqrt", "math.Float64bits", "math.Float64frombits"], unfollowed := true, recurses := true, apart := false, narrowed := true }
def FnExactNormalAtUptoSaid : Prop := fnExactNormalAtUptoRow.holds Try.pinned (OpenSpec.upto fnExactNormalAtSpec)

/-- 'laws.FnExactCutSheet', WHERE WHAT IT READS IS OF BULK AT MOST 1048576: true; the input reads as it did. -/
def fnExactCutSheetUptoRow : OpenClaim := { program := "ytohbanchaggnmaa", sum := "55c408cb6609612ac793903b2b2afe86e064434a1148a37a30e41b7142cbc84e", func := "loop.example/g01328/laws.FnExactCutSheet", spec := "fnExactCutSheet", inPlace := ["math.Float64bits", "math.Float64frombits"], unfollowed := true, recurses := true, apart := false, narrowed := true }
def FnExactCutSheetUptoSaid : Prop := fnExactCutSheetUptoRow.holds Try.pinned (OpenSpec.upto fnExactCutSheetSpec)

/-- 'laws.FnExactTilesOf', WHERE WHAT IT READS IS OF BULK AT MOST 1048576: true; the input reads as it did. -/
def fnExactTilesOfUptoRow : OpenClaim := { program := "ytohbanchaggnmaa", sum := "55c408cb6609612ac793903b2b2afe86e064434a1148a37a30e41b7142cbc84e", func := "loop.example/g01328/laws.FnExactTilesOf", spec := "fnExactTilesOf", inPlace := ["math.Float64bits", "math.Float64frombits"], unfollowed := true, recurses := true, apart := false, narrowed := true }
def FnExactTilesOfUptoSaid : Prop := fnExactTilesOfUptoRow.holds Try.pinned (OpenSpec.upto fnExactTilesOfSpec)

/-- 'laws.FnExactAreaOfTiles', WHERE WHAT IT READS IS OF BULK AT MOST 1048576: true; the input reads as it did. -/
def fnExactAreaOfTilesUptoRow : OpenClaim := { program := "ytohbanchaggnmaa", sum := "55c408cb6609612ac793903b2b2afe86e064434a1148a37a30e41b7142cbc84e", func := "loop.example/g01328/laws.FnExactAreaOfTiles", spec := "fnExactAreaOfTiles", inPlace := ["math.sqrt", "math.Float64bits", "math.Float64frombits"], unfollowed := true, recurses := true, apart := false, narrowed := true }
def FnExactAreaOfTilesUptoSaid : Prop := fnExactAreaOfTilesUptoRow.holds Try.pinned (OpenSpec.upto fnExactAreaOfTilesSpec)

/-- 'laws.FnExactLevelCuts', WHERE WHAT IT READS IS OF BULK AT MOST 1048576: true; the input reads as it did. -/
def fnExactLevelCutsUptoRow : OpenClaim := { program := "ytohbanchaggnmaa", sum := "55c408cb6609612ac793903b2b2afe86e064434a1148a37a30e41b7142cbc84e", func := "loop.example/g01328/laws.FnExactLevelCuts", spec := "fnExactLevelCuts", inPlace := ["math.Float64bits", "math.Float64frombits"], unfollowed := true, recurses := true, apart := false, narrowed := true }
def FnExactLevelCutsUptoSaid : Prop := fnExactLevelCutsUptoRow.holds Try.pinned (OpenSpec.upto fnExactLevelCutsSpec)

/-- 'laws.FnExactPatchAt', WHERE WHAT IT READS IS OF BULK AT MOST 1048576: true; the input reads as it did. -/
def fnExactPatchAtUptoRow : OpenClaim := { program := "ytohbanchaggnmaa", sum := "55c408cb6609612ac793903b2b2afe86e064434a1148a37a30e41b7142cbc84e", func := "loop.example/g01328/laws.FnExactPatchAt", spec := "fnExactPatchAt", inPlace := ["math.Float64bits", "math.Float64frombits"], unfollowed := true, recurses := true, apart := false, narrowed := true }
def FnExactPatchAtUptoSaid : Prop := fnExactPatchAtUptoRow.holds Try.pinned (OpenSpec.upto fnExactPatchAtSpec)

/-- 'laws.FnExactRaisePatch', WHERE WHAT IT READS IS OF BULK AT MOST 1048576: true; the input reads as it did. -/
def fnExactRaisePatchUptoRow : OpenClaim := { program := "ytohbanchaggnmaa", sum := "55c408cb6609612ac793903b2b2afe86e064434a1148a37a30e41b7142cbc84e", func := "loop.example/g01328/laws.FnExactRaisePatch", spec := "fnExactRaisePatch", inPlace := ["math.Float64bits", "math.Float64frombits"], unfollowed := true, recurses := true, apart := false, narrowed := true }
def FnExactRaisePatchUptoSaid : Prop := fnExactRaisePatchUptoRow.holds Try.pinned (OpenSpec.upto fnExactRaisePatchSpec)

/-- 'laws.FnExactSpeedPlan', WHERE WHAT IT READS IS OF BULK AT MOST 1048576: true; the input reads as it did. -/
def fnExactSpeedPlanUptoRow : OpenClaim := { program := "ytohbanchaggnmaa", sum := "55c408cb6609612ac793903b2b2afe86e064434a1148a37a30e41b7142cbc84e", func := "loop.example/g01328/laws.FnExactSpeedPlan", spec := "fnExactSpeedPlan", inPlace := ["math.sqrt", "math.Float64bits", "math.Float64frombits"], unfollowed := true, recurses := true, apart := false, narrowed := true }
def FnExactSpeedPlanUptoSaid : Prop := fnExactSpeedPlanUptoRow.holds Try.pinned (OpenSpec.upto fnExactSpeedPlanSpec)

/-- 'laws.FnExactJerkPlan', WHERE WHAT IT READS IS OF BULK AT MOST 1048576: true; the input reads as it did. -/
def fnExactJerkPlanUptoRow : OpenClaim := { program := "ytohbanchaggnmaa", sum := "55c408cb6609612ac793903b2b2afe86e064434a1148a37a30e41b7142cbc84e", func := "loop.example/g01328/laws.FnExactJerkPlan", spec := "fnExactJerkPlan", inPlace := ["math.sqrt", "math.Float64bits", "math.Float64frombits"], apart := false, narrowed := true }
def FnExactJerkPlanUptoSaid : Prop := fnExactJerkPlanUptoRow.holds Try.pinned (OpenSpec.upto fnExactJerkPlanSpec)

/-- 'laws.FnExactPlanTime', WHERE WHAT IT READS IS OF BULK AT MOST 1048576: true; the input reads as it did. -/
def fnExactPlanTimeUptoRow : OpenClaim := { program := "ytohbanchaggnmaa", sum := "55c408cb6609612ac793903b2b2afe86e064434a1148a37a30e41b7142cbc84e", func := "loop.example/g01328/laws.FnExactPlanTime", spec := "fnExactPlanTime", inPlace := ["math.Float64bits", "math.Float64frombits"], apart := false, narrowed := true }
def FnExactPlanTimeUptoSaid : Prop := fnExactPlanTimeUptoRow.holds Try.pinned (OpenSpec.upto fnExactPlanTimeSpec)

/-- 'laws.FnExactPlanWay', WHERE WHAT IT READS IS OF BULK AT MOST 1048576: true; the input reads as it did. -/
def fnExactPlanWayUptoRow : OpenClaim := { program := "ytohbanchaggnmaa", sum := "55c408cb6609612ac793903b2b2afe86e064434a1148a37a30e41b7142cbc84e", func := "loop.example/g01328/laws.FnExactPlanWay", spec := "fnExactPlanWay", inPlace := ["math.Float64bits", "math.Float64frombits"], unfollowed := true, recurses := true, apart := false, narrowed := true }
def FnExactPlanWayUptoSaid : Prop := fnExactPlanWayUptoRow.holds Try.pinned (OpenSpec.upto fnExactPlanWaySpec)

end Rows
end Go.Proofs.Ytohbanchaggnmaa
