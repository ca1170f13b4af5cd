/-
  No cell of these rows narrows 'for every input' (looked for: loops, veiled, ifaces, maps, wideKeys, modest, calm, conditions, laid).
  DERIVED. THE GIVEN ROWS OF THIS SEAT. 12 by the template 'for every input the law returns true; each argument reads behind the call as it read before'; 0 by the template 'total and deterministic' (their statements: YtnbgnaenlbphcaaTotals.lean).
  GIVEN WITH THE SEED: the statements are not yours to turn. If you find one false, say at which input.
  Laid BY PROGRAM, IN A SANDBOX (cutbox-rows.mjs): the forced cells as the released guide's own fill.sh prints them over the translation 1c90f9d14d17591b… (all of the seat's roots in one cut). By AI agents, Wed Nov 11 2026. No macro, syntax, notation, axiom, sorry.
-/
import Derived.Test.YtnbgnaenlbphcaaChecked
import GoSem.Claim
import GoSem.ClaimJoined
import GoSem.ClaimMapViews
import Derived.JoinedTies
import Derived.KernelRfl
namespace Go.Proofs.Ytnbgnaenlbphcaa
/- THE CELL 'sum', in the pinned program and in every row, IS THE sha256 OF THE DUMP (.gsa) THAT YtnbgnaenlbphcaaProg.lean LOADS. Nothing in Lean hashes anything: it is a label: what it is worth is what the hold of that sum in a sandbox is worth. -/
noncomputable def Try.pinned : Pinned := { name := "ytnbgnaenlbphcaa", sum := "1c90f9d14d17591b25f19be1e58c5b5ae8638ab92f148cf14cfdd14125b94d2d", checked := Try.checked }
namespace Rows
def none {H : Type} : Left H := { results := [], args := [] }

/-- 'laws.FnExactCutSheet': WHATEVER THE INPUT: true; the input reads as it did. -/
def fnExactCutSheetSpec : ChangeSpec := { name := "fnExactCutSheet", fn := fun _ => fun
  | [d1, d2] => { results := [.lit (.bool true)], args := [d1, d2] }
  | _ => none }
def fnExactCutSheetRow : OpenClaim := { program := "ytnbgnaenlbphcaa", sum := "1c90f9d14d17591b25f19be1e58c5b5ae8638ab92f148cf14cfdd14125b94d2d", func := "loop.example/g01328/laws.FnExactCutSheet", spec := "fnExactCutSheet", inPlace := ["math.Float64bits", "math.Float64frombits"], unfollowed := true, recurses := true, plainKeys := false, apart := false }
def FnExactCutSheetSaid : Prop := fnExactCutSheetRow.holds Try.pinned (OpenSpec.ofChange fnExactCutSheetSpec)

/-- ITS FALSE NEIGHBOUR: 'it returns false'. Refute it at one input. -/
def fnExactCutSheetWrong : ChangeSpec := { name := "fnExactCutSheet", fn := fun _ => fun
  | [d1, d2] => { results := [.lit (.bool false)], args := [d1, d2] }
  | _ => none }
def FnExactCutSheetWrongFalsely : Prop := fnExactCutSheetRow.holds Try.pinned (OpenSpec.ofChange fnExactCutSheetWrong)

/-- 'laws.FnExactSameNet': WHATEVER THE INPUT: true; the input reads as it did. -/
def fnExactSameNetSpec : ChangeSpec := { name := "fnExactSameNet", fn := fun _ => fun
  | [d1, d2] => { results := [.lit (.bool true)], args := [d1, d2] }
  | _ => none }
def fnExactSameNetRow : OpenClaim := { program := "ytnbgnaenlbphcaa", sum := "1c90f9d14d17591b25f19be1e58c5b5ae8638ab92f148cf14cfdd14125b94d2d", func := "loop.example/g01328/laws.FnExactSameNet", spec := "fnExactSameNet", inPlace := ["math.Float32bits"], unfollowed := true, recurses := true, plainKeys := false, apart := false }
def FnExactSameNetSaid : Prop := fnExactSameNetRow.holds Try.pinned (OpenSpec.ofChange fnExactSameNetSpec)

/-- ITS FALSE NEIGHBOUR: 'it returns false'. Refute it at one input. -/
def fnExactSameNetWrong : ChangeSpec := { name := "fnExactSameNet", fn := fun _ => fun
  | [d1, d2] => { results := [.lit (.bool false)], args := [d1, d2] }
  | _ => none }
def FnExactSameNetWrongFalsely : Prop := fnExactSameNetRow.holds Try.pinned (OpenSpec.ofChange fnExactSameNetWrong)

/-- 'laws.FnExactValidNet': WHATEVER THE INPUT: true; the input reads as it did. -/
def fnExactValidNetSpec : ChangeSpec := { name := "fnExactValidNet", fn := fun _ => fun
  | [d] => { results := [.lit (.bool true)], args := [d] }
  | _ => none }
def fnExactValidNetRow : OpenClaim := { program := "ytnbgnaenlbphcaa", sum := "1c90f9d14d17591b25f19be1e58c5b5ae8638ab92f148cf14cfdd14125b94d2d", func := "loop.example/g01328/laws.FnExactValidNet", spec := "fnExactValidNet", inPlace := ["math.Float64bits", "math.Float64frombits"], plainKeys := false, apart := false }
def FnExactValidNetSaid : Prop := fnExactValidNetRow.holds Try.pinned (OpenSpec.ofChange fnExactValidNetSpec)

/-- ITS FALSE NEIGHBOUR: 'it returns false'. Refute it at one input. -/
def fnExactValidNetWrong : ChangeSpec := { name := "fnExactValidNet", fn := fun _ => fun
  | [d] => { results := [.lit (.bool false)], args := [d] }
  | _ => none }
def FnExactValidNetWrongFalsely : Prop := fnExactValidNetRow.holds Try.pinned (OpenSpec.ofChange fnExactValidNetWrong)

/-- 'laws.FnExactBoxNet': WHATEVER THE INPUT: true; the input reads as it did. -/
def fnExactBoxNetSpec : ChangeSpec := { name := "fnExactBoxNet", fn := fun _ => fun
  | [d1, d2, d3] => { results := [.lit (.bool true)], args := [d1, d2, d3] }
  | _ => none }
def fnExactBoxNetRow : OpenClaim := { program := "ytnbgnaenlbphcaa", sum := "1c90f9d14d17591b25f19be1e58c5b5ae8638ab92f148cf14cfdd14125b94d2d", func := "loop.example/g01328/laws.FnExactBoxNet", spec := "fnExactBoxNet", inPlace := ["math.Float64bits", "math.Float64frombits"], plainKeys := false, apart := false }
def FnExactBoxNetSaid : Prop := fnExactBoxNetRow.holds Try.pinned (OpenSpec.ofChange fnExactBoxNetSpec)

/-- ITS FALSE NEIGHBOUR: 'it returns false'. Refute it at one input. -/
def fnExactBoxNetWrong : ChangeSpec := { name := "fnExactBoxNet", fn := fun _ => fun
  | [d1, d2, d3] => { results := [.lit (.bool false)], args := [d1, d2, d3] }
  | _ => none }
def FnExactBoxNetWrongFalsely : Prop := fnExactBoxNetRow.holds Try.pinned (OpenSpec.ofChange fnExactBoxNetWrong)

/-- 'laws.FnExactGridNet': WHATEVER THE INPUT: true; the input reads as it did. -/
def fnExactGridNetSpec : ChangeSpec := { name := "fnExactGridNet", fn := fun _ => fun
  | [d1, d2] => { results := [.lit (.bool true)], args := [d1, d2] }
  | _ => none }
def fnExactGridNetRow : OpenClaim := { program := "ytnbgnaenlbphcaa", sum := "1c90f9d14d17591b25f19be1e58c5b5ae8638ab92f148cf14cfdd14125b94d2d", func := "loop.example/g01328/laws.FnExactGridNet", spec := "fnExactGridNet", inPlace := ["math.Float64bits", "math.Float64frombits"], plainKeys := false, apart := false }
def FnExactGridNetSaid : Prop := fnExactGridNetRow.holds Try.pinned (OpenSpec.ofChange fnExactGridNetSpec)

/-- ITS FALSE NEIGHBOUR: 'it returns false'. Refute it at one input. -/
def fnExactGridNetWrong : ChangeSpec := { name := "fnExactGridNet", fn := fun _ => fun
  | [d1, d2] => { results := [.lit (.bool false)], args := [d1, d2] }
  | _ => none }
def FnExactGridNetWrongFalsely : Prop := fnExactGridNetRow.holds Try.pinned (OpenSpec.ofChange fnExactGridNetWrong)

/-- 'laws.FnExactEulerOf': WHATEVER THE INPUT: true; the input reads as it did. -/
def fnExactEulerOfSpec : ChangeSpec := { name := "fnExactEulerOf", fn := fun _ => fun
  | [d] => { results := [.lit (.bool true)], args := [d] }
  | _ => none }
def fnExactEulerOfRow : OpenClaim := { program := "ytnbgnaenlbphcaa", sum := "1c90f9d14d17591b25f19be1e58c5b5ae8638ab92f148cf14cfdd14125b94d2d", func := "loop.example/g01328/laws.FnExactEulerOf", spec := "fnExactEulerOf", inPlace := ["math.Float64bits", "math.Float64frombits"], plainKeys := false, apart := false }
def FnExactEulerOfSaid : Prop := fnExactEulerOfRow.holds Try.pinned (OpenSpec.ofChange fnExactEulerOfSpec)

/-- ITS FALSE NEIGHBOUR: 'it returns false'. Refute it at one input. -/
def fnExactEulerOfWrong : ChangeSpec := { name := "fnExactEulerOf", fn := fun _ => fun
  | [d] => { results := [.lit (.bool false)], args := [d] }
  | _ => none }
def FnExactEulerOfWrongFalsely : Prop := fnExactEulerOfRow.holds Try.pinned (OpenSpec.ofChange fnExactEulerOfWrong)

/-- 'laws.FnExactFacetPoint': WHATEVER THE INPUT: true; the input reads as it did. -/
def fnExactFacetPointSpec : ChangeSpec := { name := "fnExactFacetPoint", fn := fun _ => fun
  | [d1, d2] => { results := [.lit (.bool true)], args := [d1, d2] }
  | _ => none }
def fnExactFacetPointRow : OpenClaim := { program := "ytnbgnaenlbphcaa", sum := "1c90f9d14d17591b25f19be1e58c5b5ae8638ab92f148cf14cfdd14125b94d2d", func := "loop.example/g01328/laws.FnExactFacetPoint", spec := "fnExactFacetPoint", inPlace := ["math.Float64bits", "math.Float64frombits"], plainKeys := false, apart := false }
def FnExactFacetPointSaid : Prop := fnExactFacetPointRow.holds Try.pinned (OpenSpec.ofChange fnExactFacetPointSpec)

/-- ITS FALSE NEIGHBOUR: 'it returns false'. Refute it at one input. -/
def fnExactFacetPointWrong : ChangeSpec := { name := "fnExactFacetPoint", fn := fun _ => fun
  | [d1, d2] => { results := [.lit (.bool false)], args := [d1, d2] }
  | _ => none }
def FnExactFacetPointWrongFalsely : Prop := fnExactFacetPointRow.holds Try.pinned (OpenSpec.ofChange fnExactFacetPointWrong)

/-- 'laws.FnExactBackNet': WHATEVER THE INPUT: true; the input reads as it did. -/
def fnExactBackNetSpec : ChangeSpec := { name := "fnExactBackNet", fn := fun _ => fun
  | [d] => { results := [.lit (.bool true)], args := [d] }
  | _ => none }
def fnExactBackNetRow : OpenClaim := { program := "ytnbgnaenlbphcaa", sum := "1c90f9d14d17591b25f19be1e58c5b5ae8638ab92f148cf14cfdd14125b94d2d", func := "loop.example/g01328/laws.FnExactBackNet", spec := "fnExactBackNet", inPlace := ["math.Float64bits", "math.Float64frombits"], plainKeys := false, apart := false }
def FnExactBackNetSaid : Prop := fnExactBackNetRow.holds Try.pinned (OpenSpec.ofChange fnExactBackNetSpec)

/-- ITS FALSE NEIGHBOUR: 'it returns false'. Refute it at one input. -/
def fnExactBackNetWrong : ChangeSpec := { name := "fnExactBackNet", fn := fun _ => fun
  | [d] => { results := [.lit (.bool false)], args := [d] }
  | _ => none }
def FnExactBackNetWrongFalsely : Prop := fnExactBackNetRow.holds Try.pinned (OpenSpec.ofChange fnExactBackNetWrong)

/-- 'laws.FnExactVolumeOfNet': WHATEVER THE INPUT: true; the input reads as it did. -/
def fnExactVolumeOfNetSpec : ChangeSpec := { name := "fnExactVolumeOfNet", fn := fun _ => fun
  | [d] => { results := [.lit (.bool true)], args := [d] }
  | _ => none }
def fnExactVolumeOfNetRow : OpenClaim := { program := "ytnbgnaenlbphcaa", sum := "1c90f9d14d17591b25f19be1e58c5b5ae8638ab92f148cf14cfdd14125b94d2d", func := "loop.example/g01328/laws.FnExactVolumeOfNet", spec := "fnExactVolumeOfNet", inPlace := ["math.Float64bits", "math.Float64frombits"], unfollowed := true, recurses := true, plainKeys := false, apart := false }
def FnExactVolumeOfNetSaid : Prop := fnExactVolumeOfNetRow.holds Try.pinned (OpenSpec.ofChange fnExactVolumeOfNetSpec)

/-- ITS FALSE NEIGHBOUR: 'it returns false'. Refute it at one input. -/
def fnExactVolumeOfNetWrong : ChangeSpec := { name := "fnExactVolumeOfNet", fn := fun _ => fun
  | [d] => { results := [.lit (.bool false)], args := [d] }
  | _ => none }
def FnExactVolumeOfNetWrongFalsely : Prop := fnExactVolumeOfNetRow.holds Try.pinned (OpenSpec.ofChange fnExactVolumeOfNetWrong)

/-- 'laws.FnExactAreaOfNet': WHATEVER THE INPUT: true; the input reads as it did. -/
def fnExactAreaOfNetSpec : ChangeSpec := { name := "fnExactAreaOfNet", fn := fun _ => fun
  | [d] => { results := [.lit (.bool true)], args := [d] }
  | _ => none }
def fnExactAreaOfNetRow : OpenClaim := { program := "ytnbgnaenlbphcaa", sum := "1c90f9d14d17591b25f19be1e58c5b5ae8638ab92f148cf14cfdd14125b94d2d", func := "loop.example/g01328/laws.FnExactAreaOfNet", spec := "fnExactAreaOfNet", inPlace := ["math.sqrt", "math.Float64bits", "math.Float64frombits"], unfollowed := true, recurses := true, plainKeys := false, apart := false }
def FnExactAreaOfNetSaid : Prop := fnExactAreaOfNetRow.holds Try.pinned (OpenSpec.ofChange fnExactAreaOfNetSpec)

/-- ITS FALSE NEIGHBOUR: 'it returns false'. Refute it at one input. -/
def fnExactAreaOfNetWrong : ChangeSpec := { name := "fnExactAreaOfNet", fn := fun _ => fun
  | [d] => { results := [.lit (.bool false)], args := [d] }
  | _ => none }
def FnExactAreaOfNetWrongFalsely : Prop := fnExactAreaOfNetRow.holds Try.pinned (OpenSpec.ofChange fnExactAreaOfNetWrong)

/-- 'laws.FnExactPatchAt': WHATEVER THE INPUT: true; the input reads as it did. -/
def fnExactPatchAtSpec : ChangeSpec := { name := "fnExactPatchAt", fn := fun _ => fun
  | [d1, d2, d3, d4] => { results := [.lit (.bool true)], args := [d1, d2, d3, d4] }
  | _ => none }
def fnExactPatchAtRow : OpenClaim := { program := "ytnbgnaenlbphcaa", sum := "1c90f9d14d17591b25f19be1e58c5b5ae8638ab92f148cf14cfdd14125b94d2d", func := "loop.example/g01328/laws.FnExactPatchAt", spec := "fnExactPatchAt", inPlace := ["math.Float64bits", "math.Float64frombits"], unfollowed := true, recurses := true, plainKeys := false, apart := false }
def FnExactPatchAtSaid : Prop := fnExactPatchAtRow.holds Try.pinned (OpenSpec.ofChange fnExactPatchAtSpec)

/-- ITS FALSE NEIGHBOUR: 'it returns false'. Refute it at one input. -/
def fnExactPatchAtWrong : ChangeSpec := { name := "fnExactPatchAt", fn := fun _ => fun
  | [d1, d2, d3, d4] => { results := [.lit (.bool false)], args := [d1, d2, d3, d4] }
  | _ => none }
def FnExactPatchAtWrongFalsely : Prop := fnExactPatchAtRow.holds Try.pinned (OpenSpec.ofChange fnExactPatchAtWrong)

/-- 'laws.FnExactRaisePatch': WHATEVER THE INPUT: true; the input reads as it did. -/
def fnExactRaisePatchSpec : ChangeSpec := { name := "fnExactRaisePatch", fn := fun _ => fun
  | [d1, d2] => { results := [.lit (.bool true)], args := [d1, d2] }
  | _ => none }
def fnExactRaisePatchRow : OpenClaim := { program := "ytnbgnaenlbphcaa", sum := "1c90f9d14d17591b25f19be1e58c5b5ae8638ab92f148cf14cfdd14125b94d2d", func := "loop.example/g01328/laws.FnExactRaisePatch", spec := "fnExactRaisePatch", inPlace := ["math.Float64bits", "math.Float64frombits"], unfollowed := true, recurses := true, plainKeys := false, apart := false }
def FnExactRaisePatchSaid : Prop := fnExactRaisePatchRow.holds Try.pinned (OpenSpec.ofChange fnExactRaisePatchSpec)

/-- ITS FALSE NEIGHBOUR: 'it returns false'. Refute it at one input. -/
def fnExactRaisePatchWrong : ChangeSpec := { name := "fnExactRaisePatch", fn := fun _ => fun
  | [d1, d2] => { results := [.lit (.bool false)], args := [d1, d2] }
  | _ => none }
def FnExactRaisePatchWrongFalsely : Prop := fnExactRaisePatchRow.holds Try.pinned (OpenSpec.ofChange fnExactRaisePatchWrong)

/- THE SECOND FORM. 'bulk': how many values and letters a reading holds, each counted each time it is reached (what is shared counts as often as it is met; a slice's spare places count too). A statement '..UptoSaid' is the law's where the arguments, and the package variables that the reading takes, are together of bulk at most 1048576: NARROWER than '..Said'. Prove '..Said' where nothing that the law and all that it calls make is longer than what came in: it says more and counts as full. Else prove '..UptoSaid'. A law counts once. -/
mutual
def uptoBulk {H : Type} : DataW H → Nat
  | .lit (.string bytes) => bytes.length + 1
  | .lit _ => 1
  | .nil => 1
  | .ptr d => uptoBulk d + 1
  | .slice elems spare => uptoBulkAll elems + uptoBulkAll spare + 1
  | .agg parts => uptoBulkAll parts + 1
  | .iface _ d => uptoBulk d + 1
  | .map entries => uptoBulkEntries entries + 1
  | .held _ => 1
def uptoBulkAll {H : Type} : List (DataW H) → Nat
  | [] => 0
  | d :: r => uptoBulk d + uptoBulkAll r
def uptoBulkEntries {H : Type} : List (Lit × DataW H) → Nat
  | [] => 0
  | x :: r => uptoBulkEntry x + uptoBulkEntries r
def uptoBulkEntry {H : Type} : Lit × DataW H → Nat
  | (.string bytes, d) => bytes.length + uptoBulk d + 1
  | (_, d) => uptoBulk d + 1
 end
def uptoSmall : (H : Type) → List (DataW H) → Bool := fun _ ds => decide (uptoBulkAll ds ≤ 1048576)
def OpenSpec.upto (s : _root_.Go.ChangeSpec) : _root_.Go.OpenSpec := { _root_.Go.OpenSpec.ofChange s with cond := some uptoSmall }

/-- 'laws.FnExactCutSheet', WHERE WHAT IT READS IS OF BULK AT MOST 1048576: true; the input reads as it did. -/
def fnExactCutSheetUptoRow : OpenClaim := { program := "ytnbgnaenlbphcaa", sum := "1c90f9d14d17591b25f19be1e58c5b5ae8638ab92f148cf14cfdd14125b94d2d", func := "loop.example/g01328/laws.FnExactCutSheet", spec := "fnExactCutSheet", inPlace := ["math.Float64bits", "math.Float64frombits"], unfollowed := true, recurses := true, plainKeys := false, apart := false, narrowed := true }
def FnExactCutSheetUptoSaid : Prop := fnExactCutSheetUptoRow.holds Try.pinned (OpenSpec.upto fnExactCutSheetSpec)

/-- 'laws.FnExactSameNet', WHERE WHAT IT READS IS OF BULK AT MOST 1048576: true; the input reads as it did. -/
def fnExactSameNetUptoRow : OpenClaim := { program := "ytnbgnaenlbphcaa", sum := "1c90f9d14d17591b25f19be1e58c5b5ae8638ab92f148cf14cfdd14125b94d2d", func := "loop.example/g01328/laws.FnExactSameNet", spec := "fnExactSameNet", inPlace := ["math.Float32bits"], unfollowed := true, recurses := true, plainKeys := false, apart := false, narrowed := true }
def FnExactSameNetUptoSaid : Prop := fnExactSameNetUptoRow.holds Try.pinned (OpenSpec.upto fnExactSameNetSpec)

/-- 'laws.FnExactValidNet', WHERE WHAT IT READS IS OF BULK AT MOST 1048576: true; the input reads as it did. -/
def fnExactValidNetUptoRow : OpenClaim := { program := "ytnbgnaenlbphcaa", sum := "1c90f9d14d17591b25f19be1e58c5b5ae8638ab92f148cf14cfdd14125b94d2d", func := "loop.example/g01328/laws.FnExactValidNet", spec := "fnExactValidNet", inPlace := ["math.Float64bits", "math.Float64frombits"], plainKeys := false, apart := false, narrowed := true }
def FnExactValidNetUptoSaid : Prop := fnExactValidNetUptoRow.holds Try.pinned (OpenSpec.upto fnExactValidNetSpec)

/-- 'laws.FnExactBoxNet', WHERE WHAT IT READS IS OF BULK AT MOST 1048576: true; the input reads as it did. -/
def fnExactBoxNetUptoRow : OpenClaim := { program := "ytnbgnaenlbphcaa", sum := "1c90f9d14d17591b25f19be1e58c5b5ae8638ab92f148cf14cfdd14125b94d2d", func := "loop.example/g01328/laws.FnExactBoxNet", spec := "fnExactBoxNet", inPlace := ["math.Float64bits", "math.Float64frombits"], plainKeys := false, apart := false, narrowed := true }
def FnExactBoxNetUptoSaid : Prop := fnExactBoxNetUptoRow.holds Try.pinned (OpenSpec.upto fnExactBoxNetSpec)

/-- 'laws.FnExactGridNet', WHERE WHAT IT READS IS OF BULK AT MOST 1048576: true; the input reads as it did. -/
def fnExactGridNetUptoRow : OpenClaim := { program := "ytnbgnaenlbphcaa", sum := "1c90f9d14d17591b25f19be1e58c5b5ae8638ab92f148cf14cfdd14125b94d2d", func := "loop.example/g01328/laws.FnExactGridNet", spec := "fnExactGridNet", inPlace := ["math.Float64bits", "math.Float64frombits"], plainKeys := false, apart := false, narrowed := true }
def FnExactGridNetUptoSaid : Prop := fnExactGridNetUptoRow.holds Try.pinned (OpenSpec.upto fnExactGridNetSpec)

/-- 'laws.FnExactEulerOf', WHERE WHAT IT READS IS OF BULK AT MOST 1048576: true; the input reads as it did. -/
def fnExactEulerOfUptoRow : OpenClaim := { program := "ytnbgnaenlbphcaa", sum := "1c90f9d14d17591b25f19be1e58c5b5ae8638ab92f148cf14cfdd14125b94d2d", func := "loop.example/g01328/laws.FnExactEulerOf", spec := "fnExactEulerOf", inPlace := ["math.Float64bits", "math.Float64frombits"], plainKeys := false, apart := false, narrowed := true }
def FnExactEulerOfUptoSaid : Prop := fnExactEulerOfUptoRow.holds Try.pinned (OpenSpec.upto fnExactEulerOfSpec)

/-- 'laws.FnExactFacetPoint', WHERE WHAT IT READS IS OF BULK AT MOST 1048576: true; the input reads as it did. -/
def fnExactFacetPointUptoRow : OpenClaim := { program := "ytnbgnaenlbphcaa", sum := "1c90f9d14d17591b25f19be1e58c5b5ae8638ab92f148cf14cfdd14125b94d2d", func := "loop.example/g01328/laws.FnExactFacetPoint", spec := "fnExactFacetPoint", inPlace := ["math.Float64bits", "math.Float64frombits"], plainKeys := false, apart := false, narrowed := true }
def FnExactFacetPointUptoSaid : Prop := fnExactFacetPointUptoRow.holds Try.pinned (OpenSpec.upto fnExactFacetPointSpec)

/-- 'laws.FnExactBackNet', WHERE WHAT IT READS IS OF BULK AT MOST 1048576: true; the input reads as it did. -/
def fnExactBackNetUptoRow : OpenClaim := { program := "ytnbgnaenlbphcaa", sum := "1c90f9d14d17591b25f19be1e58c5b5ae8638ab92f148cf14cfdd14125b94d2d", func := "loop.example/g01328/laws.FnExactBackNet", spec := "fnExactBackNet", inPlace := ["math.Float64bits", "math.Float64frombits"], plainKeys := false, apart := false, narrowed := true }
def FnExactBackNetUptoSaid : Prop := fnExactBackNetUptoRow.holds Try.pinned (OpenSpec.upto fnExactBackNetSpec)

/-- 'laws.FnExactVolumeOfNet', WHERE WHAT IT READS IS OF BULK AT MOST 1048576: true; the input reads as it did. -/
def fnExactVolumeOfNetUptoRow : OpenClaim := { program := "ytnbgnaenlbphcaa", sum := "1c90f9d14d17591b25f19be1e58c5b5ae8638ab92f148cf14cfdd14125b94d2d", func := "loop.example/g01328/laws.FnExactVolumeOfNet", spec := "fnExactVolumeOfNet", inPlace := ["math.Float64bits", "math.Float64frombits"], unfollowed := true, recurses := true, plainKeys := false, apart := false, narrowed := true }
def FnExactVolumeOfNetUptoSaid : Prop := fnExactVolumeOfNetUptoRow.holds Try.pinned (OpenSpec.upto fnExactVolumeOfNetSpec)

/-- 'laws.FnExactAreaOfNet', WHERE WHAT IT READS IS OF BULK AT MOST 1048576: true; the input reads as it did. -/
def fnExactAreaOfNetUptoRow : OpenClaim := { program := "ytnbgnaenlbphcaa", sum := "1c90f9d14d17591b25f19be1e58c5b5ae8638ab92f148cf14cfdd14125b94d2d", func := "loop.example/g01328/laws.FnExactAreaOfNet", spec := "fnExactAreaOfNet", inPlace := ["math.sqrt", "math.Float64bits", "math.Float64frombits"], unfollowed := true, recurses := true, plainKeys := false, apart := false, narrowed := true }
def FnExactAreaOfNetUptoSaid : Prop := fnExactAreaOfNetUptoRow.holds Try.pinned (OpenSpec.upto fnExactAreaOfNetSpec)

/-- 'laws.FnExactPatchAt', WHERE WHAT IT READS IS OF BULK AT MOST 1048576: true; the input reads as it did. -/
def fnExactPatchAtUptoRow : OpenClaim := { program := "ytnbgnaenlbphcaa", sum := "1c90f9d14d17591b25f19be1e58c5b5ae8638ab92f148cf14cfdd14125b94d2d", func := "loop.example/g01328/laws.FnExactPatchAt", spec := "fnExactPatchAt", inPlace := ["math.Float64bits", "math.Float64frombits"], unfollowed := true, recurses := true, plainKeys := false, apart := false, narrowed := true }
def FnExactPatchAtUptoSaid : Prop := fnExactPatchAtUptoRow.holds Try.pinned (OpenSpec.upto fnExactPatchAtSpec)

/-- 'laws.FnExactRaisePatch', WHERE WHAT IT READS IS OF BULK AT MOST 1048576: true; the input reads as it did. -/
def fnExactRaisePatchUptoRow : OpenClaim := { program := "ytnbgnaenlbphcaa", sum := "1c90f9d14d17591b25f19be1e58c5b5ae8638ab92f148cf14cfdd14125b94d2d", func := "loop.example/g01328/laws.FnExactRaisePatch", spec := "fnExactRaisePatch", inPlace := ["math.Float64bits", "math.Float64frombits"], unfollowed := true, recurses := true, plainKeys := false, apart := false, narrowed := true }
def FnExactRaisePatchUptoSaid : Prop := fnExactRaisePatchUptoRow.holds Try.pinned (OpenSpec.upto fnExactRaisePatchSpec)

end Rows
end Go.Proofs.Ytnbgnaenlbphcaa
