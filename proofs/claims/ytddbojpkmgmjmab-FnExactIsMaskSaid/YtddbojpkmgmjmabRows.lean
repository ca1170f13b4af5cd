/-
  No cell of these rows narrows 'for every input' (looked for: loops, veiled, ifaces, maps, wideKeys, modest, calm, conditions, laid).
  DERIVED. THE GIVEN ROWS OF THIS SEAT. 12 by the template 'for every input the law returns true; each argument reads behind the call as it read before'; 0 by the template 'total and deterministic' (their statements: YtddbojpkmgmjmabTotals.lean).
  GIVEN WITH THE SEED: the statements are not yours to turn. If you find one false, say at which input.
  Laid BY PROGRAM, IN A SANDBOX (cutbox-rows.mjs): the forced cells as the released guide's own fill.sh prints them over the translation c479e85a108cea45… (all of the seat's roots in one cut). By AI agents, Wed Nov 11 2026. No macro, syntax, notation, axiom, sorry.
-/
import Derived.Test.YtddbojpkmgmjmabChecked
import GoSem.Claim
import GoSem.ClaimJoined
import GoSem.ClaimMapViews
import Derived.JoinedTies
import Derived.KernelRfl
namespace Go.Proofs.Ytddbojpkmgmjmab
/- THE CELL 'sum', in the pinned program and in every row, IS THE sha256 OF THE DUMP (.gsa) THAT YtddbojpkmgmjmabProg.lean LOADS. Nothing in Lean hashes anything: it is a label: what it is worth is what the hold of that sum in a sandbox is worth. -/
noncomputable def Try.pinned : Pinned := { name := "ytddbojpkmgmjmab", sum := "c479e85a108cea45d43d3e1ef594e4ef362781647d539c8cf58a7e60d7349fcf", checked := Try.checked }
namespace Rows
def none {H : Type} : Left H := { results := [], args := [] }

/-- 'laws.FnExactIsMask': WHATEVER THE INPUT: true; the input reads as it did. -/
def fnExactIsMaskSpec : ChangeSpec := { name := "fnExactIsMask", fn := fun _ => fun
  | [d] => { results := [.lit (.bool true)], args := [d] }
  | _ => none }
def fnExactIsMaskRow : OpenClaim := { program := "ytddbojpkmgmjmab", sum := "c479e85a108cea45d43d3e1ef594e4ef362781647d539c8cf58a7e60d7349fcf", func := "loop.example/g01328/laws.FnExactIsMask", spec := "fnExactIsMask", inPlace := ["math.Float64bits", "math.Float64frombits"], plainKeys := false, apart := false }
def FnExactIsMaskSaid : Prop := fnExactIsMaskRow.holds Try.pinned (OpenSpec.ofChange fnExactIsMaskSpec)

/-- ITS FALSE NEIGHBOUR: 'it returns false'. Refute it at one input. -/
def fnExactIsMaskWrong : ChangeSpec := { name := "fnExactIsMask", fn := fun _ => fun
  | [d] => { results := [.lit (.bool false)], args := [d] }
  | _ => none }
def FnExactIsMaskWrongFalsely : Prop := fnExactIsMaskRow.holds Try.pinned (OpenSpec.ofChange fnExactIsMaskWrong)

/-- 'laws.FnExactSameNet': WHATEVER THE INPUT: true; the input reads as it did. -/
def fnExactSameNetSpec : ChangeSpec := { name := "fnExactSameNet", fn := fun _ => fun
  | [d1, d2] => { results := [.lit (.bool true)], args := [d1, d2] }
  | _ => none }
def fnExactSameNetRow : OpenClaim := { program := "ytddbojpkmgmjmab", sum := "c479e85a108cea45d43d3e1ef594e4ef362781647d539c8cf58a7e60d7349fcf", func := "loop.example/g01328/laws.FnExactSameNet", spec := "fnExactSameNet", inPlace := ["math.Float32bits"], unfollowed := true, recurses := true, plainKeys := false, apart := false }
def FnExactSameNetSaid : Prop := fnExactSameNetRow.holds Try.pinned (OpenSpec.ofChange fnExactSameNetSpec)

/-- ITS FALSE NEIGHBOUR: 'it returns false'. Refute it at one input. -/
def fnExactSameNetWrong : ChangeSpec := { name := "fnExactSameNet", fn := fun _ => fun
  | [d1, d2] => { results := [.lit (.bool false)], args := [d1, d2] }
  | _ => none }
def FnExactSameNetWrongFalsely : Prop := fnExactSameNetRow.holds Try.pinned (OpenSpec.ofChange fnExactSameNetWrong)

/-- 'laws.FnExactValidNet': WHATEVER THE INPUT: true; the input reads as it did. -/
def fnExactValidNetSpec : ChangeSpec := { name := "fnExactValidNet", fn := fun _ => fun
  | [d] => { results := [.lit (.bool true)], args := [d] }
  | _ => none }
def fnExactValidNetRow : OpenClaim := { program := "ytddbojpkmgmjmab", sum := "c479e85a108cea45d43d3e1ef594e4ef362781647d539c8cf58a7e60d7349fcf", func := "loop.example/g01328/laws.FnExactValidNet", spec := "fnExactValidNet", inPlace := ["math.Float64bits", "math.Float64frombits"], plainKeys := false, apart := false }
def FnExactValidNetSaid : Prop := fnExactValidNetRow.holds Try.pinned (OpenSpec.ofChange fnExactValidNetSpec)

/-- ITS FALSE NEIGHBOUR: 'it returns false'. Refute it at one input. -/
def fnExactValidNetWrong : ChangeSpec := { name := "fnExactValidNet", fn := fun _ => fun
  | [d] => { results := [.lit (.bool false)], args := [d] }
  | _ => none }
def FnExactValidNetWrongFalsely : Prop := fnExactValidNetRow.holds Try.pinned (OpenSpec.ofChange fnExactValidNetWrong)

/-- 'laws.FnExactBoxNet': WHATEVER THE INPUT: true; the input reads as it did. -/
def fnExactBoxNetSpec : ChangeSpec := { name := "fnExactBoxNet", fn := fun _ => fun
  | [d1, d2, d3] => { results := [.lit (.bool true)], args := [d1, d2, d3] }
  | _ => none }
def fnExactBoxNetRow : OpenClaim := { program := "ytddbojpkmgmjmab", sum := "c479e85a108cea45d43d3e1ef594e4ef362781647d539c8cf58a7e60d7349fcf", func := "loop.example/g01328/laws.FnExactBoxNet", spec := "fnExactBoxNet", inPlace := ["math.Float64bits", "math.Float64frombits"], plainKeys := false, apart := false }
def FnExactBoxNetSaid : Prop := fnExactBoxNetRow.holds Try.pinned (OpenSpec.ofChange fnExactBoxNetSpec)

/-- ITS FALSE NEIGHBOUR: 'it returns false'. Refute it at one input. -/
def fnExactBoxNetWrong : ChangeSpec := { name := "fnExactBoxNet", fn := fun _ => fun
  | [d1, d2, d3] => { results := [.lit (.bool false)], args := [d1, d2, d3] }
  | _ => none }
def FnExactBoxNetWrongFalsely : Prop := fnExactBoxNetRow.holds Try.pinned (OpenSpec.ofChange fnExactBoxNetWrong)

/-- 'laws.FnExactGridNet': WHATEVER THE INPUT: true; the input reads as it did. -/
def fnExactGridNetSpec : ChangeSpec := { name := "fnExactGridNet", fn := fun _ => fun
  | [d1, d2] => { results := [.lit (.bool true)], args := [d1, d2] }
  | _ => none }
def fnExactGridNetRow : OpenClaim := { program := "ytddbojpkmgmjmab", sum := "c479e85a108cea45d43d3e1ef594e4ef362781647d539c8cf58a7e60d7349fcf", func := "loop.example/g01328/laws.FnExactGridNet", spec := "fnExactGridNet", inPlace := ["math.Float64bits", "math.Float64frombits"], plainKeys := false, apart := false }
def FnExactGridNetSaid : Prop := fnExactGridNetRow.holds Try.pinned (OpenSpec.ofChange fnExactGridNetSpec)

/-- ITS FALSE NEIGHBOUR: 'it returns false'. Refute it at one input. -/
def fnExactGridNetWrong : ChangeSpec := { name := "fnExactGridNet", fn := fun _ => fun
  | [d1, d2] => { results := [.lit (.bool false)], args := [d1, d2] }
  | _ => none }
def FnExactGridNetWrongFalsely : Prop := fnExactGridNetRow.holds Try.pinned (OpenSpec.ofChange fnExactGridNetWrong)

/-- 'laws.FnExactEulerOf': WHATEVER THE INPUT: true; the input reads as it did. -/
def fnExactEulerOfSpec : ChangeSpec := { name := "fnExactEulerOf", fn := fun _ => fun
  | [d] => { results := [.lit (.bool true)], args := [d] }
  | _ => none }
def fnExactEulerOfRow : OpenClaim := { program := "ytddbojpkmgmjmab", sum := "c479e85a108cea45d43d3e1ef594e4ef362781647d539c8cf58a7e60d7349fcf", func := "loop.example/g01328/laws.FnExactEulerOf", spec := "fnExactEulerOf", inPlace := ["math.Float64bits", "math.Float64frombits"], plainKeys := false, apart := false }
def FnExactEulerOfSaid : Prop := fnExactEulerOfRow.holds Try.pinned (OpenSpec.ofChange fnExactEulerOfSpec)

/-- ITS FALSE NEIGHBOUR: 'it returns false'. Refute it at one input. -/
def fnExactEulerOfWrong : ChangeSpec := { name := "fnExactEulerOf", fn := fun _ => fun
  | [d] => { results := [.lit (.bool false)], args := [d] }
  | _ => none }
def FnExactEulerOfWrongFalsely : Prop := fnExactEulerOfRow.holds Try.pinned (OpenSpec.ofChange fnExactEulerOfWrong)

/-- 'laws.FnExactFacetPoint': WHATEVER THE INPUT: true; the input reads as it did. -/
def fnExactFacetPointSpec : ChangeSpec := { name := "fnExactFacetPoint", fn := fun _ => fun
  | [d1, d2] => { results := [.lit (.bool true)], args := [d1, d2] }
  | _ => none }
def fnExactFacetPointRow : OpenClaim := { program := "ytddbojpkmgmjmab", sum := "c479e85a108cea45d43d3e1ef594e4ef362781647d539c8cf58a7e60d7349fcf", func := "loop.example/g01328/laws.FnExactFacetPoint", spec := "fnExactFacetPoint", inPlace := ["math.Float64bits", "math.Float64frombits"], plainKeys := false, apart := false }
def FnExactFacetPointSaid : Prop := fnExactFacetPointRow.holds Try.pinned (OpenSpec.ofChange fnExactFacetPointSpec)

/-- ITS FALSE NEIGHBOUR: 'it returns false'. Refute it at one input. -/
def fnExactFacetPointWrong : ChangeSpec := { name := "fnExactFacetPoint", fn := fun _ => fun
  | [d1, d2] => { results := [.lit (.bool false)], args := [d1, d2] }
  | _ => none }
def FnExactFacetPointWrongFalsely : Prop := fnExactFacetPointRow.holds Try.pinned (OpenSpec.ofChange fnExactFacetPointWrong)

/-- 'laws.FnExactBackNet': WHATEVER THE INPUT: true; the input reads as it did. -/
def fnExactBackNetSpec : ChangeSpec := { name := "fnExactBackNet", fn := fun _ => fun
  | [d] => { results := [.lit (.bool true)], args := [d] }
  | _ => none }
def fnExactBackNetRow : OpenClaim := { program := "ytddbojpkmgmjmab", sum := "c479e85a108cea45d43d3e1ef594e4ef362781647d539c8cf58a7e60d7349fcf", func := "loop.example/g01328/laws.FnExactBackNet", spec := "fnExactBackNet", inPlace := ["math.Float64bits", "math.Float64frombits"], plainKeys := false, apart := false }
def FnExactBackNetSaid : Prop := fnExactBackNetRow.holds Try.pinned (OpenSpec.ofChange fnExactBackNetSpec)

/-- ITS FALSE NEIGHBOUR: 'it returns false'. Refute it at one input. -/
def fnExactBackNetWrong : ChangeSpec := { name := "fnExactBackNet", fn := fun _ => fun
  | [d] => { results := [.lit (.bool false)], args := [d] }
  | _ => none }
def FnExactBackNetWrongFalsely : Prop := fnExactBackNetRow.holds Try.pinned (OpenSpec.ofChange fnExactBackNetWrong)

/-- 'laws.FnExactNaturalBends': WHATEVER THE INPUT: true; the input reads as it did. -/
def fnExactNaturalBendsSpec : ChangeSpec := { name := "fnExactNaturalBends", fn := fun _ => fun
  | [d1, d2] => { results := [.lit (.bool true)], args := [d1, d2] }
  | _ => none }
def fnExactNaturalBendsRow : OpenClaim := { program := "ytddbojpkmgmjmab", sum := "c479e85a108cea45d43d3e1ef594e4ef362781647d539c8cf58a7e60d7349fcf", func := "loop.example/g01328/laws.FnExactNaturalBends", spec := "fnExactNaturalBends", inPlace := ["math.Float64bits", "math.Float64frombits"], unfollowed := true, recurses := true, plainKeys := false, apart := false }
def FnExactNaturalBendsSaid : Prop := fnExactNaturalBendsRow.holds Try.pinned (OpenSpec.ofChange fnExactNaturalBendsSpec)

/-- ITS FALSE NEIGHBOUR: 'it returns false'. Refute it at one input. -/
def fnExactNaturalBendsWrong : ChangeSpec := { name := "fnExactNaturalBends", fn := fun _ => fun
  | [d1, d2] => { results := [.lit (.bool false)], args := [d1, d2] }
  | _ => none }
def FnExactNaturalBendsWrongFalsely : Prop := fnExactNaturalBendsRow.holds Try.pinned (OpenSpec.ofChange fnExactNaturalBendsWrong)

/-- 'laws.FnExactSteadySlopes': WHATEVER THE INPUT: true; the input reads as it did. -/
def fnExactSteadySlopesSpec : ChangeSpec := { name := "fnExactSteadySlopes", fn := fun _ => fun
  | [d1, d2] => { results := [.lit (.bool true)], args := [d1, d2] }
  | _ => none }
def fnExactSteadySlopesRow : OpenClaim := { program := "ytddbojpkmgmjmab", sum := "c479e85a108cea45d43d3e1ef594e4ef362781647d539c8cf58a7e60d7349fcf", func := "loop.example/g01328/laws.FnExactSteadySlopes", spec := "fnExactSteadySlopes", inPlace := ["math.sqrt", "math.Float64bits", "math.Float64frombits"], unfollowed := true, recurses := true, plainKeys := false, apart := false }
def FnExactSteadySlopesSaid : Prop := fnExactSteadySlopesRow.holds Try.pinned (OpenSpec.ofChange fnExactSteadySlopesSpec)

/-- ITS FALSE NEIGHBOUR: 'it returns false'. Refute it at one input. -/
def fnExactSteadySlopesWrong : ChangeSpec := { name := "fnExactSteadySlopes", fn := fun _ => fun
  | [d1, d2] => { results := [.lit (.bool false)], args := [d1, d2] }
  | _ => none }
def FnExactSteadySlopesWrongFalsely : Prop := fnExactSteadySlopesRow.holds Try.pinned (OpenSpec.ofChange fnExactSteadySlopesWrong)

/-- 'laws.FnExactQuietList': WHATEVER THE INPUT: true; the input reads as it did. -/
def fnExactQuietListSpec : ChangeSpec := { name := "fnExactQuietList", fn := fun _ => fun
  | [d1, d2] => { results := [.lit (.bool true)], args := [d1, d2] }
  | _ => none }
def fnExactQuietListRow : OpenClaim := { program := "ytddbojpkmgmjmab", sum := "c479e85a108cea45d43d3e1ef594e4ef362781647d539c8cf58a7e60d7349fcf", func := "loop.example/g01328/laws.FnExactQuietList", spec := "fnExactQuietList", inPlace := ["math.Float64bits", "math.Float64frombits"], unfollowed := true, recurses := true, plainKeys := false, apart := false }
def FnExactQuietListSaid : Prop := fnExactQuietListRow.holds Try.pinned (OpenSpec.ofChange fnExactQuietListSpec)

/-- ITS FALSE NEIGHBOUR: 'it returns false'. Refute it at one input. -/
def fnExactQuietListWrong : ChangeSpec := { name := "fnExactQuietList", fn := fun _ => fun
  | [d1, d2] => { results := [.lit (.bool false)], args := [d1, d2] }
  | _ => none }
def FnExactQuietListWrongFalsely : Prop := fnExactQuietListRow.holds Try.pinned (OpenSpec.ofChange fnExactQuietListWrong)

/-- 'laws.FnExactSpiralPoints': WHATEVER THE INPUT: true; the input reads as it did. -/
def fnExactSpiralPointsSpec : ChangeSpec := { name := "fnExactSpiralPoints", fn := fun _ => fun
  | [d1, d2, d3, d4] => { results := [.lit (.bool true)], args := [d1, d2, d3, d4] }
  | _ => none }
def fnExactSpiralPointsRow : OpenClaim := { program := "ytddbojpkmgmjmab", sum := "c479e85a108cea45d43d3e1ef594e4ef362781647d539c8cf58a7e60d7349fcf", func := "loop.example/g01328/laws.FnExactSpiralPoints", spec := "fnExactSpiralPoints", inPlace := ["math.Float32frombits", "math.Float64frombits", "math.Float64bits"], unfollowed := true, recurses := true, plainKeys := false, apart := false }
def FnExactSpiralPointsSaid : Prop := fnExactSpiralPointsRow.holds Try.pinned (OpenSpec.ofChange fnExactSpiralPointsSpec)

/-- ITS FALSE NEIGHBOUR: 'it returns false'. Refute it at one input. -/
def fnExactSpiralPointsWrong : ChangeSpec := { name := "fnExactSpiralPoints", fn := fun _ => fun
  | [d1, d2, d3, d4] => { results := [.lit (.bool false)], args := [d1, d2, d3, d4] }
  | _ => none }
def FnExactSpiralPointsWrongFalsely : Prop := fnExactSpiralPointsRow.holds Try.pinned (OpenSpec.ofChange fnExactSpiralPointsWrong)

/- THE SECOND FORM. 'bulk': how many values and letters a reading holds, each counted each time it is reached (what is shared counts as often as it is met; a slice's spare places count too). A statement '..UptoSaid' is the law's where the arguments, and the package variables that the reading takes, are together of bulk at most 1048576: NARROWER than '..Said'. Prove '..Said' where nothing that the law and all that it calls make is longer than what came in: it says more and counts as full. Else prove '..UptoSaid'. A law counts once. -/
mutual
def uptoBulk {H : Type} : DataW H → Nat
  | .lit (.string bytes) => bytes.length + 1
  | .lit _ => 1
  | .nil => 1
  | .ptr d => uptoBulk d + 1
  | .slice elems spare => uptoBulkAll elems + uptoBulkAll spare + 1
  | .agg parts => uptoBulkAll parts + 1
  | .iface _ d => uptoBulk d + 1
  | .map entries => uptoBulkEntries entries + 1
  | .held _ => 1
def uptoBulkAll {H : Type} : List (DataW H) → Nat
  | [] => 0
  | d :: r => uptoBulk d + uptoBulkAll r
def uptoBulkEntries {H : Type} : List (Lit × DataW H) → Nat
  | [] => 0
  | x :: r => uptoBulkEntry x + uptoBulkEntries r
def uptoBulkEntry {H : Type} : Lit × DataW H → Nat
  | (.string bytes, d) => bytes.length + uptoBulk d + 1
  | (_, d) => uptoBulk d + 1
 end
def uptoSmall : (H : Type) → List (DataW H) → Bool := fun _ ds => decide (uptoBulkAll ds ≤ 1048576)
def OpenSpec.upto (s : _root_.Go.ChangeSpec) : _root_.Go.OpenSpec := { _root_.Go.OpenSpec.ofChange s with cond := some uptoSmall }

/-- 'laws.FnExactIsMask', WHERE WHAT IT READS IS OF BULK AT MOST 1048576: true; the input reads as it did. -/
def fnExactIsMaskUptoRow : OpenClaim := { program := "ytddbojpkmgmjmab", sum := "c479e85a108cea45d43d3e1ef594e4ef362781647d539c8cf58a7e60d7349fcf", func := "loop.example/g01328/laws.FnExactIsMask", spec := "fnExactIsMask", inPlace := ["math.Float64bits", "math.Float64frombits"], plainKeys := false, apart := false, narrowed := true }
def FnExactIsMaskUptoSaid : Prop := fnExactIsMaskUptoRow.holds Try.pinned (OpenSpec.upto fnExactIsMaskSpec)

/-- 'laws.FnExactSameNet', WHERE WHAT IT READS IS OF BULK AT MOST 1048576: true; the input reads as it did. -/
def fnExactSameNetUptoRow : OpenClaim := { program := "ytddbojpkmgmjmab", sum := "c479e85a108cea45d43d3e1ef594e4ef362781647d539c8cf58a7e60d7349fcf", func := "loop.example/g01328/laws.FnExactSameNet", spec := "fnExactSameNet", inPlace := ["math.Float32bits"], unfollowed := true, recurses := true, plainKeys := false, apart := false, narrowed := true }
def FnExactSameNetUptoSaid : Prop := fnExactSameNetUptoRow.holds Try.pinned (OpenSpec.upto fnExactSameNetSpec)

/-- 'laws.FnExactValidNet', WHERE WHAT IT READS IS OF BULK AT MOST 1048576: true; the input reads as it did. -/
def fnExactValidNetUptoRow : OpenClaim := { program := "ytddbojpkmgmjmab", sum := "c479e85a108cea45d43d3e1ef594e4ef362781647d539c8cf58a7e60d7349fcf", func := "loop.example/g01328/laws.FnExactValidNet", spec := "fnExactValidNet", inPlace := ["math.Float64bits", "math.Float64frombits"], plainKeys := false, apart := false, narrowed := true }
def FnExactValidNetUptoSaid : Prop := fnExactValidNetUptoRow.holds Try.pinned (OpenSpec.upto fnExactValidNetSpec)

/-- 'laws.FnExactBoxNet', WHERE WHAT IT READS IS OF BULK AT MOST 1048576: true; the input reads as it did. -/
def fnExactBoxNetUptoRow : OpenClaim := { program := "ytddbojpkmgmjmab", sum := "c479e85a108cea45d43d3e1ef594e4ef362781647d539c8cf58a7e60d7349fcf", func := "loop.example/g01328/laws.FnExactBoxNet", spec := "fnExactBoxNet", inPlace := ["math.Float64bits", "math.Float64frombits"], plainKeys := false, apart := false, narrowed := true }
def FnExactBoxNetUptoSaid : Prop := fnExactBoxNetUptoRow.holds Try.pinned (OpenSpec.upto fnExactBoxNetSpec)

/-- 'laws.FnExactGridNet', WHERE WHAT IT READS IS OF BULK AT MOST 1048576: true; the input reads as it did. -/
def fnExactGridNetUptoRow : OpenClaim := { program := "ytddbojpkmgmjmab", sum := "c479e85a108cea45d43d3e1ef594e4ef362781647d539c8cf58a7e60d7349fcf", func := "loop.example/g01328/laws.FnExactGridNet", spec := "fnExactGridNet", inPlace := ["math.Float64bits", "math.Float64frombits"], plainKeys := false, apart := false, narrowed := true }
def FnExactGridNetUptoSaid : Prop := fnExactGridNetUptoRow.holds Try.pinned (OpenSpec.upto fnExactGridNetSpec)

/-- 'laws.FnExactEulerOf', WHERE WHAT IT READS IS OF BULK AT MOST 1048576: true; the input reads as it did. -/
def fnExactEulerOfUptoRow : OpenClaim := { program := "ytddbojpkmgmjmab", sum := "c479e85a108cea45d43d3e1ef594e4ef362781647d539c8cf58a7e60d7349fcf", func := "loop.example/g01328/laws.FnExactEulerOf", spec := "fnExactEulerOf", inPlace := ["math.Float64bits", "math.Float64frombits"], plainKeys := false, apart := false, narrowed := true }
def FnExactEulerOfUptoSaid : Prop := fnExactEulerOfUptoRow.holds Try.pinned (OpenSpec.upto fnExactEulerOfSpec)

/-- 'laws.FnExactFacetPoint', WHERE WHAT IT READS IS OF BULK AT MOST 1048576: true; the input reads as it did. -/
def fnExactFacetPointUptoRow : OpenClaim := { program := "ytddbojpkmgmjmab", sum := "c479e85a108cea45d43d3e1ef594e4ef362781647d539c8cf58a7e60d7349fcf", func := "loop.example/g01328/laws.FnExactFacetPoint", spec := "fnExactFacetPoint", inPlace := ["math.Float64bits", "math.Float64frombits"], plainKeys := false, apart := false, narrowed := true }
def FnExactFacetPointUptoSaid : Prop := fnExactFacetPointUptoRow.holds Try.pinned (OpenSpec.upto fnExactFacetPointSpec)

/-- 'laws.FnExactBackNet', WHERE WHAT IT READS IS OF BULK AT MOST 1048576: true; the input reads as it did. -/
def fnExactBackNetUptoRow : OpenClaim := { program := "ytddbojpkmgmjmab", sum := "c479e85a108cea45d43d3e1ef594e4ef362781647d539c8cf58a7e60d7349fcf", func := "loop.example/g01328/laws.FnExactBackNet", spec := "fnExactBackNet", inPlace := ["math.Float64bits", "math.Float64frombits"], plainKeys := false, apart := false, narrowed := true }
def FnExactBackNetUptoSaid : Prop := fnExactBackNetUptoRow.holds Try.pinned (OpenSpec.upto fnExactBackNetSpec)

/-- 'laws.FnExactNaturalBends', WHERE WHAT IT READS IS OF BULK AT MOST 1048576: true; the input reads as it did. -/
def fnExactNaturalBendsUptoRow : OpenClaim := { program := "ytddbojpkmgmjmab", sum := "c479e85a108cea45d43d3e1ef594e4ef362781647d539c8cf58a7e60d7349fcf", func := "loop.example/g01328/laws.FnExactNaturalBends", spec := "fnExactNaturalBends", inPlace := ["math.Float64bits", "math.Float64frombits"], unfollowed := true, recurses := true, plainKeys := false, apart := false, narrowed := true }
def FnExactNaturalBendsUptoSaid : Prop := fnExactNaturalBendsUptoRow.holds Try.pinned (OpenSpec.upto fnExactNaturalBendsSpec)

/-- 'laws.FnExactSteadySlopes', WHERE WHAT IT READS IS OF BULK AT MOST 1048576: true; the input reads as it did. -/
def fnExactSteadySlopesUptoRow : OpenClaim := { program := "ytddbojpkmgmjmab", sum := "c479e85a108cea45d43d3e1ef594e4ef362781647d539c8cf58a7e60d7349fcf", func := "loop.example/g01328/laws.FnExactSteadySlopes", spec := "fnExactSteadySlopes", inPlace := ["math.sqrt", "math.Float64bits", "math.Float64frombits"], unfollowed := true, recurses := true, plainKeys := false, apart := false, narrowed := true }
def FnExactSteadySlopesUptoSaid : Prop := fnExactSteadySlopesUptoRow.holds Try.pinned (OpenSpec.upto fnExactSteadySlopesSpec)

/-- 'laws.FnExactQuietList', WHERE WHAT IT READS IS OF BULK AT MOST 1048576: true; the input reads as it did. -/
def fnExactQuietListUptoRow : OpenClaim := { program := "ytddbojpkmgmjmab", sum := "c479e85a108cea45d43d3e1ef594e4ef362781647d539c8cf58a7e60d7349fcf", func := "loop.example/g01328/laws.FnExactQuietList", spec := "fnExactQuietList", inPlace := ["math.Float64bits", "math.Float64frombits"], unfollowed := true, recurses := true, plainKeys := false, apart := false, narrowed := true }
def FnExactQuietListUptoSaid : Prop := fnExactQuietListUptoRow.holds Try.pinned (OpenSpec.upto fnExactQuietListSpec)

/-- 'laws.FnExactSpiralPoints', WHERE WHAT IT READS IS OF BULK AT MOST 1048576: true; the input reads as it did. -/
def fnExactSpiralPointsUptoRow : OpenClaim := { program := "ytddbojpkmgmjmab", sum := "c479e85a108cea45d43d3e1ef594e4ef362781647d539c8cf58a7e60d7349fcf", func := "loop.example/g01328/laws.FnExactSpiralPoints", spec := "fnExactSpiralPoints", inPlace := ["math.Float32frombits", "math.Float64frombits", "math.Float64bits"], unfollowed := true, recurses := true, plainKeys := false, apart := false, narrowed := true }
def FnExactSpiralPointsUptoSaid : Prop := fnExactSpiralPointsUptoRow.holds Try.pinned (OpenSpec.upto fnExactSpiralPointsSpec)

end Rows
end Go.Proofs.Ytddbojpkmgmjmab
