/-
  The angles and powers of the phasors of 64ths of turns, reckoned.
-/
import Derived.Test.YtnflmdlhcjjfdadMw
import Derived.Test.YtnflmdlhcjjfdadMu
namespace Go.Proofs.Ytnflmdlhcjjfdad
open Go.RowKit Fl Ieee

def angTab : List Nat := [0, 1015021568, 1023410176, 1027604479, 1031798784, 1033895936, 1035993088, 1038090240, 1040187392, 1041235968, 1042284544, 1043333120, 1044381696, 1045430272, 1046478848, 1047527424, 1048576000, 1049100288, 1049624576, 1050148864, 1050673152, 1051197440, 1051721728, 1052246016, 1052770304, 1053294592, 1053818880, 1054343168, 1054867456, 1055391744, 1055916032, 1056440320, 1056964608, 3203923968, 3203399680, 3202875392, 3202351104, 3201826816, 3201302528, 3200778240, 3200253952, 3199729664, 3199205376, 3198681088, 3198156800, 3197632512, 3197108224, 3196583936, 3196059648, 3195011072, 3193962496, 3192913920, 3191865344, 3190816768, 3189768192, 3188719616, 3187671040, 3185573888, 3183476736, 3181379584, 3179282432, 3175088127, 3170893824, 3162505216]
def ang (k : Nat) : Nat := angTab.getD k 0
theorem ang_tab : ∀ k : Fin 64, (angO (ph k.val).2 (ph k.val).1 == some (ang k.val)) = true := by decide +kernel

/-- a is over b. -/
def gtB (a b : Nat) : Bool := FloatKind.f64.format.order a b == some Ordering.gt
/-- The power is near enough to 1. -/
def powOk (k : Nat) : Bool := match (powNO (ph k).1 (ph k).2).bind fun p => (floatToFloatBits .f32 p .f64).bind fun y => gapO y 4607182418800017408 with | some g => !gtB g 4547007122018943789 | none => false
theorem pow_tab : ∀ k : Fin 64, powOk k.val = true := by decide +kernel

/-- What is left of the angle of a 64th. -/
def leftO (a : Int) : Option Nat := (floatToFloatBits .f32 (ang (a % 64).toNat) .f64).bind fun y => (floatBits .mul .f64 y 4634204016564240384).bind fun z => floatBits .sub .f64 z (floatOfInt .f64 a)
def wholeO (a : Int) : Option Int := (leftO a).bind fun t => (floatBits .add .f64 t 4666723447345250304).bind fun u => floatToIntVal .f64 u .i64
def leftOk (a : Int) : Bool := match leftO a, wholeO a with
  | some t, some n => (match gapO t (floatOfInt .f64 (n - 10000)) with | some g => !gtB g 4562254508917369340 | none => false) && decide ((n - 10000).tmod 64 = 0) && decide (0 ≤ n) && decide (n ≤ 20000)
  | _, _ => false
theorem left_tab : ∀ a : Fin 256, leftOk ((a.val : Int) - 128) = true := by decide +kernel

/-- Every 16th has a real part of 0 or 1, up to its sign. -/
def sideOk (k : Nat) : Bool := match (floatToFloatBits .f32 (ph k).1 .f64).bind fun y => gapO y 0 with | some g => FloatKind.f64.format.order g 0 == some Ordering.eq || FloatKind.f64.format.order g 4607182418800017408 == some Ordering.eq | none => false
theorem side_tab : ∀ k : Fin 4, sideOk (16 * k.val) = true := by decide +kernel

end Go.Proofs.Ytnflmdlhcjjfdad
