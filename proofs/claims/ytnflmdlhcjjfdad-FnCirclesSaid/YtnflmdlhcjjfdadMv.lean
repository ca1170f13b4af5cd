/-
  Products of the phasors of 64ths of turns, and their powers, reckoned: how near they are.
-/
import Derived.Test.YtnflmdlhcjjfdadMu
import Derived.Test.YtnflmdlhcjjfdadCi
namespace Go.Proofs.Ytnflmdlhcjjfdad
namespace Fl
open Ieee

/-- a is not over b. -/
def leB (a b : Nat) : Bool := FloatKind.f64.format.order a b == some Ordering.lt || FloatKind.f64.format.order a b == some Ordering.eq
/-- Both parts differ by at most a bound, reckoned. -/
def gapLeO (x y most : Nat) : Option Bool := (floatToFloatBits .f32 x .f64).bind fun a => (floatToFloatBits .f32 y .f64).bind fun b => (gapO a b).bind fun g => some (leB g most)
def nearO (z r : Nat × Nat) (most : Nat) : Bool := (gapLeO z.1 r.1 most == some true) && (gapLeO z.2 r.2 most == some true)
def pairO (j k : Nat) : Bool := match mulZO (ph j).1 (ph j).2 (ph k).1 (ph k).2 with | some z => nearO z (ph ((j + k) % 64)) 4547007122018943789 | none => false
theorem pair_tab0 : ∀ j : Fin 16, ∀ k : Fin 64, pairO j.val k.val = true := by decide +kernel

end Fl
end Go.Proofs.Ytnflmdlhcjjfdad
