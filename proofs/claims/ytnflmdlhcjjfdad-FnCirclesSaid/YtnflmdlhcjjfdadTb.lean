/-
  Tenths of decibels of i/8 and of their products, reckoned: the chains.
  Own work; imports nothing of the program.
-/
import Derived.Test.YtnflmdlhcjjfdadPl
namespace Go.Proofs.Ytnflmdlhcjjfdad
namespace Fl
open Ieee

def coefs : List Nat := [4585925428558828667, 4586426698778222948, 4587023449039406616, 4587745830934523688, 4588638185040256542, 4589468260265693457, 4590207312512236308, 4591215111030249286, 4592670820000712476, 4594314991293244562, 4596373779694328218, 4599676419421066581, 4607182418800017408]
theorem coef_ok : ∀ j : Fin 13, (floatBits .quo .f64 4607182418800017408 (floatOfInt .f64 (25 - 2 * (j.val : Int))) == some (coefs.getD j.val 0)) = true := by decide +kernel
def polyC (u : Nat) : Nat → Nat → Nat → Option Nat
  | 0, _, q => some q
  | t + 1, j, q => (floatBits .mul .f64 u q).bind fun m => (floatBits .add .f64 (coefs.getD j 0) m).bind (polyC u t (j + 1))
theorem polyC_ok {u : Nat} : ∀ {t j q r : Nat}, j + t = 13 → PolyL u j q → polyC u t j q = some r → PolyL u 13 r
  | 0, j, q, r, hj, h, g => by
    have g : some q = some r := g
    injection g with g
    subst g
    rw [← show j = 13 by omega]
    exact h
  | t + 1, j, q, r, hj, h, g => by
    obtain ⟨m, h1, g⟩ := bnd g
    obtain ⟨p, h2, g⟩ := bnd g
    exact polyC_ok (j := j + 1) (by omega) ⟨q, _, m, h, fop_mk (eq_of_beq (coef_ok ⟨j, by omega⟩)), fop_mk h1, fop_mk h2⟩ g
/-- The logarithm's part that hangs on the number alone. -/
def mantO (x : Nat) : Option Nat :=
  (floatBits .sub .f64 x 4607182418800017408).bind fun a => (floatBits .add .f64 x 4607182418800017408).bind fun b => (floatBits .quo .f64 a b).bind fun s => (floatBits .mul .f64 s s).bind fun u =>
  (polyC u 13 0 0).bind fun q => (floatBits .mul .f64 s q).bind fun m1 => floatBits .mul .f64 4611686018427387904 m1
/-- The tenths, behind it: e halvings. -/
def finO (e : Int) (m2 : Nat) : Option Int :=
  (floatBits .mul .f64 (floatOfInt .f64 e) 4604418534313441775).bind fun m3 => (floatBits .add .f64 m2 m3).bind fun r => (floatBits .mul .f64 r 4631308968768463603).bind fun p => (floatBits .add .f64 p 4602678819172646912).bind fun s => floatToIntVal .f64 (floorW s) .i64
theorem ten_mk {b y j x1 i x m2 : Nat} {t : Int} (h1 : FCv .f32 .f64 b y) (h2 : WGe y (-149)) (h3 : WLe y 128) (d : Down y j x1) (d1 : geB x1 = false) (u : Up x1 i x) (u1 : ltB x = false) (hm : mantO x = some m2) (ht : finO ((j : Int) - (i : Int)) m2 = some t) : TenV b t := by
  obtain ⟨a, k1, hm⟩ := bnd hm
  obtain ⟨c, k2, hm⟩ := bnd hm
  obtain ⟨s, k3, hm⟩ := bnd hm
  obtain ⟨v, k4, hm⟩ := bnd hm
  obtain ⟨q, k5, hm⟩ := bnd hm
  obtain ⟨m1, k6, hm⟩ := bnd hm
  obtain ⟨m3, l1, ht⟩ := bnd ht
  obtain ⟨r, l2, ht⟩ := bnd ht
  obtain ⟨p, l3, ht⟩ := bnd ht
  obtain ⟨z, l4, ht⟩ := bnd ht
  exact ⟨y, r, p, z, h1, h2, h3, ⟨j, x1, i, x, d, d1, u, u1, ⟨a, c, s, v, q, m1, m2, m3, fop_mk k1, fop_mk k2, fop_mk k3, fop_mk k4, polyC_ok (j := 0) (q := 0) (by omega) rfl k5, fop_mk k6, fop_mk hm, fop_mk l1, fop_mk l2⟩⟩, fop_mk l3, fop_mk l4, ht⟩

end Fl
end Go.Proofs.Ytnflmdlhcjjfdad
