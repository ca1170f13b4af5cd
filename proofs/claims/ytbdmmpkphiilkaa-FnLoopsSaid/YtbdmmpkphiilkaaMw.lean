/-
  Angles as chains of operations, reckoned; the angles of the phasors of 64ths of turns.
-/
import Derived.Test.YtbdmmpkphiilkaaAx
import Derived.Test.YtbdmmpkphiilkaaCi
namespace Go.Proofs.Ytbdmmpkphiilkaa
open Go.RowKit Fl Ieee

theorem fsq_mk {x q : Nat} (h : FloatKind.f64.format.sqrt x = some q) : FSq x q := by unfold FSq; rw [h]
def halvedO (t : Nat) : Option Nat :=
  (floatBits .mul .f64 t t).bind fun s => (floatBits .add .f64 4607182418800017408 s).bind fun s1 => (FloatKind.f64.format.sqrt s1).bind fun q => (floatBits .add .f64 4607182418800017408 q).bind fun q1 => floatBits .quo .f64 t q1
theorem halvedO_ok {t r : Nat} (h : halvedO t = some r) : Halved t r := by
  obtain ⟨s, h1, h⟩ := bnd h
  obtain ⟨s1, h2, h⟩ := bnd h
  obtain ⟨q, h3, h⟩ := bnd h
  obtain ⟨q1, h4, h⟩ := bnd h
  exact ⟨s, s1, q, q1, fop_mk h1, fop_mk h2, fsq_mk h3, fop_mk h4, fop_mk h⟩
def halvedNO (t : Nat) : Nat → Option Nat
  | 0 => some t
  | j + 1 => (halvedNO t j).bind halvedO
theorem halvedNO_ok {t : Nat} : ∀ {j r : Nat}, halvedNO t j = some r → HalvedN t j r
  | 0, r, h => by
    have h : some t = some r := h
    injection h with h
    exact h.symm
  | j + 1, r, h => by
    obtain ⟨y, h1, h⟩ := bnd h
    exact ⟨y, halvedNO_ok h1, halvedO_ok h⟩
def polyAO (u : Nat) : Nat → Option Nat
  | 0 => some 0
  | j + 1 => (polyAO u j).bind fun q => (floatBits .quo .f64 4607182418800017408 (floatOfInt .f64 (15 - 2 * (j : Int)))).bind fun d => (floatBits .mul .f64 u q).bind fun m => floatBits .sub .f64 d m
theorem polyAO_ok {u : Nat} : ∀ {j p : Nat}, polyAO u j = some p → PolyA u j p
  | 0, p, h => by
    have h : some 0 = some p := h
    injection h with h
    exact h.symm
  | j + 1, p, h => by
    obtain ⟨q, h1, h⟩ := bnd h
    obtain ⟨d, h2, h⟩ := bnd h
    obtain ⟨m, h3, h⟩ := bnd h
    exact ⟨q, d, m, polyAO_ok h1, fop_mk h2, fop_mk h3, fop_mk h⟩
def flatO (t : Nat) : Option Nat :=
  (halvedNO t 3).bind fun x => (floatBits .mul .f64 x x).bind fun u => (polyAO u 8).bind fun p => (floatBits .mul .f64 x p).bind fun m1 => (floatBits .mul .f64 4620693217682128896 m1).bind fun m2 => floatBits .quo .f64 m2 4618760256179416344
theorem flatO_ok {t r : Nat} (h : flatO t = some r) : FlatR t r := by
  obtain ⟨x, h1, h⟩ := bnd h
  obtain ⟨u, h2, h⟩ := bnd h
  obtain ⟨p, h3, h⟩ := bnd h
  obtain ⟨m1, h4, h⟩ := bnd h
  obtain ⟨m2, h5, h⟩ := bnd h
  exact ⟨x, u, p, m1, m2, halvedNO_ok h1, fop_mk h2, polyAO_ok h3, fop_mk h4, fop_mk h5, fop_mk h⟩
def fromO (c : Bool) (k g : Nat) : Option Nat := if c = true then floatBits .sub .f64 k g else some g
def angRO (a b : Nat) (xn yn : Bool) : Option Nat :=
  (if overB a b = true then floatBits .quo .f64 b a else floatBits .quo .f64 a b).bind fun t => (flatO t).bind fun g => (fromO (overB a b) 4598175219545276416 g).bind fun x => (fromO xn 4602678819172646912 x).bind fun y => some (if yn = true then Op.negFloat .f64 y else y)
theorem fromO_1 {c : Bool} {g x : Nat} (h : fromO c 4598175219545276416 g = some x) : St1 c g x := by
  unfold fromO at h
  unfold St1
  split at h
  · rename_i k; rw [if_pos k]; exact fop_mk h
  · rename_i k; rw [if_neg k]; injection h with h; exact h.symm
theorem fromO_2 {c : Bool} {g x : Nat} (h : fromO c 4602678819172646912 g = some x) : St2 c g x := by
  unfold fromO at h
  unfold St2
  split at h
  · rename_i k; rw [if_pos k]; exact fop_mk h
  · rename_i k; rw [if_neg k]; injection h with h; exact h.symm
theorem angRO_ok {a b : Nat} {xn yn : Bool} {r : Nat} (h : angRO a b xn yn = some r) : AngleR a b xn yn r := by
  obtain ⟨t, h1, h⟩ := bnd h
  obtain ⟨g, h2, h⟩ := bnd h
  obtain ⟨x, h3, h⟩ := bnd h
  obtain ⟨y, h4, h⟩ := bnd h
  injection h with h
  refine ⟨t, g, x, y, ?_, flatO_ok h2, fromO_1 h3, fromO_2 h4, h.symm⟩
  unfold TanR
  split at h1
  · rename_i k; rw [if_pos k]; exact fop_mk h1
  · rename_i k; rw [if_neg k]; exact fop_mk h1
/-- The angle of a point that is not nothing. -/
def angO (b c : Nat) : Option Nat :=
  (floatToFloatBits .f32 b .f64).bind fun y => (floatToFloatBits .f32 c .f64).bind fun x => if (fin .f64 y && fin .f64 x && !(zeroB y && zeroB x)) = true then (angRO (y % 9223372036854775808) (x % 9223372036854775808) (negB x) (negB y)).bind fun q => floatToFloatBits .f64 q .f32 else none
theorem angO_ok {b c r : Nat} (h : angO b c = some r) : AngleV b c r := by
  obtain ⟨y, h1, h⟩ := bnd h
  obtain ⟨x, h2, h⟩ := bnd h
  split at h
  · rename_i k
    obtain ⟨q, h3, h⟩ := bnd h
    rw [Bool.and_eq_true, Bool.and_eq_true, Bool.not_eq_true'] at k
    exact ⟨y, x, q, fcv_mk h1, fcv_mk h2, .inr (.inr ⟨k.1.1, k.1.2, k.2, angRO_ok h3⟩), fcv_mk h⟩
  · cases h

end Go.Proofs.Ytbdmmpkphiilkaa
