/-
  Phasors and tenths of decibels as chains of operations, reckoned.
  Own work; imports nothing of the program.
-/
import Derived.Test.YtbdmmpkphiilkaaPw
import Derived.Test.YtbdmmpkphiilkaaPh
namespace Go.Proofs.Ytbdmmpkphiilkaa
namespace Fl
open Ieee

def ifO (c : Bool) (a b : Option Nat) : Option Nat := match c with | true => a | false => b
def step1O (f : Nat) : Option Nat := if (FloatKind.f64.format.order f 0 == some Ordering.lt) = true then floatBits .add .f64 f 4607182418800017408 else some f
theorem step1O_ok {f g : Nat} (h : step1O f = some g) : Step1 f g := by
  unfold step1O at h
  unfold Step1
  split at h
  · rename_i c; rw [if_pos c]; exact fop_mk h
  · rename_i c; rw [if_neg c]; injection h with h; exact h.symm
def partO (y : Nat) : Option Nat := (floatToIntVal .f64 y .i64).bind fun n => (floatBits .sub .f64 y (floatOfInt .f64 n)).bind step1O
theorem partO_ok {y f : Nat} (h : partO y = some f) : PartR y f := by
  obtain ⟨n, h1, h⟩ := bnd h
  obtain ⟨f0, h2, h⟩ := bnd h
  exact ⟨n, f0, h1, fop_mk h2, step1O_ok h⟩
def step2O (f : Nat) : Option Nat := if halfB f = true then floatBits .sub .f64 f 4602678819172646912 else some f
theorem step2O_ok {f g : Nat} (h : step2O f = some g) : Step2 f g := by
  unfold step2O at h
  unfold Step2
  split at h
  · rename_i c; rw [if_pos c]; exact fop_mk h
  · rename_i c; rw [if_neg c]; injection h with h; exact h.symm
def step3O (f : Nat) : Option Nat := if (FloatKind.f64.format.order f 4598175219545276416 == some Ordering.gt) = true then floatBits .sub .f64 4602678819172646912 f else some f
theorem step3O_ok {f g : Nat} (h : step3O f = some g) : Step3 f g := by
  unfold step3O at h
  unfold Step3
  split at h
  · rename_i c; rw [if_pos c]; exact fop_mk h
  · rename_i c; rw [if_neg c]; injection h with h; exact h.symm
def sinePO (u : Nat) : Nat → Option Nat
  | 0 => some 4607182418800017408
  | j + 1 => (sinePO u j).bind fun q => (floatBits .mul .f64 u q).bind fun a => (floatBits .quo .f64 a (floatOfInt .f64 (cOf (8 - (j : Int))))).bind fun d => floatBits .sub .f64 4607182418800017408 d
theorem sinePO_ok {u : Nat} : ∀ {j p : Nat}, sinePO u j = some p → Poly u j p
  | 0, p, h => by
    have h : some 4607182418800017408 = some p := h
    injection h with h
    exact h.symm
  | j + 1, p, h => by
    obtain ⟨q, h1, h⟩ := bnd h
    obtain ⟨a, h2, h⟩ := bnd h
    obtain ⟨d, h3, h⟩ := bnd h
    exact ⟨q, a, d, sinePO_ok h1, fop_mk h2, fop_mk h3, fop_mk h⟩
def sineFO (f : Nat) : Option Nat :=
  (step2O f).bind fun g => (step3O g).bind fun h => (floatBits .mul .f64 h 4618760256179416344).bind fun z => (floatBits .mul .f64 z z).bind fun u => (sinePO u 8).bind fun p => (floatBits .mul .f64 z p).bind fun m => some (if halfB f = true then Op.negFloat .f64 m else m)
theorem sineFO_ok {f r : Nat} (h : sineFO f = some r) : SineF f r := by
  obtain ⟨g, h1, h⟩ := bnd h
  obtain ⟨i, h2, h⟩ := bnd h
  obtain ⟨z, h3, h⟩ := bnd h
  obtain ⟨u, h4, h⟩ := bnd h
  obtain ⟨p, h5, h⟩ := bnd h
  obtain ⟨m, h6, h⟩ := bnd h
  injection h with h
  exact ⟨g, i, z, u, p, m, step2O_ok h1, step3O_ok h2, fop_mk h3, fop_mk h4, sinePO_ok h5, fop_mk h6, h.symm⟩
def sineO (y : Nat) : Option Nat := (partO y).bind sineFO
theorem sineO_ok {y r : Nat} (h : sineO y = some r) : SineR y r := by
  obtain ⟨f, h1, h⟩ := bnd h
  exact ⟨f, partO_ok h1, sineFO_ok h⟩
def quartO : Nat → Nat → Nat → Option (Nat × Nat)
  | 0, _, _ => none
  | f + 1, j, x => if gqB x = true then (floatBits .sub .f64 x 4598175219545276416).bind (quartO f (j + 1)) else some (j, x)
theorem quartO_ok {y : Nat} : ∀ {f j x : Nat} {r : Nat × Nat}, quartO f j x = some r → Quart y j x → Quart y r.1 r.2 ∧ gqB r.2 = false
  | 0, _, _, _, h, _ => by cases h
  | f + 1, j, x, r, h, g => by
    unfold quartO at h
    cases hg : gqB x
    · rw [hg, if_neg Bool.false_ne_true] at h
      injection h with h
      subst h
      exact ⟨g, hg⟩
    · rw [hg, if_pos rfl] at h
      obtain ⟨z, h1, h⟩ := bnd h
      exact quartO_ok h ⟨x, g, hg, fop_mk h1⟩
def pickO (j c s : Nat) : Option (Nat × Nat) :=
  if j = 1 then (floatBits .sub .f64 0 s).bind fun a => some (a, c) else if j = 2 then (floatBits .sub .f64 0 c).bind fun a => (floatBits .sub .f64 0 s).bind fun b => some (a, b) else if j = 3 then (floatBits .sub .f64 0 c).bind fun b => some (s, b) else some (c, s)
theorem pickO_ok {j c s : Nat} {r : Nat × Nat} (h : pickO j c s = some r) : Pick j c s r.1 r.2 := by
  unfold pickO at h
  unfold Pick
  split at h
  · rename_i k; rw [if_pos k]
    obtain ⟨a, h1, h⟩ := bnd h
    injection h with h
    subst h
    exact ⟨fop_mk h1, rfl⟩
  · rename_i k; rw [if_neg k]
    split at h
    · rename_i k; rw [if_pos k]
      obtain ⟨a, h1, h⟩ := bnd h
      obtain ⟨b, h2, h⟩ := bnd h
      injection h with h
      subst h
      exact ⟨fop_mk h1, fop_mk h2⟩
    · rename_i k; rw [if_neg k]
      split at h
      · rename_i k; rw [if_pos k]
        obtain ⟨b, h2, h⟩ := bnd h
        injection h with h
        subst h
        exact ⟨rfl, fop_mk h2⟩
      · rename_i k; rw [if_neg k]
        injection h with h
        subst h
        exact ⟨rfl, rfl⟩
/-- The phasor of y turns; f is what is left of y without its integer. -/
def phasFO (f : Nat) : Option (Nat × Nat) :=
  (quartO 5 0 f).bind fun r => (floatBits .sub .f64 4598175219545276416 r.2).bind fun g => (sineO g).bind fun c => (sineO r.2).bind fun s => (pickO r.1 c s).bind fun ab => (floatToFloatBits .f64 ab.1 .f32).bind fun re => (floatToFloatBits .f64 ab.2 .f32).bind fun im => some (re, im)
theorem phasFO_ok {y f : Nat} {r : Nat × Nat} (h1 : partO y = some f) (h : phasFO f = some r) : PhasR y r.1 r.2 := by
  obtain ⟨q, h2, h⟩ := bnd h
  obtain ⟨g, h3, h⟩ := bnd h
  obtain ⟨c, h4, h⟩ := bnd h
  obtain ⟨s, h5, h⟩ := bnd h
  obtain ⟨ab, h6, h⟩ := bnd h
  obtain ⟨re, h7, h⟩ := bnd h
  obtain ⟨im, h8, h⟩ := bnd h
  injection h with h
  subst h
  obtain ⟨k1, k2⟩ := quartO_ok (y := f) h2 rfl
  exact ⟨f, q.1, q.2, g, c, s, ab.1, ab.2, partO_ok h1, k1, k2, fop_mk h3, sineO_ok h4, sineO_ok h5, pickO_ok h6, fcv_mk h7, fcv_mk h8⟩

/-- The 64th parts of turns. -/
def turnW (a : Int) : Option Nat := floatBits .quo .f64 (floatOfInt .f64 a) 4634204016564240384

end Fl
end Go.Proofs.Ytbdmmpkphiilkaa
