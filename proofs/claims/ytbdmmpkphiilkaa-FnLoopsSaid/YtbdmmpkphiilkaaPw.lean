/-
  Powers and logarithms as chains of operations, and the same chains reckoned.
  Own work; imports nothing of the program.
-/
import Derived.Test.YtbdmmpkphiilkaaTx
namespace Go.Proofs.Ytbdmmpkphiilkaa
namespace Fl
open Ieee

theorem fop_eq {op : BinOp} {k : FloatKind} {x y q r : Nat} (h : floatBits op k x y = some q) (g : FOp op k x y r) : r = q := by
  unfold FOp at g; rw [h] at g; exact g
theorem fcv_eq {s k : FloatKind} {b q r : Nat} (h : floatToFloatBits s b k = some q) (g : FCv s k b r) : r = q := by
  unfold FCv at g; rw [h] at g; exact g
theorem fop_mk {op : BinOp} {k : FloatKind} {x y q : Nat} (h : floatBits op k x y = some q) : FOp op k x y q := by
  unfold FOp; rw [h]
theorem fcv_mk {s k : FloatKind} {b q : Nat} (h : floatToFloatBits s b k = some q) : FCv s k b q := by
  unfold FCv; rw [h]
theorem bnd {α β : Type} {o : Option α} {g : α → Option β} {r : β} (h : o.bind g = some r) : ∃ x, o = some x ∧ g x = some r := by
  cases o with
  | none => cases h
  | some x => exact ⟨x, rfl, h⟩

def PolyE (t : Nat) : Nat → Nat → Prop
  | 0, p => p = 4607182418800017408
  | j + 1, p' => ∃ p m d, PolyE t j p ∧ FOp .mul .f64 t p m ∧ FOp .quo .f64 m (floatOfInt .f64 (12 - (j : Int))) d ∧ FOp .add .f64 4607182418800017408 d p'
def polyO (t : Nat) : Nat → Option Nat
  | 0 => some 4607182418800017408
  | j + 1 => (polyO t j).bind fun p => (floatBits .mul .f64 t p).bind fun m => (floatBits .quo .f64 m (floatOfInt .f64 (12 - (j : Int)))).bind fun d => floatBits .add .f64 4607182418800017408 d
theorem polyO_eq {t : Nat} : ∀ {j p p' : Nat}, polyO t j = some p → PolyE t j p' → p' = p
  | 0, p, p', h, g => by
    have h : some 4607182418800017408 = some p := h
    injection h with h
    exact (show p' = _ from g).trans h
  | j + 1, p, p', h, ⟨q, m, d, g1, g2, g3, g4⟩ => by
    obtain ⟨q0, h1, h⟩ := bnd h
    obtain ⟨m0, h2, h⟩ := bnd h
    obtain ⟨d0, h3, h⟩ := bnd h
    have e := polyO_eq h1 g1
    subst e
    have e := fop_eq h2 g2
    subst e
    have e := fop_eq h3 g3
    subst e
    exact fop_eq h g4

def SqE (p : Nat) : Nat → Nat → Prop
  | 0, q => q = p
  | j + 1, q' => ∃ q, SqE p j q ∧ FOp .mul .f64 q q q'
def sqO (p : Nat) : Nat → Option Nat
  | 0 => some p
  | j + 1 => (sqO p j).bind fun q => floatBits .mul .f64 q q
theorem sqO_eq {p : Nat} : ∀ {j q q' : Nat}, sqO p j = some q → SqE p j q' → q' = q
  | 0, q, q', h, g => by
    have h : some p = some q := h
    injection h with h
    exact (show q' = _ from g).trans h
  | j + 1, q, q', h, ⟨r, g1, g2⟩ => by
    obtain ⟨r0, h1, h⟩ := bnd h
    have e := sqO_eq h1 g1
    subst e
    exact fop_eq h g2

/-- What ExpNumber may leave at an x that is not too great. -/
def ExpR (x r : Nat) : Prop := ∃ y t p q, FCv .f32 .f64 x y ∧ FOp .quo .f64 y 4643211215818981376 t ∧ PolyE t 12 p ∧ SqE p 8 q ∧ FCv .f64 .f32 q r
def expO (x : Nat) : Option Nat :=
  (floatToFloatBits .f32 x .f64).bind fun y => (floatBits .quo .f64 y 4643211215818981376).bind fun t => (polyO t 12).bind fun p => (sqO p 8).bind fun q => floatToFloatBits .f64 q .f32
theorem expO_eq {x r r' : Nat} (h : expO x = some r) (g : ExpR x r') : r' = r := by
  obtain ⟨y, h1, h⟩ := bnd h
  obtain ⟨t, h2, h⟩ := bnd h
  obtain ⟨p, h3, h⟩ := bnd h
  obtain ⟨q, h4, h⟩ := bnd h
  obtain ⟨y', t', p', q', g1, g2, g3, g4, g5⟩ := g
  have e := fcv_eq h1 g1
  subst e
  have e := fop_eq h2 g2
  subst e
  have e := polyO_eq h3 g3
  subst e
  have e := sqO_eq h4 g4
  subst e
  exact fcv_eq h g5
/-- Neither of the two tests of ExpNumber. -/
def midB (x : Nat) : Bool := !(FloatKind.f32.format.order x 1128792064 == some Ordering.gt) && !(FloatKind.f32.format.order x 3276275712 == some Ordering.lt)

/-! ### The logarithm, reckoned -/

def downO : Nat → Nat → Nat → Option (Nat × Nat)
  | 0, _, _ => none
  | f + 1, j, x => if geB x = true then (floatBits .quo .f64 x 4611686018427387904).bind (downO f (j + 1)) else some (j, x)
theorem downO_ok {y : Nat} : ∀ {f j x : Nat} {r : Nat × Nat}, downO f j x = some r → Down y j x → Down y r.1 r.2 ∧ geB r.2 = false
  | 0, _, _, _, h, _ => by cases h
  | f + 1, j, x, r, h, g => by
    unfold downO at h
    cases hg : geB x
    · rw [hg, if_neg Bool.false_ne_true] at h
      injection h with h
      subst h
      exact ⟨g, hg⟩
    · rw [hg, if_pos rfl] at h
      obtain ⟨z, h1, h⟩ := bnd h
      exact downO_ok h ⟨x, g, hg, fop_mk h1⟩
def upO : Nat → Nat → Nat → Option (Nat × Nat)
  | 0, _, _ => none
  | f + 1, j, x => if ltB x = true then (floatBits .mul .f64 x 4611686018427387904).bind (upO f (j + 1)) else some (j, x)
theorem upO_ok {y : Nat} : ∀ {f j x : Nat} {r : Nat × Nat}, upO f j x = some r → Up y j x → Up y r.1 r.2 ∧ ltB r.2 = false
  | 0, _, _, _, h, _ => by cases h
  | f + 1, j, x, r, h, g => by
    unfold upO at h
    cases hg : ltB x
    · rw [hg, if_neg Bool.false_ne_true] at h
      injection h with h
      subst h
      exact ⟨g, hg⟩
    · rw [hg, if_pos rfl] at h
      obtain ⟨z, h1, h⟩ := bnd h
      exact upO_ok h ⟨x, g, hg, fop_mk h1⟩
def polyLO (u : Nat) : Nat → Option Nat
  | 0 => some 0
  | j + 1 => (polyLO u j).bind fun q => (floatBits .quo .f64 4607182418800017408 (floatOfInt .f64 (25 - 2 * (j : Int)))).bind fun d => (floatBits .mul .f64 u q).bind fun m => floatBits .add .f64 d m
theorem polyLO_ok {u : Nat} : ∀ {j p : Nat}, polyLO u j = some p → PolyL u j p
  | 0, p, h => by
    have h : some 0 = some p := h
    injection h with h
    exact h.symm
  | j + 1, p, h => by
    obtain ⟨q, h1, h⟩ := bnd h
    obtain ⟨d, h2, h⟩ := bnd h
    obtain ⟨m, h3, h⟩ := bnd h
    exact ⟨q, d, m, polyLO_ok h1, fop_mk h2, fop_mk h3, fop_mk h⟩
def logTO (e : Int) (x : Nat) : Option Nat :=
  (floatBits .sub .f64 x 4607182418800017408).bind fun a => (floatBits .add .f64 x 4607182418800017408).bind fun b => (floatBits .quo .f64 a b).bind fun s => (floatBits .mul .f64 s s).bind fun u =>
  (polyLO u 13).bind fun q => (floatBits .mul .f64 s q).bind fun m1 => (floatBits .mul .f64 4611686018427387904 m1).bind fun m2 => (floatBits .mul .f64 (floatOfInt .f64 e) 4604418534313441775).bind fun m3 => floatBits .add .f64 m2 m3
theorem logTO_ok {e : Int} {x r : Nat} (h : logTO e x = some r) : LogT e x r := by
  obtain ⟨a, h1, h⟩ := bnd h
  obtain ⟨b, h2, h⟩ := bnd h
  obtain ⟨s, h3, h⟩ := bnd h
  obtain ⟨u, h4, h⟩ := bnd h
  obtain ⟨q, h5, h⟩ := bnd h
  obtain ⟨m1, h6, h⟩ := bnd h
  obtain ⟨m2, h7, h⟩ := bnd h
  obtain ⟨m3, h8, h⟩ := bnd h
  exact ⟨a, b, s, u, q, m1, m2, m3, fop_mk h1, fop_mk h2, fop_mk h3, fop_mk h4, polyLO_ok h5, fop_mk h6, fop_mk h7, fop_mk h8, fop_mk h⟩
def logO (b : Nat) : Option Nat :=
  (floatToFloatBits .f32 b .f64).bind fun y => (downO 140 0 y).bind fun r1 => (upO 160 0 r1.2).bind fun r2 => (logTO ((r1.1 : Int) - (r2.1 : Int)) r2.2).bind fun q => floatToFloatBits .f64 q .f32

/-- The absolute difference. -/
def GapR (a b r : Nat) : Prop := if (FloatKind.f64.format.order a b == some Ordering.lt) = true then FOp .sub .f64 b a r else FOp .sub .f64 a b r
def gapO (a b : Nat) : Option Nat := if (FloatKind.f64.format.order a b == some Ordering.lt) = true then floatBits .sub .f64 b a else floatBits .sub .f64 a b
theorem gapO_eq {a b r r' : Nat} (h : gapO a b = some r) (g : GapR a b r') : r' = r := by
  unfold gapO at h
  unfold GapR at g
  split at h
  · rename_i c; rw [if_pos c] at g; exact fop_eq h g
  · rename_i c; rw [if_neg c] at g; exact fop_eq h g
end Fl

open Fl Ieee in
theorem logO_ok {b r : Nat} (hb : b < 4294967296) (hf : fin .f32 b = true) (ho : FloatKind.f32.format.order b 0 = some Ordering.gt) (h : logO b = some r) : LogV b r := by
  obtain ⟨y, h1, h⟩ := bnd h
  obtain ⟨r1, h2, h⟩ := bnd h
  obtain ⟨r2, h3, h⟩ := bnd h
  obtain ⟨q, h4, h⟩ := bnd h
  obtain ⟨_, _, g4, g5⟩ := pos_kinds hb hf ho (fcv_mk h1)
  have hn : isNan .f32 b = false := by
    have := fin_eq .f32 b
    rw [hf] at this
    cases hq : isNan .f32 b
    · rfl
    · rw [hq] at this; cases this
  obtain ⟨d1, d2⟩ := downO_ok (y := y) h2 rfl
  obtain ⟨u1, u2⟩ := upO_ok (y := r1.2) h3 rfl
  exact LogV.mk_pos hn hf ho (fcv_mk h1) g4 g5 ⟨r1.1, r1.2, r2.1, r2.2, d1, d2, u1, u2, logTO_ok h4⟩ (fcv_mk h)

end Go.Proofs.Ytbdmmpkphiilkaa
