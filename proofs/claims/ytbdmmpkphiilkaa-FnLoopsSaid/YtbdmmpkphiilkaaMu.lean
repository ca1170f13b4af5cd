/-
  Products and powers of any complex numbers as chains of operations, walked, and the same chains reckoned.
-/
import Derived.Test.YtbdmmpkphiilkaaPw
import Derived.Test.YtbdmmpkphiilkaaSc
import Derived.Test.YtbdmmpkphiilkaaCc
namespace Go.Proofs.Ytbdmmpkphiilkaa
open Go.RowKit Fl

/-- What is given when two words are made. -/
def GivesZ (k : FloatKind) (p : Nat → Nat → Prop) (w : World) (e : Ending) (w' : World) : Prop := ∃ re im n, e = .returned (.complex k re im) ∧ p re im ∧ re < 2 ^ k.format.width ∧ im < 2 ^ k.format.width ∧ w' = w.drewN n
def ProdZ (x1 x2 y1 y2 r1 r2 : Nat) : Prop := ∃ a b c d ac bd ad bc, FCv .f32 .f64 x1 a ∧ FCv .f32 .f64 x2 b ∧ FCv .f32 .f64 y1 c ∧ FCv .f32 .f64 y2 d ∧ FOp .mul .f64 a c ac ∧ FOp .mul .f64 b d bd ∧ FOp .sub .f64 ac bd r1 ∧ FOp .mul .f64 a d ad ∧ FOp .mul .f64 b c bc ∧ FOp .add .f64 ad bc r2
def MulZ (x1 x2 y1 y2 r1 r2 : Nat) : Prop := ∃ p q, ProdZ x1 x2 y1 y2 p q ∧ FCv .f64 .f32 p r1 ∧ FCv .f64 .f32 q r2
def PowZ (x1 x2 r : Nat) : Prop := ∃ a b aa bb, FCv .f32 .f64 x1 a ∧ FCv .f32 .f64 x2 b ∧ FOp .mul .f64 a a aa ∧ FOp .mul .f64 b b bb ∧ FOp .add .f64 aa bb r
def PowN (x1 x2 r : Nat) : Prop := ∃ p, PowZ x1 x2 p ∧ FCv .f64 .f32 p r

def mulZO (x1 x2 y1 y2 : Nat) : Option (Nat × Nat) :=
  (floatToFloatBits .f32 x1 .f64).bind fun a => (floatToFloatBits .f32 x2 .f64).bind fun b => (floatToFloatBits .f32 y1 .f64).bind fun c => (floatToFloatBits .f32 y2 .f64).bind fun d =>
  (floatBits .mul .f64 a c).bind fun ac => (floatBits .mul .f64 b d).bind fun bd => (floatBits .sub .f64 ac bd).bind fun p => (floatBits .mul .f64 a d).bind fun ad => (floatBits .mul .f64 b c).bind fun bc => (floatBits .add .f64 ad bc).bind fun q =>
  (floatToFloatBits .f64 p .f32).bind fun r1 => (floatToFloatBits .f64 q .f32).bind fun r2 => some (r1, r2)
theorem mulZO_eq {x1 x2 y1 y2 r1 r2 : Nat} {r : Nat × Nat} (h : mulZO x1 x2 y1 y2 = some r) (g : MulZ x1 x2 y1 y2 r1 r2) : r1 = r.1 ∧ r2 = r.2 := by
  obtain ⟨a, h1, h⟩ := bnd h
  obtain ⟨b, h2, h⟩ := bnd h
  obtain ⟨c, h3, h⟩ := bnd h
  obtain ⟨d, h4, h⟩ := bnd h
  obtain ⟨ac, h5, h⟩ := bnd h
  obtain ⟨bd, h6, h⟩ := bnd h
  obtain ⟨p, h7, h⟩ := bnd h
  obtain ⟨ad, h8, h⟩ := bnd h
  obtain ⟨bc, h9, h⟩ := bnd h
  obtain ⟨q, h10, h⟩ := bnd h
  obtain ⟨u, h11, h⟩ := bnd h
  obtain ⟨v, h12, h⟩ := bnd h
  have hr : (u, v) = r := Option.some.inj h
  clear h
  obtain ⟨p', q', ⟨a', b', c', d', ac', bd', ad', bc', g1, g2, g3, g4, g5, g6, g7, g8, g9, g10⟩, g11, g12⟩ := g
  have e := fcv_eq h1 g1
  subst e
  have e := fcv_eq h2 g2
  subst e
  have e := fcv_eq h3 g3
  subst e
  have e := fcv_eq h4 g4
  subst e
  have e := fop_eq h5 g5
  subst e
  have e := fop_eq h6 g6
  subst e
  have e := fop_eq h7 g7
  subst e
  have e := fop_eq h8 g8
  subst e
  have e := fop_eq h9 g9
  subst e
  have e := fop_eq h10 g10
  subst e
  rw [← hr]
  exact ⟨fcv_eq h11 g11, fcv_eq h12 g12⟩
def powNO (x1 x2 : Nat) : Option Nat :=
  (floatToFloatBits .f32 x1 .f64).bind fun a => (floatToFloatBits .f32 x2 .f64).bind fun b => (floatBits .mul .f64 a a).bind fun aa => (floatBits .mul .f64 b b).bind fun bb => (floatBits .add .f64 aa bb).bind fun p => floatToFloatBits .f64 p .f32
theorem powNO_eq {x1 x2 r r' : Nat} (h : powNO x1 x2 = some r) (g : PowN x1 x2 r') : r' = r := by
  obtain ⟨a, h1, h⟩ := bnd h
  obtain ⟨b, h2, h⟩ := bnd h
  obtain ⟨aa, h3, h⟩ := bnd h
  obtain ⟨bb, h4, h⟩ := bnd h
  obtain ⟨p, h5, h⟩ := bnd h
  obtain ⟨p', ⟨a', b', aa', bb', g1, g2, g3, g4, g5⟩, g6⟩ := g
  have e := fcv_eq h1 g1
  subst e
  have e := fcv_eq h2 g2
  subst e
  have e := fop_eq h3 g3
  subst e
  have e := fop_eq h4 g4
  subst e
  have e := fop_eq h5 g5
  subst e
  exact fcv_eq h g6

set_option maxHeartbeats 2000000 in
theorem wideProductZ_calls (x1 x2 y1 y2 : Nat) (w : World) : Calls Try.prog 86 #[.complex .f32 x1 x2, .complex .f32 y1 y2] w (GivesZ .f64 (ProdZ x1 x2 y1 y2) w) := by
  go_enter Try.func86, Try.ntmps86
  go_wp2_with (first | (refine wpList_conv rfl _ _ _ rfl .f32 .f64 (by decide) (.inl rfl) _ rfl (by kernel_rfl) (by kernel_rfl) ?_; intro r n hr hl) | (refine wpList_arith rfl _ _ _ _ _ rfl rfl _ _ _ rfl rfl ?_; intro r n hr hl))
  go_ret
  exact ⟨_, _, _, rfl, ⟨_, _, _, _, _, _, _, _, by assumption, by assumption, by assumption, by assumption, by assumption, by assumption, by assumption, by assumption, by assumption, by assumption⟩, by assumption, by assumption, rfl⟩

set_option maxHeartbeats 2000000 in
theorem narrowZ_calls (a b : Nat) (w : World) : Calls Try.prog 85 #[.complex .f64 a b] w (GivesZ .f32 (fun re im => FCv .f64 .f32 a re ∧ FCv .f64 .f32 b im) w) := by
  go_enter Try.func85, Try.ntmps85
  go_wp2_with (go_at_call 81; refine (narrowNumber_calls _ _).mono ?_; rintro e w' ⟨z, n, rfl, hz, hzl, rfl⟩)
  rename_i re n1 h1 l1
  go_ret
  exact ⟨_, _, _, rfl, ⟨h1, hz⟩, l1, hzl, rfl⟩

set_option maxHeartbeats 1000000 in
theorem mulComplexZ_calls (x1 x2 y1 y2 : Nat) (w : World) : Calls Try.prog 37 #[.complex .f32 x1 x2, .complex .f32 y1 y2] w (GivesZ .f32 (MulZ x1 x2 y1 y2) w) := by
  go_enter Try.func37, Try.ntmps37
  go_wp2_with fail
  refine (wideProductZ_calls x1 x2 y1 y2 _).mono ?_
  rintro e w1 ⟨r1, r2, n1, rfl, hp, _, _, rfl⟩
  have HPW := Frame.hid hp
  clear hp
  go_wp2_with fail
  refine (narrowZ_calls r1 r2 _).mono ?_
  rintro e w2 ⟨s1, s2, n2, rfl, ⟨k1, k2⟩, l1, l2, rfl⟩
  go_wp2_with fail
  go_ret
  exact ⟨_, _, _, rfl, ⟨r1, r2, HPW.out, k1, k2⟩, l1, l2, rfl⟩

set_option maxHeartbeats 2000000 in
theorem widePowerZ_calls (x1 x2 : Nat) (w : World) : Calls Try.prog 83 #[.complex .f32 x1 x2] w (Gives .f64 (PowZ x1 x2) w) := by
  go_enter Try.func83, Try.ntmps83
  go_wp2_with (first | (refine wpList_conv rfl _ _ _ rfl .f32 .f64 (by decide) (.inl rfl) _ rfl (by kernel_rfl) (by kernel_rfl) ?_; intro r n hr hl) | (refine wpList_arith rfl _ _ _ _ _ rfl rfl _ _ _ rfl rfl ?_; intro r n hr hl))
  go_ret
  exact ⟨_, _, rfl, ⟨_, _, _, _, by assumption, by assumption, by assumption, by assumption, by assumption⟩, by assumption, rfl⟩

end Go.Proofs.Ytbdmmpkphiilkaa
