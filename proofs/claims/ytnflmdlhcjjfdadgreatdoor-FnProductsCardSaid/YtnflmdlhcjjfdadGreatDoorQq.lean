/-
  Products, powers, roots and quotients of complex numbers whose parts are small integers, walked.
-/
/-
  Opposites, conjugates, quotients and multiples of complex numbers whose parts are small integers, walked.
-/
import Derived.Test.YtnflmdlhcjjfdadGreatDoorIv
import Derived.Test.YtnflmdlhcjjfdadGreatDoorCc
import Derived.Test.YtnflmdlhcjjfdadGreatDoorRt
import Derived.Test.YtnflmdlhcjjfdadGreatDoorOp
namespace Go.Proofs.YtnflmdlhcjjfdadGreatDoor
open Go.RowKit Fl

theorem sm64 {n : Int} (h : n.natAbs < 9007199254740992) : Sm FloatKind.f64.format n := by
  unfold Sm
  by_cases h0 : n.natAbs = 0
  · rw [h0]; decide
  · have h1 := (Nat.log2_lt h0 (k := 53)).2 (by have e : (2 : Nat) ^ 53 = 9007199254740992 := by decide
                                                omega)
    have h2 : FloatKind.f64.format.fractionBits = 52 := rfl
    omega
theorem sm32 {n : Int} (h : n.natAbs < 16777216) : Sm FloatKind.f32.format n := by
  unfold Sm
  by_cases h0 : n.natAbs = 0
  · rw [h0]; decide
  · have h1 := (Nat.log2_lt h0 (k := 24)).2 (by have e : (2 : Nat) ^ 24 = 16777216 := by decide
                                                omega)
    have h2 : FloatKind.f32.format.fractionBits = 23 := rfl
    omega
def Sml (n : Int) : Prop := n.natAbs ≤ 262144
theorem Sml.mul {a b : Int} (ha : Sml a) (hb : Sml b) : (a * b).natAbs ≤ 68719476736 := by
  rw [Int.natAbs_mul]
  exact Nat.mul_le_mul ha hb
theorem Sml.wide {a : Int} (ha : Sml a) : Sm FloatKind.f64.format a := sm64 (by unfold Sml at ha; omega)
theorem Sml.few {a : Int} (ha : Sml a) : Sm FloatKind.f32.format a := sm32 (by unfold Sml at ha; omega)
theorem Sml.neg {a : Int} (ha : Sml a) : Sml (-a) := by unfold Sml at *; omega
theorem Sml.mulw {a b : Int} (ha : Sml a) (hb : Sml b) : Sm FloatKind.f64.format (a * b) := sm64 (by have := ha.mul hb; omega)
theorem Sml.addw {a b c d : Int} (ha : Sml a) (hb : Sml b) (hc : Sml c) (hd : Sml d) : Sm FloatKind.f64.format (a * b + c * d) := sm64 (by have := ha.mul hb; have := hc.mul hd; omega)
theorem Sml.subw {a b c d : Int} (ha : Sml a) (hb : Sml b) (hc : Sml c) (hd : Sml d) : Sm FloatKind.f64.format (a * b - c * d) := sm64 (by have := ha.mul hb; have := hc.mul hd; omega)

theorem widen_int {x r : Nat} {a : Int} (ha : Sml a) (hx : IV FloatKind.f32.format x a) (h : FCv .f32 .f64 x r) : IV FloatKind.f64.format r a := (conv_int (by decide) ha.few ha.wide hx h).1

/-- What is given when two words are made. -/
def GivesW (k : FloatKind) (p : Nat → Nat → Prop) (w : World) (e : Ending) (w' : World) : Prop := ∃ re im n, e = .returned (.complex k re im) ∧ p re im ∧ re < 2 ^ k.format.width ∧ im < 2 ^ k.format.width ∧ w' = w.drewN n

theorem re_int {x1 x2 y1 y2 r1 r2 s1 s2 p q r : Nat} {a b c d : Int} (ha : Sml a) (hb : Sml b) (hc : Sml c) (hd : Sml d) (h1 : IV FloatKind.f32.format x1 a) (h2 : IV FloatKind.f32.format x2 b) (g1 : IV FloatKind.f32.format y1 c) (g2 : IV FloatKind.f32.format y2 d)
    (k1 : FCv .f32 .f64 x1 r1) (k2 : FCv .f32 .f64 x2 r2) (l1 : FCv .f32 .f64 y1 s1) (l2 : FCv .f32 .f64 y2 s2) (m1 : FOp .mul .f64 r1 s1 p) (m2 : FOp .mul .f64 r2 s2 q) (m : FOp .sub .f64 p q r) : IV FloatKind.f64.format r (a * c - b * d) :=
  sub_int (ha.mulw hc) (hb.mulw hd) (ha.subw hc hb hd) (mul_int ha.wide hc.wide (ha.mulw hc) (widen_int ha h1 k1) (widen_int hc g1 l1) m1).1 (mul_int hb.wide hd.wide (hb.mulw hd) (widen_int hb h2 k2) (widen_int hd g2 l2) m2).1 m
theorem im_int {x1 x2 y1 y2 r1 r2 s1 s2 p q r : Nat} {a b c d : Int} (ha : Sml a) (hb : Sml b) (hc : Sml c) (hd : Sml d) (h1 : IV FloatKind.f32.format x1 a) (h2 : IV FloatKind.f32.format x2 b) (g1 : IV FloatKind.f32.format y1 c) (g2 : IV FloatKind.f32.format y2 d)
    (k1 : FCv .f32 .f64 x1 r1) (k2 : FCv .f32 .f64 x2 r2) (l1 : FCv .f32 .f64 y1 s1) (l2 : FCv .f32 .f64 y2 s2) (m1 : FOp .mul .f64 r1 s2 p) (m2 : FOp .mul .f64 r2 s1 q) (m : FOp .add .f64 p q r) : IV FloatKind.f64.format r (a * d + b * c) :=
  (add_int (ha.mulw hd) (hb.mulw hc) (ha.addw hd hb hc) (mul_int ha.wide hd.wide (ha.mulw hd) (widen_int ha h1 k1) (widen_int hd g2 l2) m1).1 (mul_int hb.wide hc.wide (hb.mulw hc) (widen_int hb h2 k2) (widen_int hc g1 l1) m2).1 m).1
theorem pow_int {x1 x2 r1 r2 p q r : Nat} {a b : Int} (ha : Sml a) (hb : Sml b) (h1 : IV FloatKind.f32.format x1 a) (h2 : IV FloatKind.f32.format x2 b)
    (k1 : FCv .f32 .f64 x1 r1) (k2 : FCv .f32 .f64 x2 r2) (m1 : FOp .mul .f64 r1 r1 p) (m2 : FOp .mul .f64 r2 r2 q) (m : FOp .add .f64 p q r) : IVs FloatKind.f64.format r (a * a + b * b) :=
  (add_int (ha.mulw ha) (hb.mulw hb) (ha.addw ha hb hb) (mul_int ha.wide ha.wide (ha.mulw ha) (widen_int ha h1 k1) (widen_int ha h1 k1) m1).1 (mul_int hb.wide hb.wide (hb.mulw hb) (widen_int hb h2 k2) (widen_int hb h2 k2) m2).1 m).2 (.inl ((mul_int ha.wide ha.wide (ha.mulw ha) (widen_int ha h1 k1) (widen_int ha h1 k1) m1).2 rfl))

def ReI (x1 x2 y1 y2 : Nat) (v : Int) : Prop := ∀ r1 r2 s1 s2 p q r : Nat, FCv .f32 .f64 x1 r1 → FCv .f32 .f64 x2 r2 → FCv .f32 .f64 y1 s1 → FCv .f32 .f64 y2 s2 → FOp .mul .f64 r1 s1 p → FOp .mul .f64 r2 s2 q → FOp .sub .f64 p q r → IV FloatKind.f64.format r v
def ImI (x1 x2 y1 y2 : Nat) (v : Int) : Prop := ∀ r1 r2 s1 s2 p q r : Nat, FCv .f32 .f64 x1 r1 → FCv .f32 .f64 x2 r2 → FCv .f32 .f64 y1 s1 → FCv .f32 .f64 y2 s2 → FOp .mul .f64 r1 s2 p → FOp .mul .f64 r2 s1 q → FOp .add .f64 p q r → IV FloatKind.f64.format r v
def PwI (x1 x2 : Nat) (v : Int) : Prop := ∀ r1 r2 p q r : Nat, FCv .f32 .f64 x1 r1 → FCv .f32 .f64 x2 r2 → FOp .mul .f64 r1 r1 p → FOp .mul .f64 r2 r2 q → FOp .add .f64 p q r → IVs FloatKind.f64.format r v

/-- What a wide product of such numbers is. -/
def ProdW (a b c d : Int) (r1 r2 : Nat) : Prop := IV FloatKind.f64.format r1 (a * c - b * d) ∧ IV FloatKind.f64.format r2 (a * d + b * c)

set_option maxHeartbeats 2000000 in
theorem wideProduct_calls (x1 x2 y1 y2 : Nat) (a b c d : Int) (ha : Sml a) (hb : Sml b) (hc : Sml c) (hd : Sml d) (h1 : IV FloatKind.f32.format x1 a) (h2 : IV FloatKind.f32.format x2 b) (g1 : IV FloatKind.f32.format y1 c) (g2 : IV FloatKind.f32.format y2 d) (w : World) :
    Calls Tryz.prog 29 #[.complex .f32 x1 x2, .complex .f32 y1 y2] w (GivesW .f64 (ProdW a b c d) w) := by
  have HR := Frame.hid (p := ReI x1 x2 y1 y2 (a * c - b * d)) (fun _ _ _ _ _ _ _ => re_int ha hb hc hd h1 h2 g1 g2)
  have HI := Frame.hid (p := ImI x1 x2 y1 y2 (a * d + b * c)) (fun _ _ _ _ _ _ _ => im_int ha hb hc hd h1 h2 g1 g2)
  clear ha hb hc hd h1 h2 g1 g2
  go_enter Tryz.func29, Tryz.ntmps29
  go_wp2_with (first | (refine wpList_conv rfl _ _ _ rfl .f32 .f64 (by decide) (.inl rfl) _ rfl (by kernel_rfl) (by kernel_rfl) ?_; intro r n hr hl) | (refine wpList_arith rfl _ _ _ _ _ rfl rfl _ _ _ rfl rfl ?_; intro r n hr hl))
  go_ret
  exact ⟨_, _, _, rfl, ⟨HR.out _ _ _ _ _ _ _ (by assumption) (by assumption) (by assumption) (by assumption) (by assumption) (by assumption) (by assumption), HI.out _ _ _ _ _ _ _ (by assumption) (by assumption) (by assumption) (by assumption) (by assumption) (by assumption) (by assumption)⟩, by assumption, by assumption, rfl⟩

set_option maxHeartbeats 2000000 in
theorem widePower_calls (x1 x2 : Nat) (a b : Int) (ha : Sml a) (hb : Sml b) (h1 : IV FloatKind.f32.format x1 a) (h2 : IV FloatKind.f32.format x2 b) (w : World) :
    Calls Tryz.prog 31 #[.complex .f32 x1 x2] w (Gives .f64 (fun r => IVs FloatKind.f64.format r (a * a + b * b)) w) := by
  have HR := Frame.hid (p := PwI x1 x2 (a * a + b * b)) (fun _ _ _ _ _ => pow_int ha hb h1 h2)
  clear ha hb h1 h2
  go_enter Tryz.func31, Tryz.ntmps31
  go_wp2_with (first | (refine wpList_conv rfl _ _ _ rfl .f32 .f64 (by decide) (.inl rfl) _ rfl (by kernel_rfl) (by kernel_rfl) ?_; intro r n hr hl) | (refine wpList_arith rfl _ _ _ _ _ rfl rfl _ _ _ rfl rfl ?_; intro r n hr hl))
  go_ret
  exact ⟨_, _, rfl, HR.out _ _ _ _ _ (by assumption) (by assumption) (by assumption) (by assumption) (by assumption), by assumption, rfl⟩

/-- The words that stand for numbers which 32 bits hold. -/
def ProdN (a b c d : Int) (r1 r2 : Nat) : Prop := IV FloatKind.f32.format r1 (a * c - b * d) ∧ IV FloatKind.f32.format r2 (a * d + b * c)
theorem narrow_int {x r : Nat} {a : Int} (ha : a.natAbs < 16777216) (hx : IV FloatKind.f64.format x a) (h : FCv .f64 .f32 x r) : IV FloatKind.f32.format r a ∧ (IVs FloatKind.f64.format x a → IVs FloatKind.f32.format r a) := conv_int (by decide) (sm64 (by omega)) (sm32 ha) hx h

set_option maxHeartbeats 1000000 in
theorem narrowC_calls (a b : Nat) (w : World) : Calls Tryz.prog 24 #[.complex .f64 a b] w (GivesW .f32 (fun re im => FCv .f64 .f32 a re ∧ FCv .f64 .f32 b im) w) := by
  go_enter Tryz.func24, Tryz.ntmps24
  go_wp2_with (go_at_call 30; refine (narrowNumber_calls _ _).mono ?_; rintro e w' ⟨z, n, rfl, hz, hzl, rfl⟩)
  rename_i re n1 h1 l1
  go_ret
  exact ⟨_, _, _, rfl, ⟨h1, hz⟩, l1, hzl, rfl⟩

set_option maxHeartbeats 1000000 in
theorem mulComplex_calls (x1 x2 y1 y2 : Nat) (a b c d : Int) (ha : Sml a) (hb : Sml b) (hc : Sml c) (hd : Sml d) (h1 : IV FloatKind.f32.format x1 a) (h2 : IV FloatKind.f32.format x2 b) (g1 : IV FloatKind.f32.format y1 c) (g2 : IV FloatKind.f32.format y2 d)
    (hre : (a * c - b * d).natAbs < 16777216) (him : (a * d + b * c).natAbs < 16777216) (w : World) :
    Calls Tryz.prog 6 #[.complex .f32 x1 x2, .complex .f32 y1 y2] w (GivesW .f32 (ProdN a b c d) w) := by
  have HP := Frame.hid (p := ∀ w, Calls Tryz.prog 29 #[.complex .f32 x1 x2, .complex .f32 y1 y2] w (GivesW .f64 (ProdW a b c d) w)) (fun w => wideProduct_calls x1 x2 y1 y2 a b c d ha hb hc hd h1 h2 g1 g2 w)
  have HN : Hid (∀ r1 r2 s1 s2 : Nat, ProdW a b c d r1 r2 → FCv .f64 .f32 r1 s1 → FCv .f64 .f32 r2 s2 → ProdN a b c d s1 s2) := Frame.hid fun r1 r2 s1 s2 h k l => ⟨(narrow_int hre h.1 k).1, (narrow_int him h.2 l).1⟩
  clear ha hb hc hd h1 h2 g1 g2 hre him
  go_enter Tryz.func6, Tryz.ntmps6
  go_wp2_with fail
  refine (HP.out _).mono ?_
  rintro e w1 ⟨r1, r2, n1, rfl, hp, _, _, rfl⟩
  have HPW := Frame.hid hp
  clear hp
  go_wp2_with fail
  refine (narrowC_calls r1 r2 _).mono ?_
  rintro e w2 ⟨s1, s2, n2, rfl, ⟨k1, k2⟩, l1, l2, rfl⟩
  go_wp2_with fail
  go_ret
  exact ⟨_, _, _, rfl, HN.out _ _ _ _ HPW.out k1 k2, l1, l2, rfl⟩

set_option maxHeartbeats 1000000 in
theorem powerOf_calls (x1 x2 : Nat) (a b : Int) (ha : Sml a) (hb : Sml b) (h1 : IV FloatKind.f32.format x1 a) (h2 : IV FloatKind.f32.format x2 b) (hp : (a * a + b * b).natAbs < 16777216) (w : World) :
    Calls Tryz.prog 7 #[.complex .f32 x1 x2] w (Gives .f32 (fun r => IVs FloatKind.f32.format r (a * a + b * b)) w) := by
  have HP := Frame.hid (p := ∀ w, Calls Tryz.prog 31 #[.complex .f32 x1 x2] w (Gives .f64 (fun r => IVs FloatKind.f64.format r (a * a + b * b)) w)) (fun w => widePower_calls x1 x2 a b ha hb h1 h2 w)
  have HN : Hid (∀ r s : Nat, IVs FloatKind.f64.format r (a * a + b * b) → FCv .f64 .f32 r s → IVs FloatKind.f32.format s (a * a + b * b)) := Frame.hid fun r s h k => (narrow_int hp (.inl h) k).2 h
  clear ha hb h1 h2 hp
  go_enter Tryz.func7, Tryz.ntmps7
  go_wp2_with fail
  refine (HP.out _).mono ?_
  rintro e w1 ⟨r1, n1, rfl, hp, _, rfl⟩
  have HPW := Frame.hid hp
  clear hp
  go_wp2_with fail
  refine (narrowNumber_calls r1 _).mono ?_
  rintro e w2 ⟨s1, n2, rfl, k1, l1, rfl⟩
  go_wp2_with fail
  go_ret
  exact ⟨_, _, rfl, HN.out _ _ HPW.out k1, l1, rfl⟩

/-- The root of the power is the root of that integer. -/
theorem root_pow {x1 p64 q r : Nat} {n : Int} (hn : n.natAbs < 16777216) (h : IVs FloatKind.f64.format p64 n) (hq : FSq p64 q) (hr : FCv .f64 .f32 q r) (hx : IVs FloatKind.f32.format x1 n) : RootR x1 r := by
  obtain ⟨y, m, hm⟩ : ∃ y, ∃ _ : Unit, FCv .f32 .f64 x1 y := by
    unfold FCv
    cases hc : floatToFloatBits .f32 x1 .f64 with
    | some y => exact ⟨y, (), rfl⟩
    | none => exact ⟨2 ^ 63 - 1, (), fun _ => by decide +kernel⟩
  have hy := (conv_int (by decide) (sm32 hn) (sm64 (by omega)) (.inl hx) hm).2 hx
  obtain rfl : y = p64 := by unfold IVs at hy h; rw [hy, h]
  exact ⟨y, q, hm, hq, hr⟩

set_option maxHeartbeats 1000000 in
theorem longOf_calls (x1 x2 y1 : Nat) (a b : Int) (ha : Sml a) (hb : Sml b) (h1 : IV FloatKind.f32.format x1 a) (h2 : IV FloatKind.f32.format x2 b) (hp : (a * a + b * b).natAbs < 16777216) (hy : IVs FloatKind.f32.format y1 (a * a + b * b)) (w : World) :
    Calls Tryz.prog 10 #[.complex .f32 x1 x2] w (Gives .f32 (RootR y1) w) := by
  have HP := Frame.hid (p := ∀ w, Calls Tryz.prog 31 #[.complex .f32 x1 x2] w (Gives .f64 (fun r => IVs FloatKind.f64.format r (a * a + b * b)) w)) (fun w => widePower_calls x1 x2 a b ha hb h1 h2 w)
  have HN : Hid (∀ r q s : Nat, IVs FloatKind.f64.format r (a * a + b * b) → FSq r q → FCv .f64 .f32 q s → RootR y1 s) := Frame.hid fun r q s h k l => root_pow hp h k l hy
  clear ha hb h1 h2 hp hy
  go_enter Tryz.func10, Tryz.ntmps10
  go_wp2_with fail
  refine (HP.out _).mono ?_
  rintro e w1 ⟨r1, n1, rfl, hp, _, rfl⟩
  have HPW := Frame.hid hp
  clear hp
  go_wp2_with fail
  refine (sqrt_calls r1 _).mono ?_
  rintro e w2 ⟨q1, n2, rfl, hq, _, rfl⟩
  have HQ := Frame.hid hq
  clear hq
  go_wp2_with fail
  refine (narrowNumber_calls q1 _).mono ?_
  rintro e w2 ⟨s1, n3, rfl, k1, l1, rfl⟩
  go_wp2_with fail
  go_ret
  exact ⟨_, _, rfl, HN.out _ _ _ HPW.out HQ.out k1, l1, rfl⟩

end Go.Proofs.YtnflmdlhcjjfdadGreatDoor

namespace Go.Proofs.YtnflmdlhcjjfdadGreatDoor
open Go.RowKit Fl Ieee

theorem nearest_word (f : Format) (m : Nat) (p : Int) : ∃ rung, rung ≤ f.infRung ∧ ∀ s, f.nearest s m p = f.word s rung := by
  by_cases h : m = 0
  · exact ⟨0, Nat.zero_le _, fun s => by unfold Format.nearest; rw [if_pos h]⟩
  · refine ⟨min ((max (p + m.log2 - f.fractionBits) f.leastPlace - f.leastPlace).toNat * f.binade + Toward.even.cut false (m <<< (p - max (p + m.log2 - f.fractionBits) f.leastPlace).toNat) (max (p + m.log2 - f.fractionBits) f.leastPlace - p).toNat) f.infRung, Nat.min_le_right _ _, fun s => ?_⟩
    unfold Format.nearest
    rw [if_neg h]
    rfl
theorem neg_neg32 (x : Nat) : Op.negFloat .f32 (Op.negFloat .f32 x) = x := by
  have e0 : ∀ y, Op.negFloat .f32 y = y ^^^ 2 ^ 31 := fun _ => rfl
  rw [e0, e0, Nat.xor_assoc, Nat.xor_self, Nat.xor_zero]
theorem neg32 {x : Nat} : (x < 2147483648 → Op.negFloat .f32 x = 2147483648 + x) := by
  intro h
  have e0 : Op.negFloat .f32 x = x ^^^ 2 ^ 31 := rfl
  have h1 : (x ^^^ 2 ^ 31) % 2 ^ 31 = x := by rw [Nat.xor_mod_two_pow, Nat.mod_self, Nat.xor_zero, Nat.mod_eq_of_lt h]
  have h2 : (x ^^^ 2 ^ 31) / 2 ^ 31 = 1 := by rw [Nat.xor_div_two_pow, Nat.div_self (Nat.two_pow_pos _), Nat.div_eq_of_lt h]; rfl
  have e : (2 : Nat) ^ 31 = 2147483648 := rfl
  rw [e0]
  omega
theorem neg_word (s : Bool) {rung : Nat} (h : rung ≤ single.infRung) : Op.negFloat .f32 (single.word s rung) = single.word (!s) rung := by
  have hi : single.infRung = 2139095040 := by decide
  have hw : single.signWeight = 2147483648 := by decide
  have h1 : Op.negFloat .f32 rung = 2147483648 + rung := neg32 (by omega)
  cases s
  · show Op.negFloat .f32 rung = single.signWeight + rung
    rw [hw]; exact h1
  · show Op.negFloat .f32 (single.signWeight + rung) = rung
    rw [hw, ← h1, neg_neg32]
theorem neg_int {x : Nat} {n : Int} (hn : Sm FloatKind.f32.format n) (h : IV FloatKind.f32.format x n) : IV FloatKind.f32.format (Op.negFloat .f32 x) (-n) := by
  obtain ⟨s, hs, hx⟩ : ∃ s : Bool, (n ≠ 0 → s = decide (n < 0)) ∧ x = single.nearest s n.natAbs 0 := by
    rcases h with h | ⟨h, hx⟩
    · exact ⟨_, fun _ => rfl, h⟩
    · exact ⟨true, fun e => absurd h e, by rw [hx, h, show (0 : Int).natAbs = 0 from rfl, near_zero]; rfl⟩
  obtain ⟨rung, hr, hw⟩ := nearest_word single n.natAbs 0
  have h1 := iv_write (kfmt .f32) (n := -n) (by unfold Sm at *; rwa [Int.natAbs_neg]) (s := !s) (fun hne => by
    rw [hs (by omega)]
    by_cases h0 : n < 0
    · rw [decide_eq_true h0, decide_eq_false (by omega)]; rfl
    · rw [decide_eq_false h0, decide_eq_true (by omega)]; rfl) 0 0 rfl
  rw [hx, hw, neg_word _ hr, ← hw]
  have h2 := h1.1
  rwa [Int.natAbs_neg, Nat.pow_zero, Nat.mul_one] at h2
theorem neg_lt32 {x : Nat} (h : x < 2 ^ FloatKind.f32.format.width) : Op.negFloat .f32 x < 2 ^ FloatKind.f32.format.width := by
  have e0 : Op.negFloat .f32 x = x ^^^ 2 ^ 31 := rfl
  rw [e0]
  exact Nat.xor_lt_two_pow h (Nat.pow_lt_pow_right (by omega) (by decide))

theorem unary_neg32 (k : FloatKind) (b : Nat) : Op.unary .neg (.float k b) = pure (.float k (Op.negFloat k b)) := rfl
attribute [local go_sem] unary_neg32

theorem conjugateOf_calls (x y : Nat) (w : World) : Calls Tryz.prog 8 #[.complex .f32 x y] w fun e w' => e = .returned (.complex .f32 x (Op.negFloat .f32 y)) ∧ w = w' := by
  go_enter Tryz.func8, Tryz.ntmps8
  go_wp2
  go_ret
  exact ⟨rfl, rfl⟩

/-- What a quotient that leads back gives. -/
theorem quot_int {a b c d : Int} (hP : 0 < c * c + d * d) (ha : Sml a) (hb : Sml b) (haP : (a * (c * c + d * d)).natAbs < 9007199254740992) (hbP : (b * (c * c + d * d)).natAbs < 9007199254740992) (hPs : (c * c + d * d).natAbs < 9007199254740992)
    {r1 r2 p q1 q2 s1 s2 : Nat} (h : ProdW (a * c - b * d) (a * d + b * c) c (-d) r1 r2) (hp : IVs FloatKind.f64.format p (c * c + d * d)) (h1 : FOp .quo .f64 r1 p q1) (h2 : FOp .quo .f64 r2 p q2) (k1 : FCv .f64 .f32 q1 s1) (k2 : FCv .f64 .f32 q2 s2) :
    IV FloatKind.f32.format s1 a ∧ IV FloatKind.f32.format s2 b := by
  obtain ⟨g1, g2⟩ := h
  have e1 : (a * c - b * d) * c - (a * d + b * c) * (-d) = a * (c * c + d * d) := by grind
  have e2 : (a * c - b * d) * (-d) + (a * d + b * c) * c = b * (c * c + d * d) := by grind
  rw [e1] at g1
  rw [e2] at g2
  exact ⟨(narrow_int (by unfold Sml at ha; omega) (quo_int hP ha.wide (sm64 haP) (sm64 hPs) g1 (.inl hp) h1) k1).1, (narrow_int (by unfold Sml at hb; omega) (quo_int hP hb.wide (sm64 hbP) (sm64 hPs) g2 (.inl hp) h2) k2).1⟩

set_option maxHeartbeats 2000000 in
theorem quotientOf_calls (x1 x2 y1 y2 : Nat) (a b c d : Int) (ha : Sml a) (hb : Sml b) (hc : Sml c) (hd : Sml d) (he : Sml (a * c - b * d)) (hf : Sml (a * d + b * c)) (hP : 0 < c * c + d * d) (haP : (a * (c * c + d * d)).natAbs < 9007199254740992) (hbP : (b * (c * c + d * d)).natAbs < 9007199254740992) (hPs : (c * c + d * d).natAbs < 9007199254740992)
    (h1 : IV FloatKind.f32.format x1 (a * c - b * d)) (h2 : IV FloatKind.f32.format x2 (a * d + b * c)) (g1 : IV FloatKind.f32.format y1 c) (g2 : IV FloatKind.f32.format y2 d) (w : World) :
    Calls Tryz.prog 12 #[.complex .f32 x1 x2, .complex .f32 y1 y2] w (GivesW .f32 (fun s1 s2 => IV FloatKind.f32.format s1 a ∧ IV FloatKind.f32.format s2 b) w) := by
  have HP := Frame.hid (p := ∀ w, Calls Tryz.prog 29 #[.complex .f32 x1 x2, .complex .f32 y1 (Op.negFloat .f32 y2)] w (GivesW .f64 (ProdW (a * c - b * d) (a * d + b * c) c (-d)) w)) (fun w => wideProduct_calls x1 x2 y1 _ _ _ c (-d) he hf hc hd.neg h1 h2 g1 (neg_int hd.few g2) w)
  have HW := Frame.hid (p := ∀ w, Calls Tryz.prog 31 #[.complex .f32 y1 y2] w (Gives .f64 (fun r => IVs FloatKind.f64.format r (c * c + d * d)) w)) (fun w => widePower_calls y1 y2 c d hc hd g1 g2 w)
  have HN := Frame.hid (p := ∀ r1 r2 p q1 q2 s1 s2 : Nat, ProdW (a * c - b * d) (a * d + b * c) c (-d) r1 r2 → IVs FloatKind.f64.format p (c * c + d * d) → FOp .quo .f64 r1 p q1 → FOp .quo .f64 r2 p q2 → FCv .f64 .f32 q1 s1 → FCv .f64 .f32 q2 s2 → IV FloatKind.f32.format s1 a ∧ IV FloatKind.f32.format s2 b) (fun _ _ _ _ _ _ _ => quot_int hP ha hb haP hbP hPs)
  clear ha hb hc hd he hf hP haP hbP hPs h1 h2 g1 g2
  go_enter Tryz.func12, Tryz.ntmps12
  go_wp2_with fail
  refine (conjugateOf_calls y1 y2 _).mono ?_
  rintro e w1 ⟨rfl, rfl⟩
  go_wp2_with fail
  refine (HP.out _).mono ?_
  rintro e w1 ⟨r1, r2, n1, rfl, hp, _, _, rfl⟩
  have HPW := Frame.hid hp
  clear hp
  go_wp2_with fail
  refine (HW.out _).mono ?_
  rintro e w1 ⟨p, n2, rfl, hp, _, rfl⟩
  have HPO := Frame.hid hp
  clear hp
  go_wp2_with (refine wpList_arith rfl _ _ _ _ _ rfl rfl _ _ _ rfl rfl ?_; intro r n hr hl)
  refine (narrowC_calls _ _ _).mono ?_
  rintro e w2 ⟨s1, s2, n3, rfl, ⟨k1, k2⟩, l1, l2, rfl⟩
  go_wp2_with fail
  go_ret
  exact ⟨_, _, _, rfl, HN.out _ _ _ _ _ _ _ HPW.out HPO.out (by assumption) (by assumption) k1 k2, l1, l2, rfl⟩

theorem two_int : IV FloatKind.f32.format 1073741824 2 := .inl (by unfold IVs; decide +kernel)
set_option maxHeartbeats 1000000 in
theorem scaleComplex_calls (x1 x2 : Nat) (a b : Int) (ha : Sml a) (hb : Sml b) (h1 : IV FloatKind.f32.format x1 a) (h2 : IV FloatKind.f32.format x2 b) (w : World) :
    Calls Tryz.prog 13 #[.complex .f32 x1 x2, .float .f32 1073741824] w (GivesW .f32 (fun r1 r2 => IV FloatKind.f32.format r1 (a * 2) ∧ IV FloatKind.f32.format r2 (b * 2)) w) := by
  have hs2 : Sm FloatKind.f32.format 2 := sm32 (by decide)
  have HA : Hid (∀ r, FOp .mul .f32 x1 1073741824 r → IV FloatKind.f32.format r (a * 2)) := Frame.hid fun r h => (mul_int ha.few hs2 (sm32 (by unfold Sml at ha; omega)) h1 two_int h).1
  have HB : Hid (∀ r, FOp .mul .f32 x2 1073741824 r → IV FloatKind.f32.format r (b * 2)) := Frame.hid fun r h => (mul_int hb.few hs2 (sm32 (by unfold Sml at hb; omega)) h2 two_int h).1
  clear ha hb h1 h2 hs2
  go_enter Tryz.func13, Tryz.ntmps13
  go_wp2_with (refine wpList_arith rfl _ _ _ _ _ rfl rfl _ _ _ rfl rfl ?_; intro r n hr hl)
  go_ret
  exact ⟨_, _, _, rfl, ⟨HA.out _ (by assumption), HB.out _ (by assumption)⟩, by assumption, by assumption, rfl⟩

end Go.Proofs.YtnflmdlhcjjfdadGreatDoor
