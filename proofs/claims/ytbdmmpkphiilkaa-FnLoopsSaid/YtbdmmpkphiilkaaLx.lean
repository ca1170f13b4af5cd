/-
  What LogNumber gives, and the program's own function, walked.
-/
import Derived.Test.YtbdmmpkphiilkaaLw
namespace Go.Proofs.Ytbdmmpkphiilkaa
open Go.RowKit Fl Ieee

theorem order_nan {k : FloatKind} {b c : Nat} (h : isNan k b = true) : k.format.order b c = none := by
  unfold isNan FloatKind.decode at h
  unfold Format.order
  cases hd : k.format.read b with
  | nan s t => rfl
  | infinity s => rw [hd] at h; cases h
  | number s m p => rw [hd] at h; cases h

theorem inf_word {b : Nat} (hb : b < 4294967296) (h : single.read b = .infinity false) : b = 2139095040 := by
  have es : single.signWeight = 2147483648 := by decide
  have ei : single.infRung = 2139095040 := by decide
  have eb : single.binade = 8388608 := by decide
  have ha := read_abs single b
  rw [es, h] at ha
  have hr := read_word single false (b % 2147483648) (by rw [es]; exact Nat.mod_lt _ (by omega))
  have e : single.word false (b % 2147483648) = b % 2147483648 := rfl
  rw [e, ha, ei, eb] at hr
  have hm : b % 2147483648 = 2139095040 := by
    by_cases h1 : b % 2147483648 < 8388608
    · rw [if_pos h1] at hr; cases hr
    · rw [if_neg h1] at hr
      by_cases h2 : b % 2147483648 < 2139095040
      · rw [if_pos h2] at hr; cases hr
      · rw [if_neg h2] at hr
        by_cases h3 : b % 2147483648 = 2139095040
        · exact h3
        · rw [if_neg h3] at hr; cases hr
  rcases (by omega : b = 2139095040 ∨ b = 4286578688) with h0 | h0
  · exact h0
  · subst h0
    have : single.read 4286578688 = .infinity true := by decide
    rw [this] at h; cases h

theorem wide_inf {y : Nat} (h : FCv .f32 .f64 2139095040 y) : y = 9218868437227405312 := by
  have e : floatToFloatBits .f32 2139095040 .f64 = some 9218868437227405312 := by kernel_rfl
  unfold FCv at h
  rw [e] at h
  exact h
theorem narrow_inf {r : Nat} (h : FCv .f64 .f32 9218868437227405312 r) : r = 2139095040 := by
  have e : floatToFloatBits .f64 9218868437227405312 .f32 = some 2139095040 := by kernel_rfl
  unfold FCv at h
  rw [e] at h
  exact h
theorem narrow_ninf {r : Nat} (h : FCv .f64 .f32 18442240474082181120 r) : r = 4286578688 := by
  have e : floatToFloatBits .f64 18442240474082181120 .f32 = some 4286578688 := by kernel_rfl
  unfold FCv at h
  rw [e] at h
  exact h

/-- The kinds of numbers, on both sides of the widening. -/
theorem log_kinds {b y : Nat} (hb : b < 4294967296) (h : FCv .f32 .f64 b y) :
    (isNan .f32 b = true ∧ isNan .f64 y = true) ∨
    (isNan .f32 b = false ∧ isNan .f64 y = false ∧ FloatKind.f32.format.order b 0 = some Ordering.lt ∧ FloatKind.f64.format.order y 0 = some Ordering.lt) ∨
    (isNan .f32 b = false ∧ isNan .f64 y = false ∧ FloatKind.f32.format.order b 0 = some Ordering.eq ∧ FloatKind.f64.format.order y 0 = some Ordering.eq) ∨
    (b = 2139095040 ∧ y = 9218868437227405312) ∨
    (isNan .f32 b = false ∧ isNan .f64 y = false ∧ fin .f32 b = true ∧ FloatKind.f32.format.order b 0 = some Ordering.gt ∧ FloatKind.f64.format.order y 0 = some Ordering.gt ∧ WGe y (-149) ∧ WLe y 128) := by
  have h32 : FloatKind.f32.format = single := rfl
  have h64 : FloatKind.f64.format = double := rfl
  have n32 : ∀ d, single.read b = d → isNan .f32 b = d.isNaN := by intro d hd; unfold isNan FloatKind.decode; rw [h32, hd]
  have n64 : ∀ d, double.read y = d → isNan .f64 y = d.isNaN := by intro d hd; unfold isNan FloatKind.decode; rw [h64, hd]
  have hw := wide_le h
  rcases wide_read h with ⟨g1, g2⟩ | ⟨s, g1, g2⟩ | ⟨s, m, e, g1, _, l1, _, t, p, g2, g3⟩
  · exact .inl ⟨g1, g2⟩
  · cases s
    · have e := inf_word hb g1
      subst e
      exact .inr (.inr (.inr (.inl ⟨rfl, wide_inf h⟩)))
    · refine .inr (.inl ⟨n32 _ g1, n64 _ g2, ?_, ?_⟩)
      · rw [h32]; unfold Format.order; rw [g1, zero32]; rfl
      · rw [h64]; unfold Format.order; rw [g2, zero64]; rfl
  · have o32 : FloatKind.f32.format.order b 0 = some (if m = 0 then .eq else if s = true then .lt else .gt) := by
      rw [h32]; unfold Format.order; rw [g1, zero32, order_zero]
    have o64 : FloatKind.f64.format.order y 0 = some (if m * 2 ^ t = 0 then .eq else if s = true then .lt else .gt) := by
      rw [h64]; unfold Format.order; rw [g2, zero64, order_zero]
    have hp := pow_pos' t
    by_cases hm : m = 0
    · rw [if_pos hm] at o32
      rw [if_pos (by rw [hm, Nat.zero_mul])] at o64
      exact .inr (.inr (.inl ⟨n32 _ g1, n64 _ g2, o32, o64⟩))
    · have hm2 : m * 2 ^ t ≠ 0 := by
        intro h0
        rcases Nat.mul_eq_zero.1 h0 with h0 | h0
        · exact hm h0
        · omega
      rw [if_neg hm] at o32
      rw [if_neg hm2] at o64
      cases s
      · rw [if_neg (by decide)] at o32 o64
        refine .inr (.inr (.inr (.inr ⟨n32 _ g1, n64 _ g2, ?_, o32, o64, ?_, ?_⟩)))
        · unfold fin; rw [h32, g1]
        · have hpe := g3 hm
          exact ⟨_, _, g2, t, Nat.le_mul_of_pos_left _ (by omega), by omega⟩
        · rcases hw with hw | ⟨s, hw⟩ | hw
          · rw [n64 _ g2] at hw; cases hw
          · rw [g2] at hw; cases hw
          · exact hw
      · rw [if_pos rfl] at o32 o64
        exact .inr (.inl ⟨n32 _ g1, n64 _ g2, o32, o64⟩)

open Classical in
/-- What LogNumber gives. -/
def LogV (b r : Nat) : Prop :=
  if isNan .f32 b = true ∨ FloatKind.f32.format.order b 0 = some Ordering.lt then isNan .f32 r = true
  else if FloatKind.f32.format.order b 0 = some Ordering.eq then r = 4286578688
  else if b = 2139095040 then r = 2139095040
  else ∃ y q, FCv .f32 .f64 b y ∧ WGe y (-149) ∧ WLe y 128 ∧ LogR y q ∧ FCv .f64 .f32 q r
theorem LogV.same {b r r' : Nat} (h : LogV b r) (h' : LogV b r') : FSame .f32 r r' := by
  unfold LogV at h h'
  split at h
  · rename_i c1
    rw [if_pos c1] at h'
    exact .inr ⟨h, h'⟩
  · rename_i c1
    rw [if_neg c1] at h'
    split at h
    · rename_i c2
      rw [if_pos c2] at h'
      exact .inl (by rw [h, h'])
    · rename_i c2
      rw [if_neg c2] at h'
      split at h
      · rename_i c3
        rw [if_pos c3] at h'
        exact .inl (by rw [h, h'])
      · rename_i c3
        rw [if_neg c3] at h'
        obtain ⟨y, q, k1, k2, k3, k4, k5⟩ := h
        obtain ⟨y', q', g1, g2, g3, g4, g5⟩ := h'
        have e := k3.eq (wide_same (FSame.refl _ _) k1 g1)
        subst e
        obtain ⟨bq, dq⟩ := LogR.one k2 k3 k4
        have e := dq _ g4
        subst e
        exact told_same (FSame.refl _ _) (bq.told (by omega)) k5 g5
theorem LogV.mk_nan {b r : Nat} (h : isNan .f32 b = true ∨ FloatKind.f32.format.order b 0 = some Ordering.lt) (hr : isNan .f32 r = true) : LogV b r := by
  unfold LogV; rw [if_pos h]; exact hr
theorem LogV.mk_zero {b r : Nat} (hn : isNan .f32 b = false) (h : FloatKind.f32.format.order b 0 = some Ordering.eq) (hr : r = 4286578688) : LogV b r := by
  unfold LogV; rw [if_neg (by rw [hn, h]; rintro (h | h) <;> cases h), if_pos h]; exact hr
theorem LogV.mk_inf {r : Nat} (hr : r = 2139095040) : LogV 2139095040 r := by
  have e : FloatKind.f32.format.order 2139095040 0 = some Ordering.gt := by decide
  have e2 : isNan .f32 2139095040 = false := by decide
  unfold LogV; rw [if_neg (by rw [e2, e]; rintro (h | h) <;> cases h), if_neg (by rw [e]; intro h; cases h), if_pos rfl]; exact hr
theorem LogV.mk_pos {b y q r : Nat} (hn : isNan .f32 b = false) (hf : fin .f32 b = true) (h : FloatKind.f32.format.order b 0 = some Ordering.gt) (h1 : FCv .f32 .f64 b y) (h2 : WGe y (-149)) (h3 : WLe y 128) (h4 : LogR y q) (h5 : FCv .f64 .f32 q r) : LogV b r := by
  unfold LogV
  rw [if_neg (by rw [hn, h]; rintro (h | h) <;> cases h), if_neg (by rw [h]; intro h; cases h), if_neg ?_]
  · exact ⟨y, q, h1, h2, h3, h4, h5⟩
  · rintro rfl
    have : fin .f32 2139095040 = false := by decide
    rw [this] at hf; cases hf

set_option maxHeartbeats 1000000 in
theorem isInf1_calls (b : Nat) (w : World) : Calls Try.prog 114 #[.float .f64 b, .int .i64 1] w fun e w' => e = .returned (.bool (FloatKind.f64.format.order b 9218868437227405311 == some Ordering.gt)) ∧ w = w' := by
  go_enter Try.func114, Try.ntmps114
  go_wp2
  go_ret
  exact ⟨rfl, rfl⟩

theorem gt_max {y : Nat} (h : WPos y) : (FloatKind.f64.format.order y 9218868437227405311 == some Ordering.gt) = false := by
  rw [pos_order h, abs_gt_max]
  have := pos_fin h
  rw [fin_eq] at this
  cases hh : isInf .f64 y
  · rfl
  · rw [hh] at this; simp at this

end Go.Proofs.Ytbdmmpkphiilkaa
