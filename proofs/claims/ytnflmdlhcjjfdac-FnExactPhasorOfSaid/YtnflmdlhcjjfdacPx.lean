/-
  The phasor, walked on both sides.
-/
import Derived.Test.YtnflmdlhcjjfdacSw
import Derived.Test.YtnflmdlhcjjfdacPh
import Derived.Laws.ComplexArith
namespace Go.Proofs.Ytnflmdlhcjjfdac
open Go.RowKit Fl Ieee

theorem few_of_le {x : Nat} {k : Int} (h : WLe x k) (hk : k < 52) : fin .f64 x = true ∧ x % 9223372036854775808 < 4841369599423283200 := by
  have hf : FloatKind.f64.format = double := rfl
  have es : double.signWeight = 9223372036854775808 := by decide
  obtain ⟨s, m, p, hr, hb⟩ := h
  have hfin : fin .f64 x = true := by unfold fin; rw [hf, hr]
  refine ⟨hfin, ?_⟩
  rcases Nat.lt_or_ge (x % 9223372036854775808) 4841369599423283200 with h | h
  · exact h
  · exfalso
    have ha := read_abs double x
    rw [es, hr] at ha
    have hi := fin_rung hfin
    generalize x % 9223372036854775808 = r at h ha hi
    have e0 : double.word false r = r := rfl
    have h0 := read_word double false r (by rw [dsw]; omega)
    rw [e0, ha, dbin, dinf, dl, if_neg (by omega), if_pos hi] at h0
    obtain ⟨e, he⟩ : ∃ e, r / 4503599627370496 - 1 = e := ⟨_, rfl⟩
    have he1 : 1074 ≤ e := by omega
    rw [he] at h0
    obtain ⟨hm, hp⟩ : m = 4503599627370496 + r % 4503599627370496 ∧ p = -1074 + (e : Int) := by cases h0; exact ⟨rfl, rfl⟩
    obtain ⟨j, j1, j2⟩ := hb.resolve_left (by omega)
    have hj : 52 ≤ j := by
      have : (2 : Nat) ^ 52 ≤ 2 ^ j := Nat.le_trans (by rw [p52]; omega) j1
      exact pow_le_iff.1 this
    omega

theorem gq_cases (f : Nat) : FloatKind.f64.format.order f 4598175219545276416 = some Ordering.gt ∨ FloatKind.f64.format.order f 4598175219545276416 = some Ordering.eq ∨
    ((FloatKind.f64.format.order f 4598175219545276416 == some Ordering.gt) = false ∧ (FloatKind.f64.format.order f 4598175219545276416 == some Ordering.eq) = false) := by
  cases FloatKind.f64.format.order f 4598175219545276416 with
  | none => exact .inr (.inr ⟨rfl, rfl⟩)
  | some o => cases o
              · exact .inr (.inr ⟨rfl, rfl⟩)
              · exact .inr (.inl rfl)
              · exact .inl rfl
theorem gqB_gt {f : Nat} (h : FloatKind.f64.format.order f 4598175219545276416 = some Ordering.gt) : gqB f = true := by unfold gqB; rw [h]; rfl
theorem gqB_eq {f : Nat} (h : FloatKind.f64.format.order f 4598175219545276416 = some Ordering.eq) : gqB f = true := by unfold gqB; rw [h]; rfl
theorem gqB_not {f : Nat} (h : (FloatKind.f64.format.order f 4598175219545276416 == some Ordering.gt) = false ∧ (FloatKind.f64.format.order f 4598175219545276416 == some Ordering.eq) = false) : gqB f = false := by unfold gqB; rw [h.1, h.2]; rfl
theorem quart_more {f j x : Nat} (h : Quart f j x) (hg : gqB x = true) : ∀ z, FOp .sub .f64 x 4598175219545276416 z → Quart f (j + 1) z := fun _ hz => ⟨x, h, hg, hz⟩

/-- What comes back: a complex number of two 32-bit numbers. -/
def GivesC (R : Nat → Nat → Prop) (w : World) (e : Ending) (w' : World) : Prop := ∃ re im n, e = .returned (.complex .f32 re im) ∧ R re im ∧ re < 2 ^ FloatKind.f32.format.width ∧ im < 2 ^ FloatKind.f32.format.width ∧ w' = w.drewN n

open Classical in
/-- What a phasor may be. -/
def PhasV (y re im : Nat) : Prop :=
  if fin .f64 y = false then isNan .f32 re = true ∧ isNan .f32 im = true
  else if 4841369599423283200 ≤ y % 9223372036854775808 then re = 1065353216 ∧ im = 0
  else PhasR y re im
theorem PhasV.same {y re im re' im' : Nat} (h : PhasV y re im) (h' : PhasV y re' im') : FSame .f32 re re' ∧ FSame .f32 im im' := by
  unfold PhasV at h h'
  split at h
  · rename_i c
    rw [if_pos c] at h'
    exact ⟨.inr ⟨h.1, h'.1⟩, .inr ⟨h.2, h'.2⟩⟩
  · rename_i c
    rw [if_neg c] at h'
    split at h
    · rename_i c2
      rw [if_pos c2] at h'
      exact ⟨.inl (by rw [h.1, h'.1]), .inl (by rw [h.2, h'.2])⟩
    · rename_i c2
      rw [if_neg c2] at h'
      have hf : fin .f64 y = true := by cases hq : fin .f64 y with | true => rfl | false => exact absurd hq c
      exact PhasR.same (turns_few hf (by omega)).2.2.2 h h'
theorem PhasV.nan {y re im : Nat} (h : fin .f64 y = false) (h1 : isNan .f32 re = true) (h2 : isNan .f32 im = true) : PhasV y re im := by unfold PhasV; rw [if_pos h]; exact ⟨h1, h2⟩
theorem PhasV.many {y re im : Nat} (h : fin .f64 y = true) (hm : 4841369599423283200 ≤ y % 9223372036854775808) (h1 : re = 1065353216) (h2 : im = 0) : PhasV y re im := by
  unfold PhasV; rw [if_neg (by rw [h]; exact Bool.noConfusion), if_pos hm]; exact ⟨h1, h2⟩
theorem PhasV.few {y re im : Nat} (h : fin .f64 y = true) (hm : y % 9223372036854775808 < 4841369599423283200) (h1 : PhasR y re im) : PhasV y re im := by
  unfold PhasV; rw [if_neg (by rw [h]; exact Bool.noConfusion), if_neg (by omega)]; exact h1

set_option maxHeartbeats 1000000 in
theorem narrowComplex_calls (a b : Nat) (w : World) : Calls Try.prog 18 #[.complex .f64 a b] w (GivesC (fun re im => FCv .f64 .f32 a re ∧ FCv .f64 .f32 b im) w) := by
  go_enter Try.func18, Try.ntmps18
  go_wp2_with (go_at_call 29; refine (narrowNumber_calls _ _).mono ?_; rintro e w' ⟨z, n, rfl, hz, hzl, rfl⟩)
  rename_i re n1 h1 l1
  go_ret
  exact ⟨_, _, _, rfl, ⟨h1, hz⟩, l1, hzl, rfl⟩

theorem g_le {x g : Nat} (h : FOp .sub .f64 4598175219545276416 x g) (hx : WLe x 2) : WLe g 3 := (FOp.sub_le h (quarter_le.mono (show (0 : Int) ≤ 2 by omega)) hx (by omega) (by omega)).mono (by omega)

theorem PhasR.mk1 {y f x g c s a re im : Nat} (h1 : PartR y f) (h2 : Quart f 1 x) (h3 : gqB x = false) (h4 : FOp .sub .f64 4598175219545276416 x g) (h5 : SineR g c) (h6 : SineR x s) (h7 : FOp .sub .f64 0 s a) (h8 : FCv .f64 .f32 a re) (h9 : FCv .f64 .f32 c im) : PhasR y re im :=
  ⟨f, 1, x, g, c, s, a, c, h1, h2, h3, h4, h5, h6, by unfold Pick; rw [if_pos rfl]; exact ⟨h7, rfl⟩, h8, h9⟩
theorem PhasR.mk2 {y f x g c s a b re im : Nat} (h1 : PartR y f) (h2 : Quart f 2 x) (h3 : gqB x = false) (h4 : FOp .sub .f64 4598175219545276416 x g) (h5 : SineR g c) (h6 : SineR x s) (h7 : FOp .sub .f64 0 c a) (h7' : FOp .sub .f64 0 s b) (h8 : FCv .f64 .f32 a re) (h9 : FCv .f64 .f32 b im) : PhasR y re im :=
  ⟨f, 2, x, g, c, s, a, b, h1, h2, h3, h4, h5, h6, by unfold Pick; rw [if_neg (by omega), if_pos rfl]; exact ⟨h7, h7'⟩, h8, h9⟩
theorem PhasR.mk3 {y f x g c s b re im : Nat} (h1 : PartR y f) (h2 : Quart f 3 x) (h3 : gqB x = false) (h4 : FOp .sub .f64 4598175219545276416 x g) (h5 : SineR g c) (h6 : SineR x s) (h7 : FOp .sub .f64 0 c b) (h8 : FCv .f64 .f32 s re) (h9 : FCv .f64 .f32 b im) : PhasR y re im :=
  ⟨f, 3, x, g, c, s, s, b, h1, h2, h3, h4, h5, h6, by unfold Pick; rw [if_neg (by omega), if_neg (by omega), if_pos rfl]; exact ⟨rfl, h7⟩, h8, h9⟩
theorem PhasR.mk0 {y f x g c s re im j : Nat} (j1 : j ≠ 1) (j2 : j ≠ 2) (j3 : j ≠ 3) (h1 : PartR y f) (h2 : Quart f j x) (h3 : gqB x = false) (h4 : FOp .sub .f64 4598175219545276416 x g) (h5 : SineR g c) (h6 : SineR x s) (h8 : FCv .f64 .f32 c re) (h9 : FCv .f64 .f32 s im) : PhasR y re im :=
  ⟨f, j, x, g, c, s, c, s, h1, h2, h3, h4, h5, h6, by unfold Pick; rw [if_neg j1, if_neg j2, if_neg j3]; exact ⟨rfl, rfl⟩, h8, h9⟩

set_option maxHeartbeats 1000000 in
theorem phasorOf_nan (y : Nat) (hyl : y < 2 ^ FloatKind.f64.format.width) (hf : fin .f64 y = false) (w : World) : Calls Try.prog 7 #[.float .f64 y] w (GivesC (PhasV y) w) := by
  have HF := Frame.hid hf
  clear hf
  go_enter Try.func7, Try.ntmps7
  go_wp2_with (first | (go_at_call 17; refine (isFiniteWide_calls _ (lt64 hyl) _).mono ?_; rintro e w' ⟨rfl, n, rfl⟩; rw [HF.out]) | (go_at_call 19; refine (nan_calls _).mono ?_; rintro e w' ⟨rfl, rfl⟩) | (go_at_call 18; refine (narrowComplex_calls _ _ _).mono ?_; rintro e w' ⟨re, im, n, rfl, ⟨h1, h2⟩, l1, l2, rfl⟩))
  go_ret
  exact ⟨_, _, _, rfl, PhasV.nan HF.out (narrow_nan nan_word h1) (narrow_nan nan_word h2), l1, l2, rfl⟩

set_option maxHeartbeats 1000000 in
theorem phasorOf_many (y : Nat) (hyl : y < 2 ^ FloatKind.f64.format.width) (hf : fin .f64 y = true) (hm : 4841369599423283200 ≤ y % 9223372036854775808) (w : World) : Calls Try.prog 7 #[.float .f64 y] w (GivesC (PhasV y) w) := by
  have HF := Frame.hid hf
  have HM := Frame.hid hm
  obtain ⟨o1, _⟩ := turns_many hf hm
  clear hf hm
  rcases o1 with o1 | o1
  all_goals
    go_enter Try.func7, Try.ntmps7
    go_wp2_with (first | (go_at_call 17; refine (isFiniteWide_calls _ (lt64 hyl) _).mono ?_; rintro e w' ⟨rfl, n, rfl⟩; rw [HF.out]) | (go_at_call 20; refine (abs_calls _ (lt64 hyl) _).mono ?_; rintro e w' ⟨rfl, rfl⟩))
    go_ret
    exact ⟨_, _, _, rfl, PhasV.many HF.out HM.out rfl rfl, by decide, by decide, rfl⟩

def QuartAt (f : Nat) (w : World) (xv jv : Value) (wr : World) : Prop := ∃ j x : Nat, jv = .int .i64 (j : Int) ∧ xv = .float .f64 x ∧ Quart f j x ∧ x < 2 ^ FloatKind.f64.format.width ∧ ∃ m, wr = w.drewN m

set_option maxHeartbeats 4000000 in
theorem phasorOf_few (y : Nat) (hyl : y < 2 ^ FloatKind.f64.format.width) (hf : fin .f64 y = true) (hm : y % 9223372036854775808 < 4841369599423283200) (w : World) : Calls Try.prog 7 #[.float .f64 y] w (GivesC (PhasV y) w) := by
  obtain ⟨o1, _, _, hw⟩ := turns_few hf hm
  have HF := Frame.hid hf
  have HM := Frame.hid hm
  have HW := Frame.hid hw
  clear hf hm hw
  go_enter Try.func7, Try.ntmps7
  go_wp2_with (first | (go_at_call 17; refine (isFiniteWide_calls _ (lt64 hyl) _).mono ?_; rintro e w' ⟨rfl, n, rfl⟩; rw [HF.out]) | (go_at_call 20; refine (abs_calls _ (lt64 hyl) _).mono ?_; rintro e w' ⟨rfl, rfl⟩) | (go_at_call 21; refine (partOfTurn_calls y HW.out _).mono ?_; rintro e w1 ⟨f, n, rfl, hf, hfl, rfl⟩))
  have HFR := Frame.hid hf
  have HFL := Frame.hid (PartR.le HW.out hf)
  clear hf o1
  go_loopw [3, 4] (fun xv jv wr => QuartAt f w xv jv wr) (fun _ jv _ => (16 - intOf jv).toNat)
  case atStart => exact ⟨0, _, rfl, rfl, rfl, hfl, _, rfl⟩
  case round =>
    obtain ⟨j, x, rfl, rfl, hq, hxl, m, rfl⟩ := hrel
    rcases gq_cases x with ho | ho | ho
    · have hg := gqB_gt ho
      have hj := Quart.few HFL.out hq hg
      have HP := Frame.hid (quart_more hq hg)
      clear hq hg
      go_wp2_with (refine wpList_arith rfl _ _ _ _ _ rfl rfl _ _ _ rfl rfl ?_; intro r n hr hl)
      go_roundw
      case rel => exact ⟨j + 1, _, rfl, rfl, HP.out _ hr, hl, _, rfl⟩
      case measure => simp [intOf]; omega
    · have hg := gqB_eq ho
      have hj := Quart.few HFL.out hq hg
      have HP := Frame.hid (quart_more hq hg)
      clear hq hg
      go_wp2_with (refine wpList_arith rfl _ _ _ _ _ rfl rfl _ _ _ rfl rfl ?_; intro r n hr hl)
      go_roundw
      case rel => exact ⟨j + 1, _, rfl, rfl, HP.out _ hr, hl, _, rfl⟩
      case measure => simp [intOf]; omega
    · have HG := Frame.hid (gqB_not ho)
      obtain ⟨ho1, ho2⟩ := ho
      have HX := Frame.hid (Quart.one HFL.out hq).1.1
      have HQ := Frame.hid hq
      clear hq
      rcases (by omega : j = 1 ∨ j = 2 ∨ j = 3 ∨ (j ≠ 1 ∧ j ≠ 2 ∧ j ≠ 3)) with h | h | h | ⟨h1, h2, h3⟩
      · subst h
        go_wp2_with (first | (refine wpList_arith rfl _ _ _ _ _ rfl rfl _ _ _ rfl rfl ?_; intro r n hr hl) | (go_at_call 22; refine (wideSine_calls _ (by first | exact HX.out.mono (by omega) | exact (g_le (by with_reducible assumption) HX.out).mono (by omega)) _).mono ?_; rintro e w' ⟨q, n, rfl, hq, hql, rfl⟩) | (go_at_call 18; refine (narrowComplex_calls _ _ _).mono ?_; rintro e w' ⟨re, im, n, rfl, ⟨k1, k2⟩, l1, l2, rfl⟩))
        go_ret
        exact ⟨_, _, _, rfl, PhasV.few HF.out HM.out (PhasR.mk1 HFR.out HQ.out HG.out (by assumption) (by assumption) hq hr k1 k2), l1, l2, rfl⟩
      · subst h
        go_wp2_with (first | (refine wpList_arith rfl _ _ _ _ _ rfl rfl _ _ _ rfl rfl ?_; intro r n hr hl) | (go_at_call 22; refine (wideSine_calls _ (by first | exact HX.out.mono (by omega) | exact (g_le (by with_reducible assumption) HX.out).mono (by omega)) _).mono ?_; rintro e w' ⟨q, n, rfl, hq, hql, rfl⟩) | (go_at_call 18; refine (narrowComplex_calls _ _ _).mono ?_; rintro e w' ⟨re, im, n, rfl, ⟨k1, k2⟩, l1, l2, rfl⟩))
        go_ret
        exact ⟨_, _, _, rfl, PhasV.few HF.out HM.out (PhasR.mk2 HFR.out HQ.out HG.out (by assumption) (by assumption) hq (by assumption) hr k1 k2), l1, l2, rfl⟩
      · subst h
        go_wp2_with (first | (refine wpList_arith rfl _ _ _ _ _ rfl rfl _ _ _ rfl rfl ?_; intro r n hr hl) | (go_at_call 22; refine (wideSine_calls _ (by first | exact HX.out.mono (by omega) | exact (g_le (by with_reducible assumption) HX.out).mono (by omega)) _).mono ?_; rintro e w' ⟨q, n, rfl, hq, hql, rfl⟩) | (go_at_call 18; refine (narrowComplex_calls _ _ _).mono ?_; rintro e w' ⟨re, im, n, rfl, ⟨k1, k2⟩, l1, l2, rfl⟩))
        go_ret
        exact ⟨_, _, _, rfl, PhasV.few HF.out HM.out (PhasR.mk3 HFR.out HQ.out HG.out (by assumption) (by assumption) hq hr k1 k2), l1, l2, rfl⟩
      · have i1 : ¬ (j : Int) = 1 := by omega
        have i2 : ¬ (j : Int) = 2 := by omega
        have i3 : ¬ (j : Int) = 3 := by omega
        go_wp2_with (first | (refine wpList_arith rfl _ _ _ _ _ rfl rfl _ _ _ rfl rfl ?_; intro r n hr hl) | (go_at_call 22; refine (wideSine_calls _ (by first | exact HX.out.mono (by omega) | exact (g_le (by with_reducible assumption) HX.out).mono (by omega)) _).mono ?_; rintro e w' ⟨q, n, rfl, hq, hql, rfl⟩) | (go_at_call 18; refine (narrowComplex_calls _ _ _).mono ?_; rintro e w' ⟨re, im, n, rfl, ⟨k1, k2⟩, l1, l2, rfl⟩))
        go_ret
        exact ⟨_, _, _, rfl, PhasV.few HF.out HM.out (PhasR.mk0 h1 h2 h3 HFR.out HQ.out HG.out (by assumption) (by assumption) hq k1 k2), l1, l2, rfl⟩

end Go.Proofs.Ytnflmdlhcjjfdac
