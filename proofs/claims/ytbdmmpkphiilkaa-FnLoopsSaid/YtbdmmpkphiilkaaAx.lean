/-
  What AngleTurns gives, and the program's own function, walked.
-/
import Derived.Test.YtbdmmpkphiilkaaAw
namespace Go.Proofs.Ytbdmmpkphiilkaa
open Go.RowKit Fl
attribute [local go_sem] unary_neg_f

def zeroB (y : Nat) : Bool := FloatKind.f64.format.order y 0 == some Ordering.eq
def negB (y : Nat) : Bool := FloatKind.f64.format.order y 0 == some Ordering.lt

/-- What the angle is in 64 bits. -/
def AngleW (y x q : Nat) : Prop := ((fin .f64 y = false ∨ fin .f64 x = false) ∧ isNan .f64 q = true) ∨ (fin .f64 y = true ∧ fin .f64 x = true ∧ (zeroB y && zeroB x) = true ∧ q = 0) ∨
  (fin .f64 y = true ∧ fin .f64 x = true ∧ (zeroB y && zeroB x) = false ∧ AngleR (y % 9223372036854775808) (x % 9223372036854775808) (negB x) (negB y) q)
/-- What AngleTurns gives: the narrowed one. -/
def AngleV (b c r : Nat) : Prop := ∃ y x q, FCv .f32 .f64 b y ∧ FCv .f32 .f64 c x ∧ AngleW y x q ∧ FCv .f64 .f32 q r

theorem fin_not_nan {y : Nat} (h : fin .f64 y = true) : isNan .f64 y = false := by rw [fin_eq] at h; cases hh : isNan .f64 y; rfl; rw [hh] at h; cases h
theorem both_false {a b : Bool} (h1 : a = false ∨ b = false) (h2 : a = true) (h3 : b = true) : False := by
  rcases h1 with h | h
  · rw [h] at h2; cases h2
  · rw [h] at h3; cases h3

theorem AngleV.same {b c r r' : Nat} (h : AngleV b c r) (h' : AngleV b c r') : FSame .f32 r r' := by
  obtain ⟨y, x, q, hy, hx, h, hr⟩ := h
  obtain ⟨y', x', q', hy', hx', h', hr'⟩ := h'
  have hyy := wide_same (FSame.refl _ _) hy hy'
  have hxx := wide_same (FSame.refl _ _) hx hx'
  have ey : fin .f64 y = fin .f64 y' := by rw [fin_wide hy, fin_wide hy']
  have ex : fin .f64 x = fin .f64 x' := by rw [fin_wide hx, fin_wide hx']
  have same : fin .f64 y = true → fin .f64 x = true → y = y' ∧ x = x' := by
    intro f1 f2
    refine ⟨?_, ?_⟩
    · rcases hyy with h | ⟨h, _⟩
      · exact h
      · rw [fin_not_nan f1] at h; cases h
    · rcases hxx with h | ⟨h, _⟩
      · exact h
      · rw [fin_not_nan f2] at h; cases h
  rcases h with ⟨h1, h2⟩ | ⟨h1, h2, h3, h4⟩ | ⟨h1, h2, h3, h4⟩
  · rcases h' with ⟨g1, g2⟩ | ⟨g1, g2, _⟩ | ⟨g1, g2, _⟩
    · exact .inr ⟨narrow_nan h2 hr, narrow_nan g2 hr'⟩
    · rw [← ey] at g1; rw [← ex] at g2; exact (both_false h1 g1 g2).elim
    · rw [← ey] at g1; rw [← ex] at g2; exact (both_false h1 g1 g2).elim
  · obtain ⟨e1, e2⟩ := same h1 h2
    subst e1
    subst e2
    rcases h' with ⟨g1, g2⟩ | ⟨_, _, _, g4⟩ | ⟨_, _, g3, _⟩
    · exact (both_false g1 h1 h2).elim
    · subst h4
      subst g4
      rw [narrow_z hr, narrow_z hr']
      exact FSame.refl _ _
    · rw [h3] at g3; cases g3
  · obtain ⟨e1, e2⟩ := same h1 h2
    subst e1
    subst e2
    rcases h' with ⟨g1, g2⟩ | ⟨_, _, g3, _⟩ | ⟨_, _, _, g4⟩
    · exact (both_false g1 h1 h2).elim
    · rw [h3] at g3; cases g3
    · have hpos : 0 < y % 9223372036854775808 ∨ 0 < x % 9223372036854775808 := by
        rw [Bool.and_eq_false_iff] at h3
        rcases h3 with h | h
        · exact .inl (word_pos h1 h)
        · exact .inr (word_pos h2 h)
      obtain ⟨bq, dq⟩ := AngleR.one (fin_rung h1) (fin_rung h2) hpos h4
      have e := dq _ g4
      subst e
      exact told_same (FSame.refl _ _) (bq.told (by omega)) hr hr'

theorem st1_yes {o : Bool} {g x : Nat} (h : o = true) (h2 : FOp .sub .f64 4598175219545276416 g x) : St1 o g x := by unfold St1; rw [if_pos h]; exact h2
theorem st1_no {o : Bool} {g : Nat} (h : o = false) : St1 o g g := by unfold St1; rw [if_neg (by rw [h]; decide)]
theorem st2_yes {o : Bool} {g x : Nat} (h : o = true) (h2 : FOp .sub .f64 4602678819172646912 g x) : St2 o g x := by unfold St2; rw [if_pos h]; exact h2
theorem st2_no {o : Bool} {g : Nat} (h : o = false) : St2 o g g := by unfold St2; rw [if_neg (by rw [h]; decide)]
theorem tan_yes {a b t : Nat} (h : overB a b = true) (h2 : FOp .quo .f64 b a t) : TanR a b t := by unfold TanR; rw [if_pos h]; exact h2
theorem tan_no {a b t : Nat} (h : overB a b = false) (h2 : FOp .quo .f64 a b t) : TanR a b t := by unfold TanR; rw [if_neg (by rw [h]; decide)]; exact h2

theorem negB_wide {b y : Nat} (h : FCv .f32 .f64 b y) (hf : fin .f32 b = true) : negB y = (FloatKind.f32.format.order b 0 == some Ordering.lt) := by unfold negB; rw [← wide_zero h hf]
theorem zeroB_wide {b y : Nat} (h : FCv .f32 .f64 b y) (hf : fin .f32 b = true) : zeroB y = (FloatKind.f32.format.order b 0 == some Ordering.eq) := by unfold zeroB; rw [← wide_zero h hf]

theorem angle_mk {a b t g x' y' r : Nat} {xn yn : Bool} (h1 : TanR a b t) (h2 : FlatR t g) (h3 : St1 (overB a b) g x') (h4 : St2 xn x' y') (h5 : r = if yn = true then Op.negFloat .f64 y' else y') : AngleR a b xn yn r := ⟨t, g, x', y', h1, h2, h3, h4, h5⟩

theorem widened (w : World) (b : Nat) : ∃ y, FCv .f32 .f64 b y := by
  obtain ⟨r, n, _, h, _⟩ := run_conv_any (P := Try.prog) w 27 30 .f32 .f64 (by decide) b (by kernel_rfl) (by kernel_rfl) (.inl rfl)
  exact ⟨r, h⟩

set_option maxHeartbeats 1000000 in
theorem angleTurns_nan (b c : Nat) (h : fin .f32 b = false ∨ fin .f32 c = false) (w : World) : Calls Try.prog 84 #[.float .f32 b, .float .f32 c] w (Gives .f32 (AngleV b c) w) := by
  have hh : ∃ y x, FCv .f32 .f64 b y ∧ FCv .f32 .f64 c x ∧ (fin .f64 y = false ∨ fin .f64 x = false) := by
    obtain ⟨y, hy⟩ := widened w b
    obtain ⟨x, hx⟩ := widened w c
    exact ⟨y, x, hy, hx, by rw [fin_wide hy, fin_wide hx]; exact h⟩
  obtain ⟨y, x, hy, hx, hf⟩ := hh
  have HV : Hid (∀ r, FCv .f64 .f32 9221120237041090561 r → AngleV b c r) := fun r hr => ⟨y, x, _, hy, hx, .inl ⟨hf, nan_word⟩, hr⟩
  clear hy hx hf
  cases hb : fin .f32 b
  · have HB := Frame.hid hb
    clear hb h
    go_enter Try.func84, Try.ntmps84
    go_wp2_with (first | (go_at_call 58; refine (isFinite_calls _ _).mono ?_; rintro e w' ⟨rfl, n, rfl⟩; rw [HB.out]) | (go_at_call 106; refine (nan_calls _).mono ?_; rintro e w' ⟨rfl, rfl⟩) | (go_at_call 81; refine (narrowNumber_calls _ _).mono ?_; rintro e w' ⟨z, n, rfl, hz, hzl, rfl⟩))
    go_ret
    exact ⟨_, _, rfl, HV.out _ hz, hzl, rfl⟩
  · have hc : fin .f32 c = false := by
      rcases h with h | h
      · rw [h] at hb; cases hb
      · exact h
    have HB := Frame.hid hb
    have HC := Frame.hid hc
    clear hb hc h
    go_enter Try.func84, Try.ntmps84
    go_wp2_with (first | (go_at_call 58; refine (isFinite_calls _ _).mono ?_; rintro e w' ⟨rfl, n, rfl⟩; first | rw [HB.out] | rw [HC.out]) | (go_at_call 106; refine (nan_calls _).mono ?_; rintro e w' ⟨rfl, rfl⟩) | (go_at_call 81; refine (narrowNumber_calls _ _).mono ?_; rintro e w' ⟨z, n, rfl, hz, hzl, rfl⟩))
    go_ret
    exact ⟨_, _, rfl, HV.out _ hz, hzl, rfl⟩

set_option maxHeartbeats 1000000 in
theorem angleTurns_zero (b c : Nat) (fb : fin .f32 b = true) (fc : fin .f32 c = true) (hb : (FloatKind.f32.format.order b 0 == some Ordering.eq) = true) (hc : (FloatKind.f32.format.order c 0 == some Ordering.eq) = true) (w : World) : Calls Try.prog 84 #[.float .f32 b, .float .f32 c] w (Gives .f32 (AngleV b c) w) := by
  have hh : AngleV b c 0 := by
    obtain ⟨y, hy⟩ := widened w b
    obtain ⟨x, hx⟩ := widened w c
    refine ⟨y, x, 0, hy, hx, .inr (.inl ⟨by rw [fin_wide hy]; exact fb, by rw [fin_wide hx]; exact fc, ?_, rfl⟩), ?_⟩
    · unfold zeroB
      rw [← wide_zero hy fb, ← wide_zero hx fc, hb, hc]
      rfl
    · unfold FCv; rw [narrow_z0]
  have HV := Frame.hid hh
  have HB := Frame.hid fb
  have HC := Frame.hid fc
  clear hh fb fc
  go_enter Try.func84, Try.ntmps84
  go_wp2_with (go_at_call 58; refine (isFinite_calls _ _).mono ?_; rintro e w' ⟨rfl, n, rfl⟩; first | rw [HB.out] | rw [HC.out])
  go_ret
  exact ⟨_, _, rfl, HV.out, by decide, rfl⟩

set_option maxHeartbeats 4000000 in
theorem angleTurns_some (b c : Nat) (fb : fin .f32 b = true) (fc : fin .f32 c = true) (hne : ((FloatKind.f32.format.order b 0 == some Ordering.eq) && (FloatKind.f32.format.order c 0 == some Ordering.eq)) = false) (w : World) : Calls Try.prog 84 #[.float .f32 b, .float .f32 c] w (Gives .f32 (AngleV b c) w) := by
  have HN := Frame.hid hne
  have HB := Frame.hid fb
  have HC := Frame.hid fc
  clear fb fc
  cases hb : (FloatKind.f32.format.order b 0 == some Ordering.eq)
  · clear hne
    go_enter Try.func84, Try.ntmps84
    go_wp2_with (first | (go_at_call 58; refine (isFinite_calls _ _).mono ?_; rintro e w' ⟨rfl, n, rfl⟩; first | rw [HB.out] | rw [HC.out]) | (refine wpList_conv rfl _ _ _ rfl .f32 .f64 (by decide) (.inl rfl) _ rfl (by kernel_rfl) (by kernel_rfl) ?_; intro y n hy hyl))
    have HY := Frame.hid hy
    clear hy
    refine (abs_calls _ (lt64 hyl) _).mono ?_
    rintro e w' ⟨rfl, rfl⟩
    go_wp2_with (refine wpList_conv rfl _ _ _ rfl .f32 .f64 (by decide) (.inl rfl) _ rfl (by kernel_rfl) (by kernel_rfl) ?_; intro x n hx hxl)
    have HX := Frame.hid hx
    clear hx
    refine (abs_calls _ (lt64 hxl) _).mono ?_
    rintro e w' ⟨rfl, rfl⟩
    have HFY := Frame.hid (show fin .f64 y = true by rw [fin_wide HY.out]; exact HB.out)
    have HFX := Frame.hid (show fin .f64 x = true by rw [fin_wide HX.out]; exact HC.out)
    have HZ := Frame.hid (show (zeroB y && zeroB x) = false by rw [zeroB_wide HY.out HB.out, zeroB_wide HX.out HC.out]; exact HN.out)
    cases ho : (FloatKind.f64.format.order (y % 9223372036854775808) (x % 9223372036854775808) == some Ordering.gt) <;> cases hyn : (FloatKind.f32.format.order b 0 == some Ordering.lt) <;> cases hxn : (FloatKind.f32.format.order c 0 == some Ordering.lt)
    all_goals
      have HO : Hid (overB (y % 9223372036854775808) (x % 9223372036854775808) = _) := ho
      have HNY : Hid (negB y = _) := (negB_wide HY.out HB.out).trans hyn
      have HNX : Hid (negB x = _) := (negB_wide HX.out HC.out).trans hxn
      go_wp2_with (first | (refine wpList_arith rfl _ _ _ _ _ rfl rfl _ _ _ rfl rfl ?_; intro r n hr hl) | (go_at_call 109; refine (flatAngle_calls _ (by with_reducible assumption) _).mono ?_; rintro e w' ⟨g, n, rfl, hg, hgl, rfl⟩) | (go_at_call 81; refine (narrowNumber_calls _ _).mono ?_; rintro e w' ⟨z, n, rfl, hz, hzl, rfl⟩))
      go_ret
      refine ⟨_, _, rfl, ⟨y, x, _, HY.out, HX.out, .inr (.inr ⟨HFY.out, HFX.out, HZ.out, ?_⟩), hz⟩, hzl, rfl⟩
      refine angle_mk (x' := ?_) (y' := ?_) ?_ hg ?_ ?_ ?_
      rotate_left 2
      · first | exact tan_yes HO.out (by assumption) | exact tan_no HO.out (by assumption)
      · first | exact st1_yes HO.out (by assumption) | exact st1_no HO.out
      · first | exact st2_yes HNX.out (by assumption) | exact st2_no HNX.out
      · rw [HNY.out]; rfl
  · rw [hb, Bool.true_and] at hne
    go_enter Try.func84, Try.ntmps84
    go_wp2_with (first | (go_at_call 58; refine (isFinite_calls _ _).mono ?_; rintro e w' ⟨rfl, n, rfl⟩; first | rw [HB.out] | rw [HC.out]) | (refine wpList_conv rfl _ _ _ rfl .f32 .f64 (by decide) (.inl rfl) _ rfl (by kernel_rfl) (by kernel_rfl) ?_; intro y n hy hyl))
    have HY := Frame.hid hy
    clear hy
    refine (abs_calls _ (lt64 hyl) _).mono ?_
    rintro e w' ⟨rfl, rfl⟩
    go_wp2_with (refine wpList_conv rfl _ _ _ rfl .f32 .f64 (by decide) (.inl rfl) _ rfl (by kernel_rfl) (by kernel_rfl) ?_; intro x n hx hxl)
    have HX := Frame.hid hx
    clear hx
    refine (abs_calls _ (lt64 hxl) _).mono ?_
    rintro e w' ⟨rfl, rfl⟩
    have HFY := Frame.hid (show fin .f64 y = true by rw [fin_wide HY.out]; exact HB.out)
    have HFX := Frame.hid (show fin .f64 x = true by rw [fin_wide HX.out]; exact HC.out)
    have HZ := Frame.hid (show (zeroB y && zeroB x) = false by rw [zeroB_wide HY.out HB.out, zeroB_wide HX.out HC.out]; exact HN.out)
    cases ho : (FloatKind.f64.format.order (y % 9223372036854775808) (x % 9223372036854775808) == some Ordering.gt) <;> cases hyn : (FloatKind.f32.format.order b 0 == some Ordering.lt) <;> cases hxn : (FloatKind.f32.format.order c 0 == some Ordering.lt)
    all_goals
      have HO : Hid (overB (y % 9223372036854775808) (x % 9223372036854775808) = _) := ho
      have HNY : Hid (negB y = _) := (negB_wide HY.out HB.out).trans hyn
      have HNX : Hid (negB x = _) := (negB_wide HX.out HC.out).trans hxn
      go_wp2_with (first | (refine wpList_arith rfl _ _ _ _ _ rfl rfl _ _ _ rfl rfl ?_; intro r n hr hl) | (go_at_call 109; refine (flatAngle_calls _ (by with_reducible assumption) _).mono ?_; rintro e w' ⟨g, n, rfl, hg, hgl, rfl⟩) | (go_at_call 81; refine (narrowNumber_calls _ _).mono ?_; rintro e w' ⟨z, n, rfl, hz, hzl, rfl⟩))
      go_ret
      refine ⟨_, _, rfl, ⟨y, x, _, HY.out, HX.out, .inr (.inr ⟨HFY.out, HFX.out, HZ.out, ?_⟩), hz⟩, hzl, rfl⟩
      refine angle_mk (x' := ?_) (y' := ?_) ?_ hg ?_ ?_ ?_
      rotate_left 2
      · first | exact tan_yes HO.out (by assumption) | exact tan_no HO.out (by assumption)
      · first | exact st1_yes HO.out (by assumption) | exact st1_no HO.out
      · first | exact st2_yes HNX.out (by assumption) | exact st2_no HNX.out
      · rw [HNY.out]; rfl

end Go.Proofs.Ytbdmmpkphiilkaa
