/-
  The specification's phasor and the law, walked.
-/
import Derived.Test.YtbdmmpkphiilkaaPx
import Derived.Test.YtbdmmpkphiilkaaCc
namespace Go.Proofs.Ytbdmmpkphiilkaa
open Go.RowKit Fl Ieee

set_option maxHeartbeats 8000000 in
theorem l01Phasor_few (y : Nat) (_hyl : y < 2 ^ FloatKind.f64.format.width) (hf : fin .f64 y = true) (hm : y % 9223372036854775808 < 4841369599423283200) (w : World) : Calls Try.prog 32 #[.float .f64 y] w (GivesC (PhasV y) w) := by
  obtain ⟨_, o2, o3, hy⟩ := turns_few hf hm
  obtain ⟨s, m, e, _, hv⟩ := int_told hy
  obtain ⟨n, hn⟩ : ∃ n, n = Ieee.signed s (m * 2 ^ e.toNat / 2 ^ (-e).toNat) 0 := ⟨_, rfl⟩
  rw [← hn] at hv
  have hci := fun W : World => run_convert_float_int (P := Try.prog) W 30 2 .f64 .i64 y n (by kernel_rfl) (by kernel_rfl) hv
  have HV := Frame.hid hv
  have HF := Frame.hid hf
  have HM := Frame.hid hm
  have HW := Frame.hid hy
  clear hv hn hy hf hm
  go_enter Try.func32, Try.ntmps32
  go_wp2_with fail
  refine upon_arith _ _ _ _ _ rfl ?_
  intro r0 n0 hr0 hl0
  have hz := sub_self_zero hr0
  rw [HF.out] at hz
  have hz2 : (FloatKind.f64.format.order r0 0 != some Ordering.eq) = false := by rw [bne, hz]; rfl
  clear hr0 hl0
  go_wp2_with fail
  refine upon_arith _ _ _ _ _ rfl ?_
  intro f0 n1 hf0 hl0
  have HF0 := Frame.hid hf0
  clear hf0 hz hz2 o2 o3
  cases hc : (FloatKind.f64.format.order f0 0 == some Ordering.lt)
  case true =>
    go_wp2_with fail
    refine upon_arith _ _ _ _ _ rfl ?_
    intro f n2 hf1 hfl
    have HFR : Hid (PartR y f) := ⟨_, f0, HV.out, HF0.out, by unfold Step1; rw [if_pos hc]; exact hf1⟩
    have HFL := Frame.hid (PartR.le HW.out HFR.out)
    clear hf1 HV HF0 hci hc
    go_wp2_with fail
    go_loopw [3, 4] (fun xv jv wr => QuartAt f w xv jv wr) (fun _ jv _ => (16 - intOf jv).toNat)
    case atStart => exact ⟨0, _, rfl, rfl, rfl, hfl, _, rfl⟩
    case round =>
      obtain ⟨j, x, rfl, rfl, hq, hxl, m, rfl⟩ := hrel
      rcases gq_cases x with ho | ho | ho
      · have hg := gqB_gt ho
        have hj := Quart.few HFL.out hq hg
        have HP := Frame.hid (quart_more hq hg)
        clear hq hg
        go_wp2_with (refine wpList_arith rfl _ _ _ _ _ rfl rfl _ _ _ rfl rfl ?_; intro r n hr hl)
        go_roundw
        case rel => exact ⟨j + 1, _, rfl, rfl, HP.out _ hr, hl, _, rfl⟩
        case measure => simp [intOf]; omega
      · have hg := gqB_eq ho
        have hj := Quart.few HFL.out hq hg
        have HP := Frame.hid (quart_more hq hg)
        clear hq hg
        go_wp2_with (refine wpList_arith rfl _ _ _ _ _ rfl rfl _ _ _ rfl rfl ?_; intro r n hr hl)
        go_roundw
        case rel => exact ⟨j + 1, _, rfl, rfl, HP.out _ hr, hl, _, rfl⟩
        case measure => simp [intOf]; omega
      · have HG := Frame.hid (gqB_not ho)
        obtain ⟨ho1, ho2⟩ := ho
        have HX := Frame.hid (Quart.one HFL.out hq).1.1
        have HQ := Frame.hid hq
        clear hq
        rcases (by omega : j = 1 ∨ j = 2 ∨ j = 3 ∨ (j ≠ 1 ∧ j ≠ 2 ∧ j ≠ 3)) with h | h | h | ⟨h1, h2, h3⟩
        · subst h
          go_wp2_with (first | (refine wpList_arith rfl _ _ _ _ _ rfl rfl _ _ _ rfl rfl ?_; intro r n hr hl) | (go_at_call 77; refine (l01SineWide_few _ (by first | exact (few_of_le HX.out (by omega)).1 | exact (few_of_le (g_le (by with_reducible assumption) HX.out) (by omega)).1) (by first | exact (few_of_le HX.out (by omega)).2 | exact (few_of_le (g_le (by with_reducible assumption) HX.out) (by omega)).2) _).mono ?_; rintro e w' ⟨q, n, rfl, hq, hql, rfl⟩) | (go_at_call 78; refine (l01Narrow_calls _ _).mono ?_; rintro e w' ⟨z, n, rfl, hz, hzl, rfl⟩))
          go_ret
          exact ⟨_, _, _, rfl, PhasV.few HF.out HM.out (PhasR.mk1 HFR.out HQ.out HG.out (by assumption) (by assumption) hq (by assumption) (by assumption) hz), by assumption, hzl, rfl⟩
        · subst h
          go_wp2_with (first | (refine wpList_arith rfl _ _ _ _ _ rfl rfl _ _ _ rfl rfl ?_; intro r n hr hl) | (go_at_call 77; refine (l01SineWide_few _ (by first | exact (few_of_le HX.out (by omega)).1 | exact (few_of_le (g_le (by with_reducible assumption) HX.out) (by omega)).1) (by first | exact (few_of_le HX.out (by omega)).2 | exact (few_of_le (g_le (by with_reducible assumption) HX.out) (by omega)).2) _).mono ?_; rintro e w' ⟨q, n, rfl, hq, hql, rfl⟩) | (go_at_call 78; refine (l01Narrow_calls _ _).mono ?_; rintro e w' ⟨z, n, rfl, hz, hzl, rfl⟩))
          go_ret
          exact ⟨_, _, _, rfl, PhasV.few HF.out HM.out (PhasR.mk2 HFR.out HQ.out HG.out (by assumption) (by assumption) hq (by assumption) (by assumption) (by assumption) hz), by assumption, hzl, rfl⟩
        · subst h
          go_wp2_with (first | (refine wpList_arith rfl _ _ _ _ _ rfl rfl _ _ _ rfl rfl ?_; intro r n hr hl) | (go_at_call 77; refine (l01SineWide_few _ (by first | exact (few_of_le HX.out (by omega)).1 | exact (few_of_le (g_le (by with_reducible assumption) HX.out) (by omega)).1) (by first | exact (few_of_le HX.out (by omega)).2 | exact (few_of_le (g_le (by with_reducible assumption) HX.out) (by omega)).2) _).mono ?_; rintro e w' ⟨q, n, rfl, hq, hql, rfl⟩) | (go_at_call 78; refine (l01Narrow_calls _ _).mono ?_; rintro e w' ⟨z, n, rfl, hz, hzl, rfl⟩))
          go_ret
          exact ⟨_, _, _, rfl, PhasV.few HF.out HM.out (PhasR.mk3 HFR.out HQ.out HG.out (by assumption) (by assumption) hq (by assumption) (by assumption) hz), by assumption, hzl, rfl⟩
        · have i1 : ¬ (j : Int) = 1 := by omega
          have i2 : ¬ (j : Int) = 2 := by omega
          have i3 : ¬ (j : Int) = 3 := by omega
          go_wp2_with (first | (refine wpList_arith rfl _ _ _ _ _ rfl rfl _ _ _ rfl rfl ?_; intro r n hr hl) | (go_at_call 77; refine (l01SineWide_few _ (by first | exact (few_of_le HX.out (by omega)).1 | exact (few_of_le (g_le (by with_reducible assumption) HX.out) (by omega)).1) (by first | exact (few_of_le HX.out (by omega)).2 | exact (few_of_le (g_le (by with_reducible assumption) HX.out) (by omega)).2) _).mono ?_; rintro e w' ⟨q, n, rfl, hq, hql, rfl⟩) | (go_at_call 78; refine (l01Narrow_calls _ _).mono ?_; rintro e w' ⟨z, n, rfl, hz, hzl, rfl⟩))
          go_ret
          exact ⟨_, _, _, rfl, PhasV.few HF.out HM.out (PhasR.mk0 h1 h2 h3 HFR.out HQ.out HG.out (by assumption) (by assumption) hq (by assumption) hz), by assumption, hzl, rfl⟩
  case false =>
    obtain ⟨f, hff⟩ : ∃ f, f = f0 := ⟨_, rfl⟩
    have HFR : Hid (PartR y f) := ⟨_, f0, HV.out, HF0.out, by unfold Step1; rw [if_neg (by rw [hc]; decide)]; exact hff⟩
    have HFL := Frame.hid (PartR.le HW.out HFR.out)
    have hfl : f < 2 ^ FloatKind.f64.format.width := by rw [hff]; exact hl0
    rw [← hff] at hc ⊢
    clear HV HF0 hci hff
    go_wp2_with fail
    go_loopw [3, 4] (fun xv jv wr => QuartAt f w xv jv wr) (fun _ jv _ => (16 - intOf jv).toNat)
    case atStart => exact ⟨0, _, rfl, rfl, rfl, hfl, _, rfl⟩
    case round =>
      obtain ⟨j, x, rfl, rfl, hq, hxl, m, rfl⟩ := hrel
      rcases gq_cases x with ho | ho | ho
      · have hg := gqB_gt ho
        have hj := Quart.few HFL.out hq hg
        have HP := Frame.hid (quart_more hq hg)
        clear hq hg
        go_wp2_with (refine wpList_arith rfl _ _ _ _ _ rfl rfl _ _ _ rfl rfl ?_; intro r n hr hl)
        go_roundw
        case rel => exact ⟨j + 1, _, rfl, rfl, HP.out _ hr, hl, _, rfl⟩
        case measure => simp [intOf]; omega
      · have hg := gqB_eq ho
        have hj := Quart.few HFL.out hq hg
        have HP := Frame.hid (quart_more hq hg)
        clear hq hg
        go_wp2_with (refine wpList_arith rfl _ _ _ _ _ rfl rfl _ _ _ rfl rfl ?_; intro r n hr hl)
        go_roundw
        case rel => exact ⟨j + 1, _, rfl, rfl, HP.out _ hr, hl, _, rfl⟩
        case measure => simp [intOf]; omega
      · have HG := Frame.hid (gqB_not ho)
        obtain ⟨ho1, ho2⟩ := ho
        have HX := Frame.hid (Quart.one HFL.out hq).1.1
        have HQ := Frame.hid hq
        clear hq
        rcases (by omega : j = 1 ∨ j = 2 ∨ j = 3 ∨ (j ≠ 1 ∧ j ≠ 2 ∧ j ≠ 3)) with h | h | h | ⟨h1, h2, h3⟩
        · subst h
          go_wp2_with (first | (refine wpList_arith rfl _ _ _ _ _ rfl rfl _ _ _ rfl rfl ?_; intro r n hr hl) | (go_at_call 77; refine (l01SineWide_few _ (by first | exact (few_of_le HX.out (by omega)).1 | exact (few_of_le (g_le (by with_reducible assumption) HX.out) (by omega)).1) (by first | exact (few_of_le HX.out (by omega)).2 | exact (few_of_le (g_le (by with_reducible assumption) HX.out) (by omega)).2) _).mono ?_; rintro e w' ⟨q, n, rfl, hq, hql, rfl⟩) | (go_at_call 78; refine (l01Narrow_calls _ _).mono ?_; rintro e w' ⟨z, n, rfl, hz, hzl, rfl⟩))
          go_ret
          exact ⟨_, _, _, rfl, PhasV.few HF.out HM.out (PhasR.mk1 HFR.out HQ.out HG.out (by assumption) (by assumption) hq (by assumption) (by assumption) hz), by assumption, hzl, rfl⟩
        · subst h
          go_wp2_with (first | (refine wpList_arith rfl _ _ _ _ _ rfl rfl _ _ _ rfl rfl ?_; intro r n hr hl) | (go_at_call 77; refine (l01SineWide_few _ (by first | exact (few_of_le HX.out (by omega)).1 | exact (few_of_le (g_le (by with_reducible assumption) HX.out) (by omega)).1) (by first | exact (few_of_le HX.out (by omega)).2 | exact (few_of_le (g_le (by with_reducible assumption) HX.out) (by omega)).2) _).mono ?_; rintro e w' ⟨q, n, rfl, hq, hql, rfl⟩) | (go_at_call 78; refine (l01Narrow_calls _ _).mono ?_; rintro e w' ⟨z, n, rfl, hz, hzl, rfl⟩))
          go_ret
          exact ⟨_, _, _, rfl, PhasV.few HF.out HM.out (PhasR.mk2 HFR.out HQ.out HG.out (by assumption) (by assumption) hq (by assumption) (by assumption) (by assumption) hz), by assumption, hzl, rfl⟩
        · subst h
          go_wp2_with (first | (refine wpList_arith rfl _ _ _ _ _ rfl rfl _ _ _ rfl rfl ?_; intro r n hr hl) | (go_at_call 77; refine (l01SineWide_few _ (by first | exact (few_of_le HX.out (by omega)).1 | exact (few_of_le (g_le (by with_reducible assumption) HX.out) (by omega)).1) (by first | exact (few_of_le HX.out (by omega)).2 | exact (few_of_le (g_le (by with_reducible assumption) HX.out) (by omega)).2) _).mono ?_; rintro e w' ⟨q, n, rfl, hq, hql, rfl⟩) | (go_at_call 78; refine (l01Narrow_calls _ _).mono ?_; rintro e w' ⟨z, n, rfl, hz, hzl, rfl⟩))
          go_ret
          exact ⟨_, _, _, rfl, PhasV.few HF.out HM.out (PhasR.mk3 HFR.out HQ.out HG.out (by assumption) (by assumption) hq (by assumption) (by assumption) hz), by assumption, hzl, rfl⟩
        · have i1 : ¬ (j : Int) = 1 := by omega
          have i2 : ¬ (j : Int) = 2 := by omega
          have i3 : ¬ (j : Int) = 3 := by omega
          go_wp2_with (first | (refine wpList_arith rfl _ _ _ _ _ rfl rfl _ _ _ rfl rfl ?_; intro r n hr hl) | (go_at_call 77; refine (l01SineWide_few _ (by first | exact (few_of_le HX.out (by omega)).1 | exact (few_of_le (g_le (by with_reducible assumption) HX.out) (by omega)).1) (by first | exact (few_of_le HX.out (by omega)).2 | exact (few_of_le (g_le (by with_reducible assumption) HX.out) (by omega)).2) _).mono ?_; rintro e w' ⟨q, n, rfl, hq, hql, rfl⟩) | (go_at_call 78; refine (l01Narrow_calls _ _).mono ?_; rintro e w' ⟨z, n, rfl, hz, hzl, rfl⟩))
          go_ret
          exact ⟨_, _, _, rfl, PhasV.few HF.out HM.out (PhasR.mk0 h1 h2 h3 HFR.out HQ.out HG.out (by assumption) (by assumption) hq (by assumption) hz), by assumption, hzl, rfl⟩

set_option maxHeartbeats 1000000 in
theorem l01Phasor_nan (y : Nat) (hf : fin .f64 y = false) (w : World) : Calls Try.prog 32 #[.float .f64 y] w (GivesC (PhasV y) w) := by
  have HF := Frame.hid hf
  clear hf
  go_enter Try.func32, Try.ntmps32
  go_wp2_with fail
  refine upon_arith _ _ _ _ _ rfl ?_
  intro r0 n0 hr0 hl0
  have hz := sub_self_zero hr0
  rw [HF.out] at hz
  have hz2 : (FloatKind.f64.format.order r0 0 != some Ordering.eq) = true := by rw [bne, hz]; rfl
  clear hr0 hl0
  go_wp2_with (go_at_call 76; refine (l01From_calls _ (by omega) (by omega) _).mono ?_; rintro e w' ⟨rfl, rfl⟩)
  go_ret
  exact ⟨_, _, _, rfl, PhasV.nan HF.out (by decide) (by decide), by decide, by decide, rfl⟩

set_option maxHeartbeats 1000000 in
theorem l01Phasor_many (y : Nat) (hf : fin .f64 y = true) (hm : 4841369599423283200 ≤ y % 9223372036854775808) (w : World) : Calls Try.prog 32 #[.float .f64 y] w (GivesC (PhasV y) w) := by
  obtain ⟨_, ho⟩ := turns_many hf hm
  have HF := Frame.hid hf
  have HM := Frame.hid hm
  clear hf hm
  go_enter Try.func32, Try.ntmps32
  go_wp2_with fail
  refine upon_arith _ _ _ _ _ rfl ?_
  intro r0 n0 hr0 hl0
  have hz := sub_self_zero hr0
  rw [HF.out] at hz
  have hz2 : (FloatKind.f64.format.order r0 0 != some Ordering.eq) = false := by rw [bne, hz]; rfl
  clear hr0 hl0
  rcases ho with (o | o) | ⟨o1, o | o⟩
  all_goals
    go_wp2_with fail
    go_ret
    exact ⟨_, _, _, rfl, PhasV.many HF.out HM.out rfl rfl, by decide, by decide, rfl⟩

theorem l01Phasor_calls (y : Nat) (hyl : y < 2 ^ FloatKind.f64.format.width) (w : World) : Calls Try.prog 32 #[.float .f64 y] w (GivesC (PhasV y) w) := by
  cases hf : fin .f64 y
  · exact l01Phasor_nan y hf w
  · rcases Nat.lt_or_ge (y % 9223372036854775808) 4841369599423283200 with h | h
    · exact l01Phasor_few y hyl hf h w
    · exact l01Phasor_many y hf h w

theorem specPhasor_calls (y : Nat) (hyl : y < 2 ^ FloatKind.f64.format.width) (w : World) : Calls Try.prog 9 #[.float .f64 y] w (GivesC (PhasV y) w) := by
  go_enter Try.func9, Try.ntmps9
  go_wp2_with (go_at_call 32; refine (l01Phasor_calls _ hyl _).mono ?_; rintro e w' ⟨re, im, n, rfl, h, l1, l2, rfl⟩)
  go_ret
  exact ⟨_, _, _, rfl, h, l1, l2, rfl⟩

end Go.Proofs.Ytbdmmpkphiilkaa
