/-
  The specification's angle, walked.
-/
import Derived.Test.YtpddjfajcpmdeabAx
namespace Go.Proofs.Ytpddjfajcpmdeab
open Go.RowKit Fl
attribute [local go_sem] unary_neg_f

set_option maxHeartbeats 1000000 in
theorem l01AngleWide_nan (y x : Nat) (h : fin .f64 y = false ∨ fin .f64 x = false) (w : World) : Calls Try.prog 65 #[.float .f64 y, .float .f64 x] w (Gives .f64 (AngleW y x) w) := by
  have HW : Hid (AngleW y x 9221120237041090561) := .inl ⟨h, nan_word⟩
  cases hy : fin .f64 y
  · have HY := Frame.hid hy
    clear hy h
    go_enter Try.func65, Try.ntmps65
    go_wp2_with fail
    refine upon_arith _ _ _ _ _ rfl ?_
    intro r0 n0 hr0 hl0
    have hz := sub_self_zero hr0
    rw [HY.out] at hz
    have hz2 : (FloatKind.f64.format.order r0 0 != some Ordering.eq) = true := by rw [bne, hz]; rfl
    clear hr0 hl0
    go_wp2_with (go_at_call 42; refine (nan_calls _).mono ?_; rintro e w' ⟨rfl, rfl⟩)
    go_ret
    exact ⟨_, _, rfl, HW.out, by decide, rfl⟩
  · have hx : fin .f64 x = false := by
      rcases h with h | h
      · rw [h] at hy; cases hy
      · exact h
    have HY := Frame.hid hy
    have HX := Frame.hid hx
    clear hy hx h
    go_enter Try.func65, Try.ntmps65
    go_wp2_with fail
    refine upon_arith _ _ _ _ _ rfl ?_
    intro r0 n0 hr0 hl0
    have hz := sub_self_zero hr0
    rw [HY.out] at hz
    have hz2 : (FloatKind.f64.format.order r0 0 != some Ordering.eq) = false := by rw [bne, hz]; rfl
    clear hr0 hl0
    go_wp2_with fail
    refine upon_arith _ _ _ _ _ rfl ?_
    intro r1 n1 hr1 hl1
    have hv := sub_self_zero hr1
    rw [HX.out] at hv
    have hv2 : (FloatKind.f64.format.order r1 0 != some Ordering.eq) = true := by rw [bne, hv]; rfl
    clear hr1 hl1
    go_wp2_with (go_at_call 42; refine (nan_calls _).mono ?_; rintro e w' ⟨rfl, rfl⟩)
    go_ret
    exact ⟨_, _, rfl, HW.out, by decide, rfl⟩

set_option maxHeartbeats 1000000 in
theorem l01AngleWide_zero (y x : Nat) (fy : fin .f64 y = true) (fx : fin .f64 x = true) (hy : (FloatKind.f64.format.order y 0 == some Ordering.eq) = true) (hx : (FloatKind.f64.format.order x 0 == some Ordering.eq) = true) (w : World) : Calls Try.prog 65 #[.float .f64 y, .float .f64 x] w (Gives .f64 (AngleW y x) w) := by
  have HW : Hid (AngleW y x 0) := .inr (.inl ⟨fy, fx, by unfold zeroB; rw [hy, hx]; rfl, rfl⟩)
  have HY := Frame.hid fy
  have HX := Frame.hid fx
  clear fy fx
  go_enter Try.func65, Try.ntmps65
  go_wp2_with fail
  refine upon_arith _ _ _ _ _ rfl ?_
  intro r0 n0 hr0 hl0
  have hz := sub_self_zero hr0
  rw [HY.out] at hz
  have hz2 : (FloatKind.f64.format.order r0 0 != some Ordering.eq) = false := by rw [bne, hz]; rfl
  clear hr0 hl0
  go_wp2_with fail
  refine upon_arith _ _ _ _ _ rfl ?_
  intro r1 n1 hr1 hl1
  have hv := sub_self_zero hr1
  rw [HX.out] at hv
  have hv2 : (FloatKind.f64.format.order r1 0 != some Ordering.eq) = false := by rw [bne, hv]; rfl
  clear hr1 hl1
  go_wp2_with fail
  go_ret
  exact ⟨_, _, rfl, HW.out, by decide, rfl⟩

set_option maxHeartbeats 8000000 in
theorem l01AngleWide_some (y x : Nat) (hyl : y < 18446744073709551616) (hxl : x < 18446744073709551616) (fy : fin .f64 y = true) (fx : fin .f64 x = true) (hne : (zeroB y && zeroB x) = false) (w : World) : Calls Try.prog 65 #[.float .f64 y, .float .f64 x] w (Gives .f64 (AngleW y x) w) := by
  have HW : Hid (∀ q, AngleR (y % 9223372036854775808) (x % 9223372036854775808) (negB x) (negB y) q → AngleW y x q) := fun q h => .inr (.inr ⟨fy, fx, hne, h⟩)
  have HY := Frame.hid fy
  have HX := Frame.hid fx
  have HYL := Frame.hid hyl
  have HXL := Frame.hid hxl
  have HN : Hid ((FloatKind.f64.format.order x 0 == some Ordering.eq) = true → (FloatKind.f64.format.order y 0 == some Ordering.eq) = false) := by
    intro hx
    have h := hne
    unfold zeroB at h
    rw [hx, Bool.and_true] at h
    exact h
  clear fy fx hyl hxl hne
  go_enter Try.func65, Try.ntmps65
  go_wp2_with fail
  refine upon_arith _ _ _ _ _ rfl ?_
  intro r0 n0 hr0 hl0
  have hz := sub_self_zero hr0
  rw [HY.out] at hz
  have hz2 : (FloatKind.f64.format.order r0 0 != some Ordering.eq) = false := by rw [bne, hz]; rfl
  clear hr0 hl0
  go_wp2_with fail
  refine upon_arith _ _ _ _ _ rfl ?_
  intro r1 n1 hr1 hl1
  have hv := sub_self_zero hr1
  rw [HX.out] at hv
  have hv2 : (FloatKind.f64.format.order r1 0 != some Ordering.eq) = false := by rw [bne, hv]; rfl
  clear hr1 hl1
  cases hx0 : (FloatKind.f64.format.order x 0 == some Ordering.eq)
  case' true => have hy0 := HN.out hx0
  all_goals
    go_wp2_with fail
    refine (abs_calls _ HYL.out _).mono ?_
    rintro e w' ⟨rfl, rfl⟩
    go_wp2_with fail
    refine (abs_calls _ HXL.out _).mono ?_
    rintro e w' ⟨rfl, rfl⟩
    clear hz hz2 hv hv2 hx0 HN
    cases ho : (FloatKind.f64.format.order (y % 9223372036854775808) (x % 9223372036854775808) == some Ordering.gt)
    all_goals
      have HO : Hid (overB (y % 9223372036854775808) (x % 9223372036854775808) = _) := ho
      go_wp2_with (refine wpList_arith rfl _ _ _ _ _ rfl rfl _ _ _ rfl rfl ?_; intro r n hr hl)
      have HT : Hid (TanR (y % 9223372036854775808) (x % 9223372036854775808) r) := by first | exact tan_yes HO.out hr | exact tan_no HO.out hr
      clear hr
      go_loopw [8, 9] (fun tv kv wr => HalfAt r w tv kv wr) (fun _ kv _ => (3 - intOf kv).toNat)
      case atStart => exact ⟨0, _, by omega, rfl, rfl, rfl, hl, _, rfl⟩
      case round =>
        obtain ⟨j, v, hj, rfl, rfl, hvv, hvl, m, rfl⟩ := hrel
        by_cases hlt : j < 3
        · have HP := Frame.hid (half_step hvv)
          clear hvv
          go_wp2_with (first | (refine wpList_arith rfl _ _ _ _ _ rfl rfl _ _ _ rfl rfl ?_; intro r n hr hl) | (go_at_call 34; refine (sqrt_calls _ _).mono ?_; rintro e w' ⟨q, n, rfl, hq, hql, rfl⟩))
          rename_i s1_ n1_ hs1 ls1 s2_ n2_ hs2 ls2 nq_ s3_ n3_ hs3 ls3
          go_roundw
          case rel => exact ⟨j + 1, _, by omega, rfl, rfl, HP.out _ _ _ _ _ hs1 hs2 hq hs3 hr, hl, _, rfl⟩
          case measure => simp [intOf]; omega
        · have h3 : j = 3 := by omega
          subst h3
          have HV := Frame.hid hvv
          clear hvv
          go_wp2_with (refine wpList_arith rfl _ _ _ _ _ rfl rfl _ _ _ rfl rfl ?_; intro r n hr hl)
          have HU := Frame.hid hr
          clear hr
          go_loopw [11, 12] (fun pv kv wr => SumAt r w pv kv wr) (fun _ kv _ => (intOf kv).toNat)
          case atStart => exact ⟨0, _, by omega, rfl, rfl, rfl, by decide, _, rfl⟩
          case round =>
            obtain ⟨j, p, hj, rfl, rfl, hp, hpl, m2, rfl⟩ := hrel
            by_cases hlt : j < 8
            · have HP := Frame.hid (sum_step hp)
              obtain ⟨k, hkk⟩ : ∃ k : Int, k = 15 - 2 * (j : Int) := ⟨_, rfl⟩
              have HK := Frame.hid hkk
              have hk : 1 ≤ k := by omega
              have hk2 : k ≤ 15 := by omega
              rw [← hkk] at HP ⊢
              clear hp hkk
              go_wp2_with (refine wpList_arith rfl _ _ _ _ _ rfl rfl _ _ _ rfl rfl ?_; intro r n hr hl)
              rename_i d_ n1_ hd ld m_ n2_ hm lm
              go_roundw
              case rel => exact ⟨j + 1, _, by omega, by have := HK.out; simp; omega, rfl, HP.out _ _ _ hd hm hr, hl, _, rfl⟩
              case measure => have := HK.out; simp [intOf]; omega
            · have h8 : j = 8 := by omega
              subst h8
              have HP := Frame.hid hp
              clear hp
              cases hyn : (FloatKind.f64.format.order y 0 == some Ordering.lt) <;> cases hxn : (FloatKind.f64.format.order x 0 == some Ordering.lt)
              all_goals
                have HNY : Hid (negB y = _) := hyn
                have HNX : Hid (negB x = _) := hxn
                go_wp2_with fail
                refine upon_arith _ _ _ _ _ rfl ?_
                intro m1 n1_ hm1 lm1
                go_wp2_with fail
                refine upon_arith _ _ _ _ _ rfl ?_
                intro m2_ n2_ hm2 lm2
                go_wp2_with fail
                refine upon_arith _ _ _ _ _ rfl ?_
                intro g n3_ hg lg
                have HG := Frame.hid (show FlatR _ g from ⟨v, _, p, _, _, HV.out, HU.out, HP.out, hm1, hm2, hg⟩)
                clear hm1 hm2 hg
                go_wp2_with (refine wpList_arith rfl _ _ _ _ _ rfl rfl _ _ _ rfl rfl ?_; intro r n hr hl)
                go_ret
                refine ⟨_, _, rfl, HW.out _ ?_, ?_, rfl⟩
                · refine angle_mk (x' := ?_) (y' := ?_) HT.out HG.out ?_ ?_ ?_
                  rotate_left 2
                  · first | exact st1_yes HO.out (by assumption) | exact st1_no HO.out
                  · first | exact st2_yes HNX.out (by assumption) | exact st2_no HNX.out
                  · rw [HNY.out]; rfl
                · first | assumption | exact neg_lt (by assumption)

end Go.Proofs.Ytpddjfajcpmdeab
