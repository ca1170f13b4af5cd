/-
  AngleTurns against its law, walked.
-/
import Derived.Test.YtpddjfajcpmdeabAy
namespace Go.Proofs.Ytpddjfajcpmdeab
open Go.RowKit Fl

theorem l01AngleWide_calls (y x : Nat) (hyl : y < 18446744073709551616) (hxl : x < 18446744073709551616) (w : World) : Calls Try.prog 65 #[.float .f64 y, .float .f64 x] w (Gives .f64 (AngleW y x) w) := by
  cases fy : fin .f64 y
  · exact l01AngleWide_nan y x (.inl fy) w
  · cases fx : fin .f64 x
    · exact l01AngleWide_nan y x (.inr fx) w
    · cases hz : (zeroB y && zeroB x)
      · exact l01AngleWide_some y x hyl hxl fy fx hz w
      · rw [Bool.and_eq_true] at hz
        exact l01AngleWide_zero y x fy fx hz.1 hz.2 w

theorem angleTurns_calls (b c : Nat) (w : World) : Calls Try.prog 23 #[.float .f32 b, .float .f32 c] w (Gives .f32 (AngleV b c) w) := by
  cases fb : fin .f32 b
  · exact angleTurns_nan b c (.inl fb) w
  · cases fc : fin .f32 c
    · exact angleTurns_nan b c (.inr fc) w
    · cases hz : ((FloatKind.f32.format.order b 0 == some Ordering.eq) && (FloatKind.f32.format.order c 0 == some Ordering.eq))
      · exact angleTurns_some b c fb fc hz w
      · rw [Bool.and_eq_true] at hz
        exact angleTurns_zero b c fb fc hz.1 hz.2 w

set_option maxHeartbeats 1000000 in
theorem l01Angle_calls (b c : Nat) (w : World) : Calls Try.prog 45 #[.float .f32 b, .float .f32 c] w (Gives .f32 (AngleV b c) w) := by
  go_enter Try.func45, Try.ntmps45
  go_wp2_with (refine wpList_conv rfl _ _ _ rfl .f32 .f64 (by decide) (.inl rfl) _ rfl (by kernel_rfl) (by kernel_rfl) ?_; intro y n hy hyl)
  rename_i y0 n0 hy0 hyl0 K0 hK0
  have HY := Frame.hid hy0
  have HX := Frame.hid hy
  clear hy hy0
  refine (l01AngleWide_calls _ _ (lt64 (by with_reducible assumption)) (lt64 (by with_reducible assumption)) _).mono ?_
  rintro e w' ⟨q, m, rfl, hq, hql, rfl⟩
  have HQ := Frame.hid hq
  clear hq
  go_wp2_with (go_at_call 58; refine (l01Narrow_calls _ _).mono ?_; rintro e w' ⟨z, n, rfl, hz, hzl, rfl⟩)
  go_ret
  exact ⟨_, _, rfl, ⟨_, _, q, HY.out, HX.out, HQ.out, hz⟩, hzl, rfl⟩

set_option maxHeartbeats 1000000 in
theorem specAngleTurns_calls (b c : Nat) (w : World) : Calls Try.prog 22 #[.float .f32 b, .float .f32 c] w (Gives .f32 (AngleV b c) w) := by
  go_enter Try.func22, Try.ntmps22
  go_wp2_with (go_at_call 45; refine (l01Angle_calls _ _ _).mono ?_; rintro e w' ⟨z, n, rfl, hz, hzl, rfl⟩)
  go_ret
  exact ⟨_, _, rfl, hz, hzl, rfl⟩

set_option maxHeartbeats 1000000 in
theorem fnExactAngleTurns_walk (b c : Nat) (w : World) : Calls Try.prog 7 #[.float .f32 b, .float .f32 c] w fun e w' => e = .returned (.bool true) ∧ Below w.heap.size w w' := by
  go_enter Try.func7, Try.ntmps7
  go_wp2_with (go_at_call 22; refine (specAngleTurns_calls _ _ _).mono ?_; rintro e w' ⟨q, n, rfl, hq, hql, rfl⟩)
  go_wp2_with (first | (go_at_call 23; refine (angleTurns_calls _ _ _).mono ?_; rintro e w' ⟨z, n, rfl, hz, hzl, rfl⟩) | (refine wpList_conv rfl _ _ _ rfl .f32 .f64 (by decide) (.inl rfl) _ rfl (by kernel_rfl) (by kernel_rfl) ?_; intro r n hr hl) | (go_at_call 14; refine (sameFloat_calls _ _ (wide_pair (AngleV.same hz hq) (by with_reducible assumption) (by with_reducible assumption)) _).mono ?_; rintro e w' ⟨rfl, n, rfl⟩))
  go_ret
  exact ⟨rfl, below_drewN (Below.refl _ _) _⟩

end Go.Proofs.Ytpddjfajcpmdeab
