/-
  The square root of a number, walked on both sides.
-/
import Derived.Test.YtnbgnaenlbphcaaSc
import Derived.Test.YtnbgnaenlbphcaaBd
namespace Go.Proofs.Ytnbgnaenlbphcaa
open Go.RowKit Fl

/-- What RootNumber may give. -/
def RootR (b r : Nat) : Prop := ∃ y q, FCv .f32 .f64 b y ∧ FSq y q ∧ FCv .f64 .f32 q r
theorem RootR.same {b r r' : Nat} (h : RootR b r) (h' : RootR b r') : FSame .f32 r r' := by
  obtain ⟨y, q, h1, h2, h3⟩ := h
  obtain ⟨y', q', g1, g2, g3⟩ := h'
  have hy := wide_same (FSame.refl _ _) h1 g1
  exact told_same (FSq.same hy h2 g2) (sqrt_told h1 h2) h3 g3

set_option maxHeartbeats 400000 in
theorem rootNumber_calls (b : Nat) (w : World) : Calls Try.prog 164 #[.float .f32 b] w (Gives .f32 (RootR b) w) := by
  go_enter Try.func164, Try.ntmps164
  go_wp2_with (first | (refine wpList_conv rfl _ _ _ rfl .f32 .f64 (by decide) (.inl rfl) _ rfl (by kernel_rfl) (by kernel_rfl) ?_; intro r n hr hl) | (go_at_call 170; refine (sqrt_calls _ _).mono ?_; rintro e w' ⟨q, n, rfl, hq, hql, rfl⟩) | (go_at_call 171; refine (narrowNumber_calls _ _).mono ?_; rintro e w' ⟨z, n, rfl, hz, hzl, rfl⟩))
  go_ret
  exact ⟨_, _, rfl, ⟨_, _, hr, hq, hz⟩, hzl, rfl⟩

set_option maxHeartbeats 400000 in
theorem l01Sqrt_calls (b : Nat) (w : World) : Calls Try.prog 163 #[.float .f32 b] w (Gives .f32 (RootR b) w) := by
  go_enter Try.func163, Try.ntmps163
  go_wp2_with (first | (refine wpList_conv rfl _ _ _ rfl .f32 .f64 (by decide) (.inl rfl) _ rfl (by kernel_rfl) (by kernel_rfl) ?_; intro r n hr hl) | (go_at_call 170; refine (sqrt_calls _ _).mono ?_; rintro e w' ⟨q, n, rfl, hq, hql, rfl⟩) | (go_at_call 169; refine (l01Narrow_calls _ _).mono ?_; rintro e w' ⟨z, n, rfl, hz, hzl, rfl⟩))
  go_ret
  exact ⟨_, _, rfl, ⟨_, _, hr, hq, hz⟩, hzl, rfl⟩

end Go.Proofs.Ytnbgnaenlbphcaa
