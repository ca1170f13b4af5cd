/-
  The law of JerkPlan, walked.
-/
import Derived.Test.YtohbanchaggnmaaY9
namespace Go.Proofs.Ytohbanchaggnmaa
open Go.RowKit Fl Ieee Go.WideShapes Go.Deep
attribute [local go_sem] kstore_f kalloc_drewN kset_drewN unary_neg_y

set_option maxRecDepth 100000 in
set_option maxHeartbeats 1000000 in
theorem eqPlan_calls (j r h c J R H C : Nat) (h0 : FSame .f32 j J) (h1 : FSame .f32 r R) (h2 : FSame .f32 h H) (h3 : FSame .f32 c C) (w : World) : Calls Try.prog 52 #[.agg #[.float .f32 j, .float .f32 r, .float .f32 h, .float .f32 c], .agg #[.float .f32 J, .float .f32 R, .float .f32 H, .float .f32 C]] w fun e w' => e = .returned (.bool true) ∧ Below w.heap.size w w' := by
  go_enter Try.func52, Try.ntmps52
  go_wp2_with (first | (refine wpList_conv rfl _ _ _ rfl .f32 .f64 (by decide) (.inl rfl) _ rfl (by kernel_rfl) (by kernel_rfl) ?_; intro r n hr hl) | (go_at_call 36; refine (sameFloat_calls _ _ (by first | exact wide_pair h0 (by with_reducible assumption) (by with_reducible assumption) | exact wide_pair h1 (by with_reducible assumption) (by with_reducible assumption) | exact wide_pair h2 (by with_reducible assumption) (by with_reducible assumption) | exact wide_pair h3 (by with_reducible assumption) (by with_reducible assumption)) _).mono ?_; rintro e w' ⟨rfl, n, rfl⟩))
  go_ret
  exact ⟨rfl, b2 _ _ _ _⟩

set_option maxRecDepth 100000 in
set_option maxHeartbeats 1000000 in
theorem fnExactJerkPlan_walk (long most rise jerk : Nat) (w : World) : Calls Try.prog 12 #[.float .f32 long, .float .f32 most, .float .f32 rise, .float .f32 jerk] w fun e w' => e = .returned (.bool true) ∧ Below w.heap.size w w' := by
  go_enter Try.func12, Try.ntmps12
  go_wp2_with fail
  refine (specJerkPlan_calls _ _ _ _ _).mono ?_
  rintro e w1 ⟨j, r, h, c, ok, rfl, hs, hB1⟩
  go_wp2_with fail
  obtain ⟨w2, hw2⟩ : ∃ w2, w2 = w1.alloc (.cells #[.float .f32 j, .float .f32 r, .float .f32 h, .float .f32 c] 72) := ⟨_, rfl⟩
  obtain ⟨g, hg⟩ : ∃ g, g = w1.heap.size := ⟨_, rfl⟩
  have hP : At4 w2 g j r h c := by rw [hw2, hg]; exact ⟨by simp [go_sem], by simp [go_sem], by simp [go_sem], by simp [go_sem]⟩
  have h12 : Below w1.heap.size w1 w2 := by rw [hw2]; exact (Below.refl _ _).alloc (Nat.le_refl _) _
  have hgl : g < w2.heap.size := by rw [hw2, hg]; simp
  have HB2 := Frame.hid (hB1.trans (h12.mono hB1.size))
  have HP := Frame.hid hP
  have HS := Frame.hid hs
  rw [← hw2, ← hg]
  clear hw2 hg hP h12 hB1 hs
  refine (jerkPlan_calls _ _ _ _ _).mono ?_
  rintro e w3 ⟨J, R, H, C, ok', rfl, hs', hB3⟩
  obtain ⟨rfl, e1, e2, e3, rfl⟩ := JerkO.same hs' HS.out
  obtain ⟨p0, p1, p2, p3⟩ := HP.out.keep hB3 hgl
  have hgl3 : g < w3.heap.size := Nat.lt_of_lt_of_le hgl hB3.size
  have HB3 := Frame.hid (HB2.out.trans (hB3.mono HB2.out.size))
  have HE := Frame.hid (And.intro e1 (And.intro e2 e3))
  clear hB3 hs' e1 e2 e3
  go_wp2_with fail
  refine (eqPlan_calls _ _ _ _ _ _ _ _ (FSame.refl _ _) HE.out.1 HE.out.2.1 HE.out.2.2 _).mono ?_
  rintro e w4 ⟨rfl, hB4⟩
  have HB4 := Frame.hid (below_ch (B := w.heap.size) (a := w) (by repeat' first | exact ⟨HB3.out.size, HB3.out⟩ | apply below_dn | apply below_al) hB4 rfl)
  clear hB4 p0 p1 p2 p3
  have htt : (ok' != ok') = false := by cases ok' <;> rfl
  go_wp2_with fail
  go_ret
  exact ⟨rfl, HB4.out.2⟩

end Go.Proofs.Ytohbanchaggnmaa
