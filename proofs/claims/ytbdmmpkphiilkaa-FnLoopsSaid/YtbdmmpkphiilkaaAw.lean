/-
  The angle, walked on both sides.
-/
import Derived.Test.YtbdmmpkphiilkaaSw
import Derived.Test.YtbdmmpkphiilkaaAn
namespace Go.Proofs.Ytbdmmpkphiilkaa
open Go.RowKit Fl
attribute [local go_sem] unary_neg_f

/-- In the rounds of halving: the count goes up, x is the tangent so far. -/
def HalfAt (t : Nat) (w : World) (tv kv : Value) (wr : World) : Prop := ∃ j x : Nat, j ≤ 3 ∧ kv = .int .i64 (j : Int) ∧ tv = .float .f64 x ∧ HalvedN t j x ∧ x < 2 ^ FloatKind.f64.format.width ∧ ∃ m, wr = w.drewN m
/-- In the rounds of the sum. -/
def SumAAt (u : Nat) (w : World) (pv kv : Value) (wr : World) : Prop := ∃ j p : Nat, j ≤ 8 ∧ kv = .int .i64 (15 - 2 * (j : Int)) ∧ pv = .float .f64 p ∧ PolyA u j p ∧ p < 2 ^ FloatKind.f64.format.width ∧ ∃ m, wr = w.drewN m

theorem half_step {t j x : Nat} (h : HalvedN t j x) : ∀ s s1 q q1 z, FOp .mul .f64 x x s → FOp .add .f64 4607182418800017408 s s1 → FSq s1 q → FOp .add .f64 4607182418800017408 q q1 → FOp .quo .f64 x q1 z → HalvedN t (j + 1) z :=
  fun s s1 q q1 _ h1 h2 h3 h4 h5 => ⟨x, h, s, s1, q, q1, h1, h2, h3, h4, h5⟩
theorem sum_step {u j p : Nat} (h : PolyA u j p) : ∀ d m z, FOp .quo .f64 4607182418800017408 (floatOfInt .f64 (15 - 2 * (j : Int))) d → FOp .mul .f64 u p m → FOp .sub .f64 d m z → PolyA u (j + 1) z :=
  fun d m _ h1 h2 h3 => ⟨p, d, m, h, h1, h2, h3⟩

set_option maxHeartbeats 4000000 in
theorem flatAngle_calls (t : Nat) (ht : t < 2 ^ FloatKind.f64.format.width) (w : World) : Calls Try.prog 109 #[.float .f64 t] w (Gives .f64 (FlatR t) w) := by
  go_enter Try.func109, Try.ntmps109
  go_wp2_with fail
  go_loopw [0, 6] (fun tv kv wr => HalfAt t w tv kv wr) (fun _ kv _ => (3 - intOf kv).toNat)
  case atStart => exact ⟨0, _, by omega, rfl, rfl, rfl, ht, 0, rfl⟩
  case round =>
    obtain ⟨j, x, hj, rfl, rfl, hx, hxl, m, rfl⟩ := hrel
    by_cases hlt : j < 3
    · have HP := Frame.hid (half_step hx)
      clear hx
      go_wp2_with (first | (refine wpList_arith rfl _ _ _ _ _ rfl rfl _ _ _ rfl rfl ?_; intro r n hr hl) | (go_at_call 82; refine (sqrt_calls _ _).mono ?_; rintro e w' ⟨q, n, rfl, hq, hql, rfl⟩))
      rename_i s1_ n1_ hs1 ls1 s2_ n2_ hs2 ls2 nq_ s3_ n3_ hs3 ls3
      go_roundw
      case rel => exact ⟨j + 1, _, by omega, rfl, rfl, HP.out _ _ _ _ _ hs1 hs2 hq hs3 hr, hl, _, rfl⟩
      case measure => simp [intOf]; omega
    · have h3 : j = 3 := by omega
      subst h3
      have HX := Frame.hid hx
      clear hx
      go_wp2_with (refine wpList_arith rfl _ _ _ _ _ rfl rfl _ _ _ rfl rfl ?_; intro r n hr hl)
      have HU := Frame.hid hr
      clear hr
      go_loopw [4, 5] (fun pv kv wr => SumAAt r w pv kv wr) (fun _ kv _ => (intOf kv).toNat)
      case atStart => exact ⟨0, _, by omega, rfl, rfl, rfl, by decide, _, rfl⟩
      case round =>
        obtain ⟨j, p, hj, rfl, rfl, hp, hpl, m2, rfl⟩ := hrel
        by_cases hlt : j < 8
        · have HP := Frame.hid (sum_step hp)
          obtain ⟨k, hkk⟩ : ∃ k : Int, k = 15 - 2 * (j : Int) := ⟨_, rfl⟩
          have HK := Frame.hid hkk
          have hk : 1 ≤ k := by omega
          have hk2 : k ≤ 15 := by omega
          rw [← hkk] at HP ⊢
          clear hp hkk
          go_wp2_with (refine wpList_arith rfl _ _ _ _ _ rfl rfl _ _ _ rfl rfl ?_; intro r n hr hl)
          rename_i d_ n1_ hd ld m_ n2_ hm lm
          go_roundw
          case rel => exact ⟨j + 1, _, by omega, by have := HK.out; simp; omega, rfl, HP.out _ _ _ hd hm hr, hl, _, rfl⟩
          case measure => have := HK.out; simp [intOf]; omega
        · have h8 : j = 8 := by omega
          subst h8
          have HP := Frame.hid hp
          clear hp
          go_wp2_with (refine wpList_arith rfl _ _ _ _ _ rfl rfl _ _ _ rfl rfl ?_; intro r n hr hl)
          rename_i m1_ n1_ hm1 lm1 m2_ n2_ hm2 lm2
          go_ret
          exact ⟨_, _, rfl, ⟨x, _, p, _, _, HX.out, HU.out, HP.out, hm1, hm2, hr⟩, hl, rfl⟩

end Go.Proofs.Ytbdmmpkphiilkaa
