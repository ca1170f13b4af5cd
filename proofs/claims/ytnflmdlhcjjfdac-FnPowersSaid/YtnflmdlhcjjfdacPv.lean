/-
  Powers and logarithms, walked.
-/





import Derived.Test.YtnflmdlhcjjfdacPt
import Derived.Test.YtnflmdlhcjjfdacOb
namespace Go.Proofs.Ytnflmdlhcjjfdac
open Go.RowKit Fl Ieee

def PolyEAt (t : Nat) (w : World) (pv kv : Value) (wr : World) : Prop := ∃ j p : Nat, j ≤ 12 ∧ kv = .int .i64 (12 - (j : Int)) ∧ pv = .float .f64 p ∧ PolyE t j p ∧ p < 2 ^ FloatKind.f64.format.width ∧ ∃ m, wr = w.drewN m
def SqEAt (p0 : Nat) (w : World) (pv iv : Value) (wr : World) : Prop := ∃ j q : Nat, j ≤ 8 ∧ iv = .int .i64 (j : Int) ∧ pv = .float .f64 q ∧ SqE p0 j q ∧ q < 2 ^ FloatKind.f64.format.width ∧ ∃ m, wr = w.drewN m
theorem polyE_step {t j p : Nat} (h : PolyE t j p) : ∀ m d p', FOp .mul .f64 t p m → FOp .quo .f64 m (floatOfInt .f64 (12 - (j : Int))) d → FOp .add .f64 4607182418800017408 d p' → PolyE t (j + 1) p' :=
  fun m d _ h1 h2 h3 => ⟨p, m, d, h, h1, h2, h3⟩

theorem midB_parts {x : Nat} (h : midB x = true) : (FloatKind.f32.format.order x 1128792064 == some Ordering.gt) = false ∧ (FloatKind.f32.format.order x 3276275712 == some Ordering.lt) = false := by
  unfold midB at h
  rw [Bool.and_eq_true, Bool.not_eq_true', Bool.not_eq_true'] at h
  exact h

set_option maxHeartbeats 2000000 in
theorem expNumber_calls (x : Nat) (hm : midB x = true) (w : World) : Calls Try.prog 13 #[.float .f32 x] w (Gives .f32 (ExpR x) w) := by
  obtain ⟨hm1, hm2⟩ := midB_parts hm
  clear hm
  go_enter Try.func13, Try.ntmps13
  go_wp2_with (first | (refine wpList_conv rfl _ _ _ rfl .f32 .f64 (by decide) (.inl rfl) _ rfl (by kernel_rfl) (by kernel_rfl) ?_; intro y ny hy hyl) | (refine wpList_arith rfl _ _ _ _ _ rfl rfl _ _ _ rfl rfl ?_; intro t nt ht htl))
  have HT : Hid (∀ p q r, PolyE t 12 p → SqE p 8 q → FCv .f64 .f32 q r → ExpR x r) := fun p q r k1 k2 k3 => ⟨y, t, p, q, hy, ht, k1, k2, k3⟩
  clear hy ht hm1 hm2
  go_loopw [4, 5] (fun pv kv wr => PolyEAt t w pv kv wr) (fun _ kv _ => (intOf kv).toNat)
  case atStart => exact ⟨0, _, by omega, rfl, rfl, rfl, by decide, _, rfl⟩
  case round =>
    obtain ⟨j, p, hj, rfl, rfl, hp, hpl, m, rfl⟩ := hrel
    by_cases hlt : j < 12
    · have HP := Frame.hid (polyE_step hp)
      obtain ⟨k, hkk⟩ : ∃ k : Int, k = 12 - (j : Int) := ⟨_, rfl⟩
      have HK := Frame.hid hkk
      have hk : 1 ≤ k := by omega
      have hk2 : k ≤ 12 := by omega
      rw [← hkk] at HP ⊢
      clear hp hkk HT
      go_wp2_with (refine wpList_arith rfl _ _ _ _ _ rfl rfl _ _ _ rfl rfl ?_; intro r n hr hl)
      rename_i m_ n1_ hm lm d_ n2_ hd ld
      go_roundw
      case rel => exact ⟨j + 1, _, by omega, by have := HK.out; simp; omega, rfl, HP.out _ _ _ hm hd hr, hl, _, rfl⟩
      case measure => have := HK.out; simp [intOf]; omega
    · have h12 : j = 12 := by omega
      subst h12
      have HP := Frame.hid hp
      clear hp
      rw [show (12 : Int) - ((12 : Nat) : Int) = 0 from rfl]
      go_wp2_with fail
      go_loopw [4, 26] (fun pv iv wr => SqEAt p w pv iv wr) (fun _ iv _ => (8 - intOf iv).toNat)
      case atStart => exact ⟨0, _, by omega, rfl, rfl, rfl, hpl, _, rfl⟩
      case round =>
        obtain ⟨i, q, hi, rfl, rfl, hq, hql, m2, rfl⟩ := hrel
        by_cases hlt2 : i < 8
        · have HQ : Hid (∀ r, FOp .mul .f64 q q r → SqE p (i + 1) r) := fun r h => ⟨q, hq, h⟩
          clear hq HT HP
          go_wp2_with (refine wpList_arith rfl _ _ _ _ _ rfl rfl _ _ _ rfl rfl ?_; intro r n hr hl)
          go_roundw
          case rel => exact ⟨i + 1, _, by omega, by go_num, rfl, HQ.out _ hr, hl, _, rfl⟩
          case measure => simp [intOf]; omega
        · have h8 : i = 8 := by omega
          subst h8
          have HQ := Frame.hid hq
          clear hq
          go_wp2_with (go_at_call 29; refine (narrowNumber_calls _ _).mono ?_; rintro e w' ⟨z, n, rfl, hz, hzl, rfl⟩)
          go_ret
          exact ⟨_, _, rfl, HT.out _ _ _ HP.out HQ.out hz, hzl, rfl⟩

theorem b10Long_calls (A B : Option Addr) (m k c d : Nat) (hm : m ≤ maxLen) (hk : k ≤ maxLen) (w : World) : Calls Try.prog 11 #[.slice A m c, .slice B k d] w fun e w' => e = .returned (.bool (decide (1048576 < (m : Int)) || decide (1048576 < (k : Int)))) ∧ w = w' := by
  unfold maxLen at hm hk
  go_enter Try.func11, Try.ntmps11
  go_wp2
  all_goals
    go_ret
    simp [*]

set_option maxHeartbeats 1000000 in
theorem b10At_calls (A : Option Addr) (zs : List Nat) (c : Nat) (hn : zs.length ≤ 1048576) (w : World) (hA : RdB w A zs) : Calls Try.prog 12 #[.slice A zs.length c, .int .i64 0, .int .i64 65] w fun e w' => ∃ k : Nat, k < 65 ∧ e = .returned (.int .i64 k) ∧ w = w' := by
  obtain ⟨n, hxn⟩ : ∃ n, n = zs.length := ⟨_, rfl⟩
  rw [← hxn] at hn ⊢
  by_cases h0 : 0 < n
  · obtain ⟨b, off, rfl, hb, hc⟩ := hA (by omega)
    obtain ⟨c1, c2⟩ := hc 0 (by omega)
    rw [Nat.add_zero] at c1
    generalize zs.getD 0 0 = z at c1 c2
    clear hc hA hxn
    go_enter Try.func12, Try.ntmps12
    go_wp2
    go_ret
    exact ⟨z % 65, Nat.mod_lt _ (by omega), (by show Ending.returned (Value.int IntKind.i64 ((z : Int) % 65)) = Ending.returned (Value.int IntKind.i64 (((z % 65 : Nat)) : Int)); rw [Int.natCast_emod]; rfl), rfl⟩
  · have hn0 : n = 0 := by omega
    clear hA hxn hn h0
    subst hn0
    go_enter Try.func12, Try.ntmps12
    go_wp2
    go_ret
    exact ⟨11, by omega, rfl, rfl⟩

theorem b10Gap_calls (a b : Nat) (w : World) : Calls Try.prog 14 #[.float .f64 a, .float .f64 b] w (Gives .f64 (GapR a b) w) := by
  cases ho : (FloatKind.f64.format.order a b == some Ordering.lt)
  · go_enter Try.func14, Try.ntmps14
    go_wp2_with (refine wpList_arith rfl _ _ _ _ _ rfl rfl _ _ _ rfl rfl ?_; intro r n hr hl)
    go_ret
    exact ⟨_, _, rfl, by unfold GapR; rw [if_neg (by rw [ho]; exact Bool.false_ne_true)]; exact hr, hl, rfl⟩
  · go_enter Try.func14, Try.ntmps14
    go_wp2_with (refine wpList_arith rfl _ _ _ _ _ rfl rfl _ _ _ rfl rfl ?_; intro r n hr hl)
    go_ret
    exact ⟨_, _, rfl, by unfold GapR; rw [if_pos ho]; exact hr, hl, rfl⟩

end Go.Proofs.Ytnflmdlhcjjfdac
