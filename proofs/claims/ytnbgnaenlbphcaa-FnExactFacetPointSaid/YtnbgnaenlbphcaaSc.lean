/-
  What the functions on single numbers give, walked: bits, sameness of floats, finiteness.
-/
import Derived.Test.YtnbgnaenlbphcaaRows
import Derived.Test.YtnbgnaenlbphcaaOr
import Derived.Test.YtnbgnaenlbphcaaFrame
import Derived.WalkKit
import Derived.WalkLawsBesides
import Derived.Deep.QuietTactic
import Derived.BigQuiet
namespace Go.Proofs.Ytnbgnaenlbphcaa
open Go.RowKit Fl

/-- The bits of a number, all not-a-numbers being one. -/
def bitsV (b : Nat) : Int := if isNan .f32 b = true then 2143289344 else (b : Int)
theorem bitsV_nan {b : Nat} (h : isNan .f32 b = true) : bitsV b = 2143289344 := if_pos h
theorem bitsV_num {b : Nat} (h : isNan .f32 b = false) : bitsV b = b := if_neg (by simp [h])

theorem neq_self (k : FloatKind) (b : Nat) : (k.format.order b b != some Ordering.eq) = isNan k b := by
  rw [order_self]
  cases isNan k b <;> rfl
theorem eql_self (k : FloatKind) (b : Nat) : (k.format.order b b == some Ordering.eq) = !isNan k b := by
  rw [order_self]
  cases isNan k b <;> rfl
theorem ret_bool {a b : Bool} (h : a = b) : Ending.returned (.bool a) = .returned (.bool b) := by rw [h]

theorem ext_f32bits (b : Nat) (w : World) : (callFunc 167 #[.float .f32 b]).run Try.prog w = .ok (.value (.int .u32 b)) w := by
  rw [run_callFunc_extern Try.func167 (by kernel_rfl) (by kernel_rfl) (by kernel_rfl) (e := Extern.MathFloatBits.float32bits) (by kernel_rfl)]; rfl

set_option maxRecDepth 100000 in
set_option maxHeartbeats 400000 in
theorem isNaN_calls (b : Nat) (w : World) : Calls Try.prog 166 #[.float .f64 b] w fun e w' => e = .returned (.bool (isNan .f64 b)) ∧ w = w' := by
  go_enter Try.func166, Try.ntmps166
  go_wp2
  go_ret
  exact ⟨ret_bool (neq_self .f64 b), rfl⟩

theorem isNaN_wide {b r : Nat} (h : FCv .f32 .f64 b r) : isNan .f64 r = isNan .f32 b := by
  rcases wide_read h with ⟨h1, h2⟩ | ⟨s, h1, h2⟩ | ⟨s, m, e, h1, _, _, _, t, p, h2, _⟩
  · rw [h1, h2]
  · have e1 : FloatKind.f32.format.read b = .infinity s := h1
    have e2 : FloatKind.f64.format.read r = .infinity s := h2
    unfold isNan FloatKind.decode; rw [e1, e2]
  · have e1 : FloatKind.f32.format.read b = .number s m e := h1
    have e2 : FloatKind.f64.format.read r = .number s (m * 2 ^ t) p := h2
    unfold isNan FloatKind.decode; rw [e1, e2]; rfl

set_option maxRecDepth 100000 in
set_option maxHeartbeats 400000 in
theorem bitsOf_calls (b : Nat) (hb : (b : Int) < 4294967296) (w : World) : Calls Try.prog 159 #[.float .f32 b] w fun e w' => e = .returned (.int .i64 (bitsV b)) ∧ ∃ n, w' = w.drewN n := by
  have hx := ext_f32bits b
  cases hn : isNan .f32 b
  · have e1 := bitsV_num hn
    have E1 := Frame.hid e1
    clear e1
    have HN := Frame.hid hn
    clear hn
    go_enter Try.func159, Try.ntmps159
    go_wp2_with (first | (refine wpList_conv rfl _ _ _ rfl .f32 .f64 (by decide) (.inl rfl) _ rfl (by kernel_rfl) (by kernel_rfl) ?_; intro r n hr hl) | (go_at_call 166; refine (isNaN_calls _ _).mono ?_; rintro e w' ⟨rfl, rfl⟩; rw [isNaN_wide hr, HN.out]; clear hr))
    go_ret
    exact ⟨by rw [E1.out]; rfl, _, rfl⟩
  · have e1 := bitsV_nan hn
    have E1 := Frame.hid e1
    clear e1
    have HN := Frame.hid hn
    clear hn
    go_enter Try.func159, Try.ntmps159
    go_wp2_with (first | (refine wpList_conv rfl _ _ _ rfl .f32 .f64 (by decide) (.inl rfl) _ rfl (by kernel_rfl) (by kernel_rfl) ?_; intro r n hr hl) | (go_at_call 166; refine (isNaN_calls _ _).mono ?_; rintro e w' ⟨rfl, rfl⟩; rw [isNaN_wide hr, HN.out]; clear hr))
    go_ret
    exact ⟨by rw [E1.out]; rfl, _, rfl⟩

set_option maxRecDepth 100000 in
set_option maxHeartbeats 400000 in
theorem l01Bits_calls (b : Nat) (hb : (b : Int) < 4294967296) (w : World) : Calls Try.prog 165 #[.float .f32 b] w fun e w' => e = .returned (.int .i64 (bitsV b)) ∧ w = w' := by
  have hx := ext_f32bits b
  have hs := neq_self .f32 b
  cases hn : isNan .f32 b
  · have e1 := bitsV_num hn
    rw [hn] at hs
    have E1 := Frame.hid e1
    clear e1 hn
    go_enter Try.func165, Try.ntmps165
    go_wp2
    go_ret
    exact ⟨by rw [E1.out]; rfl, rfl⟩
  · have e1 := bitsV_nan hn
    rw [hn] at hs
    have E1 := Frame.hid e1
    clear e1 hn
    go_enter Try.func165, Try.ntmps165
    go_wp2
    go_ret
    exact ⟨by rw [E1.out]; rfl, rfl⟩

set_option maxRecDepth 100000 in
set_option maxHeartbeats 400000 in
theorem sameFloat_calls (a b : Nat) (h : FSame .f64 a b) (w : World) : Calls Try.prog 44 #[.float .f64 a, .float .f64 b] w fun e w' => e = .returned (.bool true) ∧ ∃ n, w' = w.drewN n := by
  rcases h with rfl | ⟨h1, h2⟩
  · have hs := neq_self .f64 a
    cases hn : isNan .f64 a
    · rw [hn] at hs
      have hq := eql_self .f64 a
      rw [hn] at hq
      clear hn
      cases hz : (FloatKind.f64.format.order a 0 == some Ordering.eq)
      · go_enter Try.func44, Try.ntmps44
        go_wp2_with (refine wpList_arith rfl _ _ _ _ _ rfl rfl _ _ _ rfl rfl ?_; intro r n hr hl)
        go_ret
        exact ⟨ret_bool (by simp), 0, rfl⟩
      · go_enter Try.func44, Try.ntmps44
        go_wp2_with (refine wpList_arith rfl _ _ _ _ _ rfl rfl _ _ _ rfl rfl ?_; intro r n hr hl)
        rename_i r1 n1 hr1 hl1
        go_ret
        have he := order_same (FOp.same (FSame.refl _ _) (FSame.refl _ _) hr1 hr) (FSame.refl .f64 0)
        exact ⟨ret_bool (by rw [he]; simp), _, rfl⟩
    · rw [hn] at hs
      clear hn
      go_enter Try.func44, Try.ntmps44
      go_wp2_with (refine wpList_arith rfl _ _ _ _ _ rfl rfl _ _ _ rfl rfl ?_; intro r n hr hl)
      go_ret
      exact ⟨ret_bool (by simp), 0, rfl⟩
  · have s1 := neq_self .f64 a
    rw [h1] at s1
    have s2 := neq_self .f64 b
    rw [h2] at s2
    clear h1 h2
    go_enter Try.func44, Try.ntmps44
    go_wp2_with (refine wpList_arith rfl _ _ _ _ _ rfl rfl _ _ _ rfl rfl ?_; intro r n hr hl)
    go_ret
    exact ⟨ret_bool (by simp), 0, rfl⟩

/-- The law's last comparison of two 32-bit answers. -/
theorem wide_pair {b b' r r' : Nat} (h : FSame .f32 b b') (h1 : FCv .f32 .f64 b r) (h2 : FCv .f32 .f64 b' r') : FSame .f64 r r' := wide_same h h1 h2

set_option maxRecDepth 100000 in
set_option maxHeartbeats 400000 in
theorem l01Same_calls (a b : Nat) (ha : (a : Int) < 4294967296) (hb : (b : Int) < 4294967296) (w : World) : Calls Try.prog 157 #[.float .f32 a, .float .f32 b] w fun e w' => e = .returned (.bool (bitsV a == bitsV b)) ∧ w = w' := by
  go_enter Try.func157, Try.ntmps157
  go_wp2_with (go_at_call 165; refine (l01Bits_calls _ (by with_reducible assumption) _).mono ?_; rintro e w' ⟨rfl, rfl⟩)
  go_ret
  exact ⟨rfl, rfl⟩

theorem ext_f64bits (b : Nat) (w : World) : (callFunc 175 #[.float .f64 b]).run Try.prog w = .ok (.value (.int .u64 b)) w := by
  rw [run_callFunc_extern Try.func175 (by kernel_rfl) (by kernel_rfl) (by kernel_rfl) (e := Extern.MathFloatBits.float64bits) (by kernel_rfl)]; rfl
theorem ext_f64from (n : Int) (w : World) : (callFunc 174 #[.int .u64 n]).run Try.prog w = .ok (.value (.float .f64 n.toNat)) w := by
  rw [run_callFunc_extern Try.func174 (by kernel_rfl) (by kernel_rfl) (by kernel_rfl) (e := Extern.MathFloatBits.float64frombits) (by kernel_rfl)]; rfl

theorem abs_word (b : Nat) (hb : b < 18446744073709551616) : (bits .andNot .u64 (b : Int) 9223372036854775808).toNat = b % 9223372036854775808 := by
  have h := u64_andNot_nat b 9223372036854775808 hb (by omega)
  have e : ((9223372036854775808 : Nat) : Int) = 9223372036854775808 := rfl
  rw [e] at h
  rw [h, Int.toNat_natCast]
  have e2 : (18446744073709551615 - 9223372036854775808 : Nat) = 2 ^ 63 - 1 := rfl
  rw [e2, Nat.and_two_pow_sub_one_eq_mod]

theorem ret_f64 {a b : Nat} (h : a = b) : Ending.returned (.float .f64 a) = .returned (.float .f64 b) := by rw [h]

set_option maxRecDepth 100000 in
set_option maxHeartbeats 400000 in
theorem abs_calls (b : Nat) (hb : b < 18446744073709551616) (w : World) : Calls Try.prog 172 #[.float .f64 b] w fun e w' => e = .returned (.float .f64 (b % 9223372036854775808)) ∧ w = w' := by
  have h1 := ext_f64bits b
  have h2 := ext_f64from
  have HB := Frame.hid hb
  clear hb
  go_enter Try.func172, Try.ntmps172
  go_wp2
  go_ret
  exact ⟨ret_f64 (abs_word b HB.out), rfl⟩

set_option maxRecDepth 100000 in
set_option maxHeartbeats 400000 in
theorem isInf_calls (b : Nat) (hb : b < 18446744073709551616) (w : World) : Calls Try.prog 168 #[.float .f64 b, .int .i64 0] w fun e w' => e = .returned (.bool (isInf .f64 b)) ∧ w = w' := by
  have HB := Frame.hid hb
  clear hb
  go_enter Try.func168, Try.ntmps168
  go_wp2_with (go_at_call 172; refine (abs_calls _ HB.out _).mono ?_; rintro e w' ⟨rfl, rfl⟩)
  go_ret
  exact ⟨ret_bool (abs_gt_max b), rfl⟩

set_option maxRecDepth 100000 in
set_option maxHeartbeats 400000 in
theorem isFiniteWide_calls (b : Nat) (hb : b < 18446744073709551616) (w : World) : Calls Try.prog 162 #[.float .f64 b] w fun e w' => e = .returned (.bool (fin .f64 b)) ∧ ∃ n, w' = w.drewN n := by
  have HB := Frame.hid hb
  clear hb
  have hf := fin_eq .f64 b
  cases hn : isNan .f64 b
  · rw [hn] at hf
    have HF := Frame.hid hf
    have HN := Frame.hid hn
    clear hf hn
    go_enter Try.func162, Try.ntmps162
    go_wp2_with (first | (go_at_call 166; refine (isNaN_calls _ _).mono ?_; rintro e w' ⟨rfl, rfl⟩; rw [HN.out]) | (go_at_call 168; refine (isInf_calls _ HB.out _).mono ?_; rintro e w' ⟨rfl, rfl⟩))
    go_ret
    exact ⟨ret_bool (by rw [HF.out]; rfl), 0, rfl⟩
  · rw [hn] at hf
    have HF := Frame.hid hf
    have HN := Frame.hid hn
    clear hf hn
    go_enter Try.func162, Try.ntmps162
    go_wp2_with (first | (go_at_call 166; refine (isNaN_calls _ _).mono ?_; rintro e w' ⟨rfl, rfl⟩; rw [HN.out]) | (go_at_call 168; refine (isInf_calls _ HB.out _).mono ?_; rintro e w' ⟨rfl, rfl⟩))
    go_ret
    exact ⟨ret_bool (by rw [HF.out]; rfl), 0, rfl⟩

theorem fin_wide {b r : Nat} (h : FCv .f32 .f64 b r) : fin .f64 r = fin .f32 b := by
  rw [fin_eq, fin_eq, isNaN_wide h, isInf_wide h]

theorem lt64 {r : Nat} (h : r < 2 ^ FloatKind.f64.format.width) : r < 18446744073709551616 := h
theorem lt32 {r : Nat} (h : r < 2 ^ FloatKind.f32.format.width) : r < 4294967296 := h

set_option maxRecDepth 100000 in
set_option maxHeartbeats 400000 in
theorem isFinite_calls (b : Nat) (w : World) : Calls Try.prog 148 #[.float .f32 b] w fun e w' => e = .returned (.bool (fin .f32 b)) ∧ ∃ n, w' = w.drewN n := by
  go_enter Try.func148, Try.ntmps148
  go_wp2_with (first | (refine wpList_conv rfl _ _ _ rfl .f32 .f64 (by decide) (.inl rfl) _ rfl (by kernel_rfl) (by kernel_rfl) ?_; intro r n hr hl) | (go_at_call 162; refine (isFiniteWide_calls _ (lt64 hl) _).mono ?_; rintro e w' ⟨rfl, n, rfl⟩))
  go_ret
  exact ⟨ret_bool (fin_wide hr), _, rfl⟩

set_option maxRecDepth 100000 in
set_option maxHeartbeats 400000 in
theorem l01Finite_calls (b : Nat) (w : World) : Calls Try.prog 144 #[.float .f32 b] w fun e w' => e = .returned (.bool (fin .f32 b)) ∧ ∃ n, w' = w.drewN n := by
  go_enter Try.func144, Try.ntmps144
  go_wp2_with (refine wpList_arith rfl _ _ _ _ _ rfl rfl _ _ _ rfl rfl ?_; intro r n hr hl)
  go_ret
  exact ⟨ret_bool (sub_self_zero hr), _, rfl⟩


set_option maxRecDepth 100000 in
set_option maxHeartbeats 400000 in
theorem l00In_calls (n a b : Int) (w : World) : Calls Try.prog 83 #[.int .i64 n, .int .i64 a, .int .i64 b] w fun e w' => e = .returned (.bool (decide (a ≤ n) && decide (n ≤ b))) ∧ w = w' := by
  by_cases h1 : a ≤ n <;> by_cases h2 : n ≤ b
  all_goals
    go_enter Try.func83, Try.ntmps83
    go_wp2
    go_ret
    exact ⟨ret_bool (by simp [h1, h2]), rfl⟩

/-- What FromBits gives. -/
def fromV (n : Int) : Value := if 0 ≤ n ∧ n ≤ 4294967295 then .tuple #[.float .f32 n.toNat, .bool true] else .tuple #[.float .f32 0, .bool false]
theorem fromV_yes {n : Int} (h0 : 0 ≤ n) (h1 : n ≤ 4294967295) : fromV n = .tuple #[.float .f32 n.toNat, .bool true] := if_pos ⟨h0, h1⟩
theorem fromV_no {n : Int} (h : ¬ (0 ≤ n ∧ n ≤ 4294967295)) : fromV n = .tuple #[.float .f32 0, .bool false] := if_neg h

/-- A float comes back, and nothing has changed in memory. -/
def Gives (k : FloatKind) (R : Nat → Prop) (w : World) (e : Ending) (w' : World) : Prop := ∃ r n, e = .returned (.float k r) ∧ R r ∧ r < 2 ^ k.format.width ∧ w' = w.drewN n

set_option maxRecDepth 100000 in
set_option maxHeartbeats 400000 in
theorem narrowNumber_calls (b : Nat) (w : World) : Calls Try.prog 171 #[.float .f64 b] w (Gives .f32 (FCv .f64 .f32 b) w) := by
  go_enter Try.func171, Try.ntmps171
  go_wp2_with (refine wpList_conv rfl _ _ _ rfl .f64 .f32 (by decide) (.inr rfl) _ rfl (by kernel_rfl) (by kernel_rfl) ?_; intro r n hr hl)
  go_ret
  exact ⟨_, _, rfl, hr, hl, rfl⟩

set_option maxRecDepth 100000 in
set_option maxHeartbeats 400000 in
theorem l01Narrow_calls (b : Nat) (w : World) : Calls Try.prog 169 #[.float .f64 b] w (Gives .f32 (FCv .f64 .f32 b) w) := by
  go_enter Try.func169, Try.ntmps169
  go_wp2_with (refine wpList_conv rfl _ _ _ rfl .f64 .f32 (by decide) (.inr rfl) _ rfl (by kernel_rfl) (by kernel_rfl) ?_; intro r n hr hl)
  go_ret
  exact ⟨_, _, rfl, hr, hl, rfl⟩

theorem ext_sqrt (b : Nat) (w : World) : ∃ u n, (callFunc 173 #[.float .f64 b]).run Try.prog w = .ok (.value u) (w.drewN n) ∧ ∃ r, u = .float .f64 r ∧ FSq b r ∧ r < 2 ^ FloatKind.f64.format.width := by
  obtain ⟨r, n, h1, h2, h3⟩ := run_sqrt_any (P := Try.prog) w b
  refine ⟨_, n, ?_, r, rfl, h2, h3⟩
  rw [run_callFunc_extern Try.func173 (by kernel_rfl) (by kernel_rfl) (by kernel_rfl) (e := Extern.MathSqrt.sqrt) (by kernel_rfl), h1]; rfl

set_option maxRecDepth 100000 in
set_option maxHeartbeats 400000 in
theorem sqrt_calls (b : Nat) (w : World) : Calls Try.prog 170 #[.float .f64 b] w (Gives .f64 (FSq b) w) := by
  go_enter Try.func170, Try.ntmps170
  go_wp2_with (refine wpList_ext1 rfl 173 _ _ rfl _ rfl (fun u _ => ∃ r, u = .float .f64 r ∧ FSq b r ∧ r < 2 ^ FloatKind.f64.format.width) (ext_sqrt b _) ?_; rintro u n ⟨r, rfl, hr, hl⟩)
  go_ret
  exact ⟨_, _, rfl, hr, hl, rfl⟩

end Go.Proofs.Ytnbgnaenlbphcaa
