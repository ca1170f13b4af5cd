/-
  What the functions on single numbers give, walked: bits, sameness of floats, finiteness.
-/
import Derived.Test.YtbdmmpkphiilkaaRows
import Derived.Test.YtbdmmpkphiilkaaOr
import Derived.Test.YtbdmmpkphiilkaaFrame
import Derived.WalkKit
import Derived.WalkLawsBesides
import Derived.Deep.QuietTactic
import Derived.BigQuiet
namespace Go.Proofs.Ytbdmmpkphiilkaa
open Go.RowKit Fl

/-- The bits of a number, all not-a-numbers being one. -/
def bitsV (b : Nat) : Int := if isNan .f32 b = true then 2143289344 else (b : Int)
theorem bitsV_nan {b : Nat} (h : isNan .f32 b = true) : bitsV b = 2143289344 := if_pos h
theorem bitsV_num {b : Nat} (h : isNan .f32 b = false) : bitsV b = b := if_neg (by simp [h])

theorem neq_self (k : FloatKind) (b : Nat) : (k.format.order b b != some Ordering.eq) = isNan k b := by
  rw [order_self]
  cases isNan k b <;> rfl
theorem eql_self (k : FloatKind) (b : Nat) : (k.format.order b b == some Ordering.eq) = !isNan k b := by
  rw [order_self]
  cases isNan k b <;> rfl
theorem ret_bool {a b : Bool} (h : a = b) : Ending.returned (.bool a) = .returned (.bool b) := by rw [h]

theorem ext_f32from (n : Int) (w : World) : (callFunc 105 #[.int .u32 n]).run Try.prog w = .ok (.value (.float .f32 n.toNat)) w := by
  rw [run_callFunc_extern Try.func105 (by kernel_rfl) (by kernel_rfl) (by kernel_rfl) (e := Extern.MathFloatBits.float32frombits) (by kernel_rfl)]; rfl

set_option maxRecDepth 100000 in
set_option maxHeartbeats 400000 in
theorem isNaN_calls (b : Nat) (w : World) : Calls Try.prog 113 #[.float .f64 b] w fun e w' => e = .returned (.bool (isNan .f64 b)) ∧ w = w' := by
  go_enter Try.func113, Try.ntmps113
  go_wp2
  go_ret
  exact ⟨ret_bool (neq_self .f64 b), rfl⟩

theorem isNaN_wide {b r : Nat} (h : FCv .f32 .f64 b r) : isNan .f64 r = isNan .f32 b := by
  rcases wide_read h with ⟨h1, h2⟩ | ⟨s, h1, h2⟩ | ⟨s, m, e, h1, _, _, _, t, p, h2, _⟩
  · rw [h1, h2]
  · have e1 : FloatKind.f32.format.read b = .infinity s := h1
    have e2 : FloatKind.f64.format.read r = .infinity s := h2
    unfold isNan FloatKind.decode; rw [e1, e2]
  · have e1 : FloatKind.f32.format.read b = .number s m e := h1
    have e2 : FloatKind.f64.format.read r = .number s (m * 2 ^ t) p := h2
    unfold isNan FloatKind.decode; rw [e1, e2]; rfl

/-- The law's last comparison of two 32-bit answers. -/
theorem wide_pair {b b' r r' : Nat} (h : FSame .f32 b b') (h1 : FCv .f32 .f64 b r) (h2 : FCv .f32 .f64 b' r') : FSame .f64 r r' := wide_same h h1 h2

theorem ext_f64bits (b : Nat) (w : World) : (callFunc 120 #[.float .f64 b]).run Try.prog w = .ok (.value (.int .u64 b)) w := by
  rw [run_callFunc_extern Try.func120 (by kernel_rfl) (by kernel_rfl) (by kernel_rfl) (e := Extern.MathFloatBits.float64bits) (by kernel_rfl)]; rfl
theorem ext_f64from (n : Int) (w : World) : (callFunc 119 #[.int .u64 n]).run Try.prog w = .ok (.value (.float .f64 n.toNat)) w := by
  rw [run_callFunc_extern Try.func119 (by kernel_rfl) (by kernel_rfl) (by kernel_rfl) (e := Extern.MathFloatBits.float64frombits) (by kernel_rfl)]; rfl

theorem abs_word (b : Nat) (hb : b < 18446744073709551616) : (bits .andNot .u64 (b : Int) 9223372036854775808).toNat = b % 9223372036854775808 := by
  have h := u64_andNot_nat b 9223372036854775808 hb (by omega)
  have e : ((9223372036854775808 : Nat) : Int) = 9223372036854775808 := rfl
  rw [e] at h
  rw [h, Int.toNat_natCast]
  have e2 : (18446744073709551615 - 9223372036854775808 : Nat) = 2 ^ 63 - 1 := rfl
  rw [e2, Nat.and_two_pow_sub_one_eq_mod]

theorem ret_f64 {a b : Nat} (h : a = b) : Ending.returned (.float .f64 a) = .returned (.float .f64 b) := by rw [h]

set_option maxRecDepth 100000 in
set_option maxHeartbeats 400000 in
theorem abs_calls (b : Nat) (hb : b < 18446744073709551616) (w : World) : Calls Try.prog 108 #[.float .f64 b] w fun e w' => e = .returned (.float .f64 (b % 9223372036854775808)) ∧ w = w' := by
  have h1 := ext_f64bits b
  have h2 := ext_f64from
  have HB := Frame.hid hb
  clear hb
  go_enter Try.func108, Try.ntmps108
  go_wp2
  go_ret
  exact ⟨ret_f64 (abs_word b HB.out), rfl⟩

set_option maxRecDepth 100000 in
set_option maxHeartbeats 400000 in
theorem isInf_calls (b : Nat) (hb : b < 18446744073709551616) (w : World) : Calls Try.prog 114 #[.float .f64 b, .int .i64 0] w fun e w' => e = .returned (.bool (isInf .f64 b)) ∧ w = w' := by
  have HB := Frame.hid hb
  clear hb
  go_enter Try.func114, Try.ntmps114
  go_wp2_with (go_at_call 108; refine (abs_calls _ HB.out _).mono ?_; rintro e w' ⟨rfl, rfl⟩)
  go_ret
  exact ⟨ret_bool (abs_gt_max b), rfl⟩

set_option maxRecDepth 100000 in
set_option maxHeartbeats 400000 in
theorem isFiniteWide_calls (b : Nat) (hb : b < 18446744073709551616) (w : World) : Calls Try.prog 95 #[.float .f64 b] w fun e w' => e = .returned (.bool (fin .f64 b)) ∧ ∃ n, w' = w.drewN n := by
  have HB := Frame.hid hb
  clear hb
  have hf := fin_eq .f64 b
  cases hn : isNan .f64 b
  · rw [hn] at hf
    have HF := Frame.hid hf
    have HN := Frame.hid hn
    clear hf hn
    go_enter Try.func95, Try.ntmps95
    go_wp2_with (first | (go_at_call 113; refine (isNaN_calls _ _).mono ?_; rintro e w' ⟨rfl, rfl⟩; rw [HN.out]) | (go_at_call 114; refine (isInf_calls _ HB.out _).mono ?_; rintro e w' ⟨rfl, rfl⟩))
    go_ret
    exact ⟨ret_bool (by rw [HF.out]; rfl), 0, rfl⟩
  · rw [hn] at hf
    have HF := Frame.hid hf
    have HN := Frame.hid hn
    clear hf hn
    go_enter Try.func95, Try.ntmps95
    go_wp2_with (first | (go_at_call 113; refine (isNaN_calls _ _).mono ?_; rintro e w' ⟨rfl, rfl⟩; rw [HN.out]) | (go_at_call 114; refine (isInf_calls _ HB.out _).mono ?_; rintro e w' ⟨rfl, rfl⟩))
    go_ret
    exact ⟨ret_bool (by rw [HF.out]; rfl), 0, rfl⟩

theorem fin_wide {b r : Nat} (h : FCv .f32 .f64 b r) : fin .f64 r = fin .f32 b := by
  rw [fin_eq, fin_eq, isNaN_wide h, isInf_wide h]

theorem lt64 {r : Nat} (h : r < 2 ^ FloatKind.f64.format.width) : r < 18446744073709551616 := h
theorem lt32 {r : Nat} (h : r < 2 ^ FloatKind.f32.format.width) : r < 4294967296 := h

set_option maxRecDepth 100000 in
set_option maxHeartbeats 400000 in
theorem isFinite_calls (b : Nat) (w : World) : Calls Try.prog 58 #[.float .f32 b] w fun e w' => e = .returned (.bool (fin .f32 b)) ∧ ∃ n, w' = w.drewN n := by
  go_enter Try.func58, Try.ntmps58
  go_wp2_with (first | (refine wpList_conv rfl _ _ _ rfl .f32 .f64 (by decide) (.inl rfl) _ rfl (by kernel_rfl) (by kernel_rfl) ?_; intro r n hr hl) | (go_at_call 95; refine (isFiniteWide_calls _ (lt64 hl) _).mono ?_; rintro e w' ⟨rfl, n, rfl⟩))
  go_ret
  exact ⟨ret_bool (fin_wide hr), _, rfl⟩

set_option maxRecDepth 100000 in
set_option maxHeartbeats 400000 in
theorem l01Finite_calls (b : Nat) (w : World) : Calls Try.prog 97 #[.float .f32 b] w fun e w' => e = .returned (.bool (fin .f32 b)) ∧ ∃ n, w' = w.drewN n := by
  go_enter Try.func97, Try.ntmps97
  go_wp2_with (refine wpList_arith rfl _ _ _ _ _ rfl rfl _ _ _ rfl rfl ?_; intro r n hr hl)
  go_ret
  exact ⟨ret_bool (sub_self_zero hr), _, rfl⟩


set_option maxRecDepth 100000 in
set_option maxHeartbeats 400000 in
theorem l01From_calls (n : Int) (h0 : 0 ≤ n) (h1 : n ≤ 4294967295) (w : World) : Calls Try.prog 76 #[.int .i64 n] w fun e w' => e = .returned (.float .f32 n.toNat) ∧ w = w' := by
  have hx := ext_f32from
  go_enter Try.func76, Try.ntmps76
  go_wp2
  go_ret
  exact ⟨rfl, rfl⟩

/-- What FromBits gives. -/
def fromV (n : Int) : Value := if 0 ≤ n ∧ n ≤ 4294967295 then .tuple #[.float .f32 n.toNat, .bool true] else .tuple #[.float .f32 0, .bool false]
theorem fromV_yes {n : Int} (h0 : 0 ≤ n) (h1 : n ≤ 4294967295) : fromV n = .tuple #[.float .f32 n.toNat, .bool true] := if_pos ⟨h0, h1⟩
theorem fromV_no {n : Int} (h : ¬ (0 ≤ n ∧ n ≤ 4294967295)) : fromV n = .tuple #[.float .f32 0, .bool false] := if_neg h

/-- A float comes back, and nothing has changed in memory. -/
def Gives (k : FloatKind) (R : Nat → Prop) (w : World) (e : Ending) (w' : World) : Prop := ∃ r n, e = .returned (.float k r) ∧ R r ∧ r < 2 ^ k.format.width ∧ w' = w.drewN n

set_option maxRecDepth 100000 in
set_option maxHeartbeats 400000 in
theorem narrowNumber_calls (b : Nat) (w : World) : Calls Try.prog 81 #[.float .f64 b] w (Gives .f32 (FCv .f64 .f32 b) w) := by
  go_enter Try.func81, Try.ntmps81
  go_wp2_with (refine wpList_conv rfl _ _ _ rfl .f64 .f32 (by decide) (.inr rfl) _ rfl (by kernel_rfl) (by kernel_rfl) ?_; intro r n hr hl)
  go_ret
  exact ⟨_, _, rfl, hr, hl, rfl⟩

set_option maxRecDepth 100000 in
set_option maxHeartbeats 400000 in
theorem l01Narrow_calls (b : Nat) (w : World) : Calls Try.prog 78 #[.float .f64 b] w (Gives .f32 (FCv .f64 .f32 b) w) := by
  go_enter Try.func78, Try.ntmps78
  go_wp2_with (refine wpList_conv rfl _ _ _ rfl .f64 .f32 (by decide) (.inr rfl) _ rfl (by kernel_rfl) (by kernel_rfl) ?_; intro r n hr hl)
  go_ret
  exact ⟨_, _, rfl, hr, hl, rfl⟩

theorem ext_sqrt (b : Nat) (w : World) : ∃ u n, (callFunc 107 #[.float .f64 b]).run Try.prog w = .ok (.value u) (w.drewN n) ∧ ∃ r, u = .float .f64 r ∧ FSq b r ∧ r < 2 ^ FloatKind.f64.format.width := by
  obtain ⟨r, n, h1, h2, h3⟩ := run_sqrt_any (P := Try.prog) w b
  refine ⟨_, n, ?_, r, rfl, h2, h3⟩
  rw [run_callFunc_extern Try.func107 (by kernel_rfl) (by kernel_rfl) (by kernel_rfl) (e := Extern.MathSqrt.sqrt) (by kernel_rfl), h1]; rfl

set_option maxRecDepth 100000 in
set_option maxHeartbeats 400000 in
theorem sqrt_calls (b : Nat) (w : World) : Calls Try.prog 82 #[.float .f64 b] w (Gives .f64 (FSq b) w) := by
  go_enter Try.func82, Try.ntmps82
  go_wp2_with (refine wpList_ext1 rfl 107 _ _ rfl _ rfl (fun u _ => ∃ r, u = .float .f64 r ∧ FSq b r ∧ r < 2 ^ FloatKind.f64.format.width) (ext_sqrt b _) ?_; rintro u n ⟨r, rfl, hr, hl⟩)
  go_ret
  exact ⟨_, _, rfl, hr, hl, rfl⟩

end Go.Proofs.Ytbdmmpkphiilkaa
