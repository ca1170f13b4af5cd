/-
  Subnormal numbers: told by bits on one side, by size on the other; and flushed.
-/
import Derived.Test.YtnflmdlhcjjfdadGreatDoorSc
import Derived.Test.YtnflmdlhcjjfdadGreatDoorBd
namespace Go.Proofs.YtnflmdlhcjjfdadGreatDoor
open Go.RowKit Fl Ieee

theorem i64_and_nat' (a b : Nat) (ha : a < 4611686018427387904) (hb : b < 4611686018427387904) : bits .and .i64 (a : Int) (b : Int) = ((a &&& b : Nat) : Int) := by
  have hx : a &&& b ≤ a := Nat.and_le_left
  show IntKind.i64.wrap ((BitVec.ofInt 64 (a : Int) &&& BitVec.ofInt 64 (b : Int)).toNat : Int) = _
  rw [BitVec.toNat_and, ofInt_u64 a (by omega), ofInt_u64 b (by omega), IntKind.wrap_i64]
  omega

theorem mask_exp (b : Nat) (hb : b < 4294967296) : bits .and .i64 (b : Int) 2139095040 = ((b % 2147483648 / 8388608 * 8388608 : Nat) : Int) := by
  have h := i64_and_nat' b 2139095040 (by omega) (by omega)
  have e : ((2139095040 : Nat) : Int) = 2139095040 := rfl
  rw [e] at h
  rw [h]
  have h2 := nat_midmask 31 23 b (by omega)
  have e1 : (2 ^ 31 - 2 ^ 23 : Nat) = 2139095040 := rfl
  have e2 : (2 ^ 31 : Nat) = 2147483648 := rfl
  have e3 : (2 ^ 23 : Nat) = 8388608 := rfl
  rw [e1, e2, e3] at h2
  rw [h2]
theorem mask_sign (b : Nat) (hb : b < 4294967296) : bits .and .i64 (b : Int) 2147483648 = ((b / 2147483648 * 2147483648 : Nat) : Int) := by
  have h := i64_and_nat' b 2147483648 (by omega) (by omega)
  have e : ((2147483648 : Nat) : Int) = 2147483648 := rfl
  rw [e] at h
  rw [h]
  have h2 := nat_midmask 32 31 b (by omega)
  have e1 : (2 ^ 32 - 2 ^ 31 : Nat) = 2147483648 := rfl
  have e2 : (2 ^ 31 : Nat) = 2147483648 := rfl
  have e3 : (2 ^ 32 : Nat) = 4294967296 := rfl
  rw [e1, e2, e3, Nat.mod_eq_of_lt hb] at h2
  rw [h2]

theorem neg_read (f : Format) (w : Nat) : (f.read w).neg = (w / f.signWeight % 2 == 1) := by
  unfold Format.read
  simp only
  split
  · rfl
  · split
    · rfl
    · split <;> rfl

/-- Of which of three kinds a 32-bit word is: a zero, a subnormal number, another. -/
theorem kinds (b : Nat) : (b % 2147483648 = 0 ∧ ∃ s, single.read b = .number s 0 (-149)) ∨
    ((0 < b % 2147483648 ∧ b % 2147483648 < 8388608) ∧ ∃ s, single.read b = .number s (b % 2147483648) (-149)) ∨
    (8388608 ≤ b % 2147483648 ∧ ((∃ s m, ∃ ε : Nat, single.read b = .number s m (-149 + ε) ∧ 8388608 ≤ m) ∨ (∃ s, single.read b = .infinity s) ∨ ∃ s t, single.read b = .nan s t)) := by
  have e1 : single.signWeight = 2147483648 := by decide
  have e2 : single.binade = 8388608 := by decide
  have e3 : single.infRung = 2139095040 := by decide
  have e4 : single.leastPlace = -149 := by decide
  unfold Format.read
  simp only [e1, e2, e3, e4]
  generalize b % 2147483648 = g
  by_cases h1 : g < 8388608
  · rw [if_pos h1]
    by_cases h0 : g = 0
    · exact .inl ⟨h0, _, by rw [h0]⟩
    · exact .inr (.inl ⟨⟨by omega, h1⟩, _, rfl⟩)
  · rw [if_neg h1]
    refine .inr (.inr ⟨by omega, ?_⟩)
    by_cases h2 : g < 2139095040
    · rw [if_pos h2]
      exact .inl ⟨_, _, _, rfl, by omega⟩
    · rw [if_neg h2]
      by_cases h3 : g = 2139095040
      · rw [if_pos h3]; exact .inr (.inl ⟨_, rfl⟩)
      · rw [if_neg h3]; exact .inr (.inr ⟨_, _, rfl⟩)

theorem read_zero32 : single.read 0 = .number false 0 (-149) := by decide
theorem cmp_ne {a : Int} (h : a ≠ 0) : compare a 0 ≠ .eq := by
  rcases Int.lt_or_gt_of_ne h with h | h
  · rw [cmp_lt h]; decide
  · rw [cmp_gt h]; decide
theorem signed_zero (s : Bool) (u : Nat) : signed s 0 u = 0 := by cases s <;> simp [signed]
theorem signed_ne {s : Bool} {m : Nat} (u : Nat) (h : m ≠ 0) : signed s m u ≠ 0 := by
  have hp : 0 < m <<< u := by rw [shl_eq]; exact Nat.mul_pos (by omega) (Nat.two_pow_pos _)
  cases s <;> simp only [signed, Bool.false_eq_true, if_false, if_true] <;> omega

theorem ne_zero {b : Nat} {s : Bool} {m : Nat} {e : Int} (h : single.read b = .number s m e) (hm : m ≠ 0) : (FloatKind.f32.format.order b 0 != some Ordering.eq) = true := by
  have hf : FloatKind.f32.format = single := rfl
  rw [hf]
  unfold Format.order
  rw [h, read_zero32]
  simp only [Datum.order, signed_zero, bne_iff_ne, ne_eq, Option.some.injEq]
  exact cmp_ne (signed_ne _ hm)
theorem eq_zero {b : Nat} {s : Bool} (h : single.read b = .number s 0 (-149)) : (FloatKind.f32.format.order b 0 != some Ordering.eq) = false := by
  have hf : FloatKind.f32.format = single := rfl
  rw [hf]
  unfold Format.order
  rw [h, read_zero32]
  simp only [Datum.order, signed_zero]
  decide
theorem ne_zero_high {b : Nat} (h : (∃ s m, ∃ ε : Nat, single.read b = .number s m (-149 + ε) ∧ 8388608 ≤ m) ∨ (∃ s, single.read b = .infinity s) ∨ ∃ s t, single.read b = .nan s t) : (FloatKind.f32.format.order b 0 != some Ordering.eq) = true := by
  rcases h with ⟨s, m, ε, h, hm⟩ | ⟨s, h⟩ | ⟨s, t, h⟩
  · exact ne_zero h (by omega)
  · have hf : FloatKind.f32.format = single := rfl
    rw [hf]; unfold Format.order; rw [h, read_zero32]; cases s <;> rfl
  · have hf : FloatKind.f32.format = single := rfl
    rw [hf]; unfold Format.order; rw [h, read_zero32]; rfl

theorem read_tiny : double.read 4039728865751334912 = .number false 4503599627370496 (-178) := by decide +kernel

theorem order_pos_not_lt (l : Int) {m t n u : Nat} (h : n * 2 ^ u ≤ m * 2 ^ t) : ((Datum.number false m (l + t)).order (.number false n (l + u)) == some .lt) = false := by
  rcases Nat.lt_or_eq_of_le h with h | h
  · rw [order_pos_gt l h]; rfl
  · unfold Datum.order
    simp only
    obtain ⟨k, hk⟩ : ∃ k, min t u = k := ⟨_, rfl⟩
    have e1 : (l + (t : Int) - min (l + (t : Int)) (l + (u : Int))).toNat = t - k := by omega
    have e2 : (l + (u : Int) - min (l + (t : Int)) (l + (u : Int))).toNat = u - k := by omega
    rw [e1, e2]
    simp only [signed, Bool.false_eq_true, if_false, shl_eq]
    have h1 := scaled m t k (by omega)
    have h2 := scaled n u k (by omega)
    rw [← h1, ← h2] at h
    have h3 : n * 2 ^ (u - k) = m * 2 ^ (t - k) := Nat.eq_of_mul_eq_mul_right (Nat.two_pow_pos k) h
    rw [h3, compare_self]
    rfl

theorem abs64 (y : Nat) {s : Bool} {m : Nat} {p : Int} (h : double.read y = .number s m p) : double.read (y % 9223372036854775808) = .number false m p := by
  have := read_abs double y
  have es : double.signWeight = 9223372036854775808 := by decide
  rw [es, h] at this
  exact this

/-- A subnormal number made wide is nearer to 0 than 2^-126. -/
theorem tiny_yes {b y : Nat} {s : Bool} {m : Nat} (h : FCv .f32 .f64 b y) (hr : single.read b = .number s m (-149)) (h0 : m ≠ 0) (h1 : m < 8388608) : (FloatKind.f64.format.order (y % 9223372036854775808) 4039728865751334912 == some Ordering.lt) = true := by
  rcases wide_read h with ⟨g1, _⟩ | ⟨s', g1, _⟩ | ⟨s', m', e, g1, _, _, _, t, p, g2, g3⟩
  · obtain ⟨_, _, e⟩ := decode_nan g1
    have e : single.read b = _ := e
    rw [hr] at e; cases e
  · rw [hr] at g1; cases g1
  · rw [hr] at g1
    cases g1
    have hp := g3 h0
    have hf : FloatKind.f64.format = double := rfl
    rw [hf]
    unfold Format.order
    rw [abs64 y g2, read_tiny]
    have e1 : p = (-327 - (t : Int)) + (178 : Nat) := by omega
    have e2 : (-178 : Int) = (-327 - (t : Int)) + ((149 + t : Nat) : Int) := by omega
    rw [e1, e2, order_pos_lt]
    · rfl
    · have a1 : (4503599627370496 : Nat) = 2 ^ 52 := rfl
      rw [a1, ← Nat.pow_add, Nat.mul_assoc, ← Nat.pow_add]
      have a2 : m * 2 ^ (t + 178) < 2 ^ 23 * 2 ^ (t + 178) := Nat.mul_lt_mul_of_pos_right (by have : (2 : Nat) ^ 23 = 8388608 := rfl; omega) (Nat.two_pow_pos _)
      rw [← Nat.pow_add] at a2
      have a3 : 23 + (t + 178) = 52 + (149 + t) := by omega
      rw [a3] at a2
      exact a2

theorem tiny_no {b y : Nat} (h : FCv .f32 .f64 b y) (hr : (∃ s m, ∃ ε : Nat, single.read b = .number s m (-149 + ε) ∧ 8388608 ≤ m) ∨ (∃ s, single.read b = .infinity s) ∨ ∃ s t, single.read b = .nan s t) :
    (FloatKind.f64.format.order (y % 9223372036854775808) 4039728865751334912 == some Ordering.lt) = false := by
  have hf : FloatKind.f64.format = double := rfl
  have es : double.signWeight = 9223372036854775808 := by decide
  have hra := read_abs double y
  rw [es] at hra
  rcases wide_read h with ⟨_, g1⟩ | ⟨s', g1, g2⟩ | ⟨s', m', e, g1, _, _, _, t, p, g2, g3⟩
  · obtain ⟨_, _, e⟩ := decode_nan g1
    have e : double.read y = _ := e
    rw [e] at hra
    rw [hf]; unfold Format.order; rw [hra]; rfl
  · rw [g2] at hra
    rw [hf]; unfold Format.order; rw [hra, read_tiny]; rfl
  · rcases hr with ⟨s, m, ε, hr, hm⟩ | ⟨s, hr⟩ | ⟨s, u, hr⟩
    · rw [hr] at g1
      cases g1
      have hp := g3 (by omega)
      rw [hf]
      unfold Format.order
      rw [abs64 y g2, read_tiny]
      have e1 : p = (-327 - (t : Int)) + ((178 + ε : Nat) : Int) := by omega
      have e2 : (-178 : Int) = (-327 - (t : Int)) + ((149 + t : Nat) : Int) := by omega
      rw [e1, e2]
      refine order_pos_not_lt _ ?_
      have a1 : (4503599627370496 : Nat) = 2 ^ 52 := rfl
      rw [a1, ← Nat.pow_add, Nat.mul_assoc, ← Nat.pow_add]
      have a2 : 2 ^ 23 * 2 ^ (t + 178) ≤ m' * 2 ^ (t + (178 + ε)) := Nat.mul_le_mul (by have : (2 : Nat) ^ 23 = 8388608 := rfl; omega) (pow_le_iff.2 (by omega))
      rw [← Nat.pow_add] at a2
      have a3 : 23 + (t + 178) = 52 + (149 + t) := by omega
      rw [a3] at a2
      exact a2
    · rw [hr] at g1; cases g1
    · rw [hr] at g1; cases g1

/-- Whether a word is subnormal. -/
def subV (b : Nat) : Bool := decide (0 < b % 2147483648) && decide (b % 2147483648 < 8388608)
theorem subV_yes {b : Nat} (h1 : 0 < b % 2147483648) (h2 : b % 2147483648 < 8388608) : subV b = true := by unfold subV; rw [decide_eq_true h1, decide_eq_true h2]; rfl
theorem subV_no {b : Nat} (h : b % 2147483648 = 0 ∨ 8388608 ≤ b % 2147483648) : subV b = false := by
  unfold subV
  rcases h with h | h
  · rw [decide_eq_false (by omega : ¬ 0 < b % 2147483648)]; rfl
  · rw [decide_eq_false (by omega : ¬ b % 2147483648 < 8388608), Bool.and_false]

theorem mask_zero {b : Nat} (hb : b < 4294967296) (hn : isNan .f32 b = false) (h : b % 2147483648 < 8388608) : (bits .and .i64 (bitsV b) 2139095040 == 0) = true := by
  rw [bitsV_num hn, mask_exp b hb, Nat.div_eq_of_lt h]; rfl
theorem mask_pos {b : Nat} (hb : b < 4294967296) (h : 8388608 ≤ b % 2147483648) : (bits .and .i64 (bitsV b) 2139095040 == 0) = false := by
  rw [beq_eq_false_iff_ne]
  cases hn : isNan .f32 b
  · rw [bitsV_num hn, mask_exp b hb]
    have : 1 ≤ b % 2147483648 / 8388608 := (Nat.le_div_iff_mul_le (by omega)).2 (by omega)
    omega
  · rw [bitsV_nan hn]
    have e := mask_exp 2143289344 (by omega)
    have e2 : ((2143289344 : Nat) : Int) = 2143289344 := rfl
    rw [e2] at e
    rw [e]
    decide
theorem num_not_nan {b : Nat} {s : Bool} {m : Nat} {e : Int} (h : single.read b = .number s m e) : isNan .f32 b = false := by
  have h' : FloatKind.f32.format.read b = .number s m e := h
  unfold isNan FloatKind.decode; rw [h']; rfl

/-! ### Flushed -/

/-- The zero with the sign of a word. -/
def zeroV (b : Nat) : Nat := b / 2147483648 * 2147483648
/-- What FlushNumber gives. -/
def flushV (b : Nat) : Nat := if b % 2147483648 < 8388608 then zeroV b else b
theorem flushV_low {b : Nat} (h : b % 2147483648 < 8388608) : flushV b = zeroV b := if_pos h
theorem flushV_high {b : Nat} (h : 8388608 ≤ b % 2147483648) : flushV b = b := if_neg (by omega)
theorem flushV_zero {b : Nat} (h : b % 2147483648 = 0) : flushV b = b := by
  rw [flushV_low (by omega)]; unfold zeroV; omega

theorem copy_word (y : Nat) (hy : y < 18446744073709551616) : (bits .or .u64 (bits .andNot .u64 0 9223372036854775808) (bits .and .u64 (y : Int) 9223372036854775808)).toNat = y / 9223372036854775808 * 9223372036854775808 := by
  have e : ((9223372036854775808 : Nat) : Int) = 9223372036854775808 := rfl
  have e0 : ((0 : Nat) : Int) = 0 := rfl
  have h1 := u64_andNot_nat 0 9223372036854775808 (by omega) (by omega)
  rw [e, e0, Nat.zero_and] at h1
  have h2 := u64_and_nat y 9223372036854775808 hy (by omega)
  rw [e] at h2
  have h3 := nat_midmask 64 63 y (by omega)
  have e1 : (2 ^ 64 - 2 ^ 63 : Nat) = 9223372036854775808 := rfl
  have e2 : (2 ^ 63 : Nat) = 9223372036854775808 := rfl
  have e3 : (2 ^ 64 : Nat) = 18446744073709551616 := rfl
  rw [e1, e2, e3, Nat.mod_eq_of_lt hy] at h3
  rw [h3] at h2
  rw [h1, h2]
  have hle : y / 9223372036854775808 * 9223372036854775808 ≤ y := Nat.div_mul_le_self _ _
  have h4 := u64_or_nat 0 (y / 9223372036854775808 * 9223372036854775808) (by omega) (by omega)
  rw [h4, Nat.zero_or, Int.toNat_natCast]

/-- The sign of a number made wide is its sign. -/
theorem wide_sign {b y : Nat} (hb : b < 4294967296) (hy : y < 18446744073709551616) (h : FCv .f32 .f64 b y) (hn : isNan .f32 b = false) : y / 9223372036854775808 = b / 2147483648 := by
  have n1 := neg_read single b
  have n2 := neg_read double y
  have e1 : single.signWeight = 2147483648 := by decide
  have e2 : double.signWeight = 9223372036854775808 := by decide
  rw [e1] at n1
  rw [e2] at n2
  have key : (double.read y).neg = (single.read b).neg := by
    rcases wide_read h with ⟨g1, _⟩ | ⟨s', g1, g2⟩ | ⟨s', m', e, g1, _, _, _, t, p, g2, g3⟩
    · rw [hn] at g1; cases g1
    · rw [g1, g2]
    · rw [g1, g2]; rfl
  rw [n1, n2] at key
  have a1 : y / 9223372036854775808 < 2 := (Nat.div_lt_iff_lt_mul (by omega)).2 (by omega)
  have a2 : b / 2147483648 < 2 := (Nat.div_lt_iff_lt_mul (by omega)).2 (by omega)
  rw [Nat.mod_eq_of_lt a1, Nat.mod_eq_of_lt a2] at key
  generalize y / 9223372036854775808 = u at *
  generalize b / 2147483648 = v at *
  rcases (by omega : u = 0 ∨ u = 1) with rfl | rfl <;> rcases (by omega : v = 0 ∨ v = 1) with rfl | rfl <;> first | rfl | (exact absurd key (by decide))

theorem narrow_pos0 : floatToFloatBits .f64 0 .f32 = some 0 := by kernel_rfl
theorem narrow_neg0 : floatToFloatBits .f64 9223372036854775808 .f32 = some 2147483648 := by kernel_rfl

/-- A zero narrowed is the zero with its sign. -/
theorem narrow_zero0 {r : Nat} (h : FCv .f64 .f32 0 r) : r = 0 := by
  unfold FCv at h
  rw [narrow_pos0] at h
  exact h
theorem narrow_zero1 {r : Nat} (h : FCv .f64 .f32 9223372036854775808 r) : r = 2147483648 := by
  unfold FCv at h
  rw [narrow_neg0] at h
  exact h
theorem narrow_zero {u r : Nat} (hu : u < 2) (h : FCv .f64 .f32 (u * 9223372036854775808) r) : r = u * 2147483648 := by
  rcases (by omega : u = 0 ∨ u = 1) with h0 | h1
  · rw [h0, Nat.zero_mul] at h
    rw [h0, Nat.zero_mul]
    exact narrow_zero0 h
  · rw [h1, Nat.one_mul] at h
    rw [h1, Nat.one_mul]
    exact narrow_zero1 h

end Go.Proofs.YtnflmdlhcjjfdadGreatDoor
