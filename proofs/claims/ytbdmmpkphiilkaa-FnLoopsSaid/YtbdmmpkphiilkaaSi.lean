/-
  Bounds through chains of operations, and what is left of a number without its integer.
  Own work; imports nothing of the program.
-/
import Derived.Test.YtbdmmpkphiilkaaBd
import Derived.Test.YtbdmmpkphiilkaaOr
namespace Go.Proofs.Ytbdmmpkphiilkaa
namespace Fl
open Ieee

/-- A 64-bit word that stands for at most 2^k. -/
def WLe (x : Nat) (k : Int) : Prop := DLe (double.read x) k
def WGe (x : Nat) (k : Int) : Prop := DGe (double.read x) k
theorem WLe.mono {x : Nat} {k l : Int} (h : WLe x k) (hkl : k ≤ l) : WLe x l := DLe.mono h hkl

theorem opp_le {d : Datum} {k : Int} (h : DLe d k) : DLe d.opposite k := by
  obtain ⟨s, m, p, rfl, h⟩ := h
  exact ⟨!s, m, p, rfl, h⟩

theorem FOp.mul_le {x y r : Nat} {a b : Int} (h : FOp .mul .f64 x y r) (hx : WLe x a) (hy : WLe y b) (h1 : -1022 ≤ a + b) (h2 : a + b ≤ 1023) : WLe r (a + b) := by
  obtain ⟨d, hd, hl⟩ := product_le hx hy
  unfold FOp floatBits at h
  simp only at h
  unfold Format.mul at h
  have hf : FloatKind.f64.format = double := rfl
  rw [hf, hd] at h
  have h : r = double.write d := h
  subst h
  exact write_le hl h1 h2
theorem FOp.add_le {x y r : Nat} {a : Int} (h : FOp .add .f64 x y r) (hx : WLe x a) (hy : WLe y a) (h1 : -1022 ≤ a + 1) (h2 : a + 1 ≤ 1023) : WLe r (a + 1) := by
  obtain ⟨d, hd, hl⟩ := sum_le hx hy
  unfold FOp floatBits at h
  simp only at h
  unfold Format.add at h
  have hf : FloatKind.f64.format = double := rfl
  rw [hf, hd] at h
  have h : r = double.write d := h
  subst h
  exact write_le hl h1 h2
theorem FOp.sub_le {x y r : Nat} {a : Int} (h : FOp .sub .f64 x y r) (hx : WLe x a) (hy : WLe y a) (h1 : -1022 ≤ a + 1) (h2 : a + 1 ≤ 1023) : WLe r (a + 1) := by
  obtain ⟨d, hd, hl⟩ := sum_le hx (opp_le hy)
  unfold FOp floatBits at h
  simp only at h
  unfold Format.sub at h
  have hf : FloatKind.f64.format = double := rfl
  rw [hf, hd] at h
  have h : r = double.write d := h
  subst h
  exact write_le hl h1 h2
theorem FOp.quo_le {x y r : Nat} {a c : Int} (h : FOp .quo .f64 x y r) (hx : WLe x a) (hy : WGe y c) (h1 : -1022 ≤ a - c) (h2 : a - c ≤ 1023) : WLe r (a - c) := by
  obtain ⟨d, hd, hl⟩ := quot_le (dg := double.fractionBits + 2) hx hy
  unfold FOp floatBits at h
  simp only at h
  unfold Format.div at h
  have hf : FloatKind.f64.format = double := rfl
  rw [hf, hd] at h
  have h : r = double.write d := h
  subst h
  exact write_le hl h1 h2

theorem WLe.told {x : Nat} {k : Int} (h : WLe x k) (hk : k ≤ 127) : Told x := told_le h hk

/-- A word without its sign. -/
theorem wle_of_rung {x : Nat} {k : Int} (h : ((x % 9223372036854775808 : Nat) : Int) ≤ (k + 1023) * 4503599627370496) (hk1 : -1022 ≤ k) (hk2 : k ≤ 1023) : WLe x k := by
  have es : double.signWeight = 9223372036854775808 := by decide
  have hr := read_rung_le false (x % 9223372036854775808) k h hk1 hk2
  have e : double.word false (x % 9223372036854775808) = x % 9223372036854775808 := rfl
  have ha := read_abs double x
  rw [es] at ha
  rw [e, ha] at hr
  obtain ⟨s, m, p, e1, h1⟩ := hr
  unfold WLe
  cases hx : double.read x with
  | number s' m' p' => rw [hx] at e1; cases e1; exact ⟨_, _, _, rfl, h1⟩
  | infinity s' => rw [hx] at e1; cases e1
  | nan s' t => rw [hx] at e1; cases e1

theorem neg_rung (x : Nat) : Op.negFloat .f64 x % 9223372036854775808 = x % 9223372036854775808 := by
  have e0 : Op.negFloat .f64 x = x ^^^ 2 ^ 63 := rfl
  have e1 : (9223372036854775808 : Nat) = 2 ^ 63 := rfl
  rw [e0, e1, Nat.xor_mod_two_pow, Nat.mod_self, Nat.xor_zero]

/-- The opposite is as great. -/
theorem neg_le {x : Nat} {k : Int} (h : WLe x k) : WLe (Op.negFloat .f64 x) k := by
  have es : double.signWeight = 9223372036854775808 := by decide
  have a1 := read_abs double x
  have a2 := read_abs double (Op.negFloat .f64 x)
  rw [es] at a1 a2
  rw [neg_rung, a1] at a2
  obtain ⟨s, m, p, e, h1⟩ := h
  rw [e] at a2
  unfold WLe
  cases hx : double.read (Op.negFloat .f64 x) with
  | number s' m' p' => rw [hx] at a2; cases a2; exact ⟨_, _, _, rfl, h1⟩
  | infinity s' => rw [hx] at a2; cases a2
  | nan s' t => rw [hx] at a2; cases a2

theorem WLe.not_nan {x : Nat} {k : Int} (h : WLe x k) : isNan .f64 x = false := by
  obtain ⟨s, m, p, e, _⟩ := h
  have e' : FloatKind.f64.format.read x = .number s m p := e
  unfold isNan FloatKind.decode; rw [e']; rfl
theorem WLe.eq {x x' : Nat} {k : Int} (h : WLe x k) (hs : FSame .f64 x x') : x = x' := by
  rcases hs with hs | ⟨h1, _⟩
  · exact hs
  · rw [h.not_nan] at h1; cases h1

/-! ### What is left of a number without its integer -/

theorem cut_down (s : Bool) (n d : Nat) : Toward.zero.cut s n d = n / 2 ^ d := by
  unfold Toward.cut
  simp only [Nat.one_shiftLeft, Bool.toNat_false, Nat.add_zero]
  by_cases h : d ≤ n.log2 + 2
  · rw [Nat.min_eq_left h]
  · rw [Nat.min_eq_right (by omega)]
    by_cases hn : n = 0
    · subst hn; simp
    · have l2 := (two_pow_log n hn).2
      rw [Nat.div_eq_of_lt (Nat.lt_trans l2 (pow_lt_iff.2 (by omega))), Nat.div_eq_of_lt (Nat.lt_trans l2 (pow_lt_iff.2 (by omega)))]

theorem toInt_num (s : Bool) (m : Nat) (e : Int) : (Datum.number s m e).toInt .zero = some (signed s (m * 2 ^ e.toNat / 2 ^ (-e).toNat) 0) := by
  unfold Datum.toInt Datum.integral
  simp only [cut_down, shl_eq]

theorem signed_val (s : Bool) (m u : Nat) : signed s m u = if s then -((m * 2 ^ u : Nat) : Int) else ((m * 2 ^ u : Nat) : Int) := by
  unfold signed; rw [shl_eq]

theorem whole_le {s : Bool} {m : Nat} {e : Int} (h : DLe (.number s m e) 52) : m * 2 ^ e.toNat / 2 ^ (-e).toNat ≤ 4503599627370496 := by
  obtain ⟨s', m', e', he, h⟩ := h
  cases he
  rcases h with h | ⟨j, h1, h2⟩
  · rw [h, Nat.zero_mul, Nat.zero_div]; omega
  · have : m * 2 ^ e.toNat ≤ 4503599627370496 * 2 ^ (-e).toNat := by
      have a1 : (4503599627370496 : Nat) = 2 ^ 52 := rfl
      rw [a1, ← Nat.pow_add]
      refine Nat.le_trans (Nat.mul_le_mul_right _ h1) ?_
      rw [← Nat.pow_add]
      exact pow_le_iff.2 (by omega)
    have h3 := Nat.div_le_div_right (c := 2 ^ (-e).toNat) this
    rwa [Nat.mul_div_cancel _ (pow_pos' _)] at h3

/-- The integer of a number of at most 2^52 is told. -/
theorem int_told {y : Nat} (h : WLe y 52) : ∃ s m e, double.read y = .number s m e ∧ floatToIntVal .f64 y .i64 = some (signed s (m * 2 ^ e.toNat / 2 ^ (-e).toNat) 0) := by
  have h0 := h
  obtain ⟨s, m, e, hy, _⟩ := h
  unfold WLe at h0
  rw [hy] at h0
  have hw := whole_le h0
  refine ⟨s, m, e, hy, ?_⟩
  unfold floatToIntVal
  have hd : FloatKind.f64.decode y = .number s m e := hy
  rw [hd, toInt_num]
  simp only
  have e1 : IntKind.i64.min = -9223372036854775808 := rfl
  have e2 : IntKind.i64.max = 9223372036854775807 := rfl
  generalize m * 2 ^ e.toNat / 2 ^ (-e).toNat = M at *
  rw [if_pos]
  rw [e1, e2, signed_val]
  split <;> simp only [Nat.pow_zero, Nat.mul_one] <;> omega

theorem frac_sum (s : Bool) (m M t : Nat) (e : Int) (hM : M = m * 2 ^ e.toNat / 2 ^ (-e).toNat) : ∃ r, (Datum.number s m e).sum (.number (!s) (M * 2 ^ t) (0 - (t : Int))) = some r ∧ DLe r 0 := by
  refine ⟨_, rfl, _, _, _, rfl, .inr ?_⟩
  generalize hbase : min e (0 - (t : Int)) = base
  refine ⟨(-base).toNat, ?_, by omega⟩
  obtain ⟨a, ha⟩ : ∃ a, (e - base).toNat = a := ⟨_, rfl⟩
  obtain ⟨b, hb⟩ : ∃ b, (0 - (t : Int) - base).toNat = b := ⟨_, rfl⟩
  rw [ha, hb]
  have hB : (-base).toNat = t + b := by omega
  rw [hB]
  have hX : M * 2 ^ t * 2 ^ b = M * 2 ^ (t + b) := by rw [Nat.mul_assoc, ← Nat.pow_add]
  have hdiff : ∃ ρ, m * 2 ^ a = M * 2 ^ (t + b) + ρ ∧ ρ ≤ 2 ^ (t + b) := by
    by_cases he : 0 ≤ e
    · have h1 : (-e).toNat = 0 := by omega
      rw [h1, Nat.pow_zero, Nat.div_one] at hM
      refine ⟨0, ?_, Nat.zero_le _⟩
      rw [hM, Nat.mul_assoc, ← Nat.pow_add, Nat.add_zero]
      congr 2
      omega
    · have h1 : e.toNat = 0 := by omega
      rw [h1, Nat.pow_zero, Nat.mul_one] at hM
      obtain ⟨q, hq⟩ : ∃ q, (-e).toNat = q := ⟨_, rfl⟩
      rw [hq] at hM
      have hdm := Nat.div_add_mod m (2 ^ q)
      rw [← hM] at hdm
      have hlt := Nat.mod_lt m (pow_pos' q)
      have hqa : q + a = t + b := by omega
      refine ⟨m % 2 ^ q * 2 ^ a, ?_, ?_⟩
      · rw [← hqa, Nat.pow_add, ← Nat.mul_assoc, Nat.mul_comm M, ← Nat.add_mul, hdm]
      · rw [← hqa, Nat.pow_add]
        exact Nat.mul_le_mul_right _ (Nat.le_of_lt hlt)
  obtain ⟨ρ, h1, h2⟩ := hdiff
  rw [signed_val, signed_val, hX, h1]
  have h3 : ((M * 2 ^ (t + b) + ρ : Nat) : Int) = ((M * 2 ^ (t + b) : Nat) : Int) + (ρ : Int) := by simp
  rw [h3]
  generalize M * 2 ^ (t + b) = X
  generalize 2 ^ (t + b) = Y at h2
  cases s <;> simp only [Bool.not_false, Bool.not_true, Bool.false_eq_true, if_false, if_true] <;> omega

theorem frac_le {y z f : Nat} {n : Int} (h : WLe y 52) (hn : floatToIntVal .f64 y .i64 = some n) (hz : z = floatOfInt .f64 n) (hf : FOp .sub .f64 y z f) : WLe f 1 := by
  obtain ⟨s, m, e, hy, hv⟩ := int_told h
  rw [hn] at hv
  have hv : n = signed s (m * 2 ^ e.toNat / 2 ^ (-e).toNat) 0 := by simpa using hv
  unfold WLe at h
  rw [hy] at h
  have hw := whole_le h
  generalize hM : m * 2 ^ e.toNat / 2 ^ (-e).toNat = M at *
  have hzz : z = double.nearest (decide (n < 0)) n.natAbs 0 := hz
  by_cases h0 : M = 0
  · -- the integer is nothing
    have hn0 : n = 0 := by rw [hv, h0, signed_val]; split <;> simp
    rw [hn0] at hzz
    have hzr : double.read z = .number false 0 (-1074) := by
      rw [hzz]; exact read_zero double false 0 (by decide)
    have hy1 : WLe y 0 := by
      refine ⟨s, m, e, hy, ?_⟩
      by_cases hm : m = 0
      · exact .inl hm
      · right
        rw [h0] at hM
        have hlt : m * 2 ^ e.toNat < 2 ^ (-e).toNat := by
          rcases Nat.div_eq_zero_iff.1 hM with h | h
          · have := pow_pos' (-e).toNat; omega
          · exact h
        have hge : m ≤ m * 2 ^ e.toNat := Nat.le_mul_of_pos_right _ (pow_pos' _)
        by_cases he : 0 ≤ e
        · have h1 : (-e).toNat = 0 := by omega
          rw [h1, Nat.pow_zero] at hlt
          omega
        · exact ⟨(-e).toNat, by omega, by omega⟩
    have hz1 : WLe z 0 := ⟨_, _, _, hzr, .inl rfl⟩
    have := FOp.sub_le hf hy1 hz1 (by omega) (by omega)
    exact this
  · have hs : decide (n < 0) = s := by
      rw [hv, signed_val]
      cases s <;> simp <;> omega
    have hna : n.natAbs = M := by
      rw [hv, signed_abs, Nat.pow_zero, Nat.mul_one]
    rw [hs, hna] at hzz
    have hl52 : M.log2 ≤ 52 := log_le_of h0 (by have a1 : (2 : Nat) ^ 52 = 4503599627370496 := rfl; omega)
    have e1 : double.leastPlace = -1074 := by decide
    have e2 : (double.fractionBits : Int) = 52 := rfl
    have e3 : (2 : Int) ^ double.exponentBits = 2048 := by decide
    obtain ⟨t, ht⟩ := nearest_exact double s M 0 h0 (by have a1 : (2 : Nat) ^ (double.fractionBits + 1) = 9007199254740992 := rfl; omega) (by rw [e1]; omega) (by rw [e1, e2, e3]; omega) (by decide)
    rw [← hzz] at ht
    obtain ⟨r, hr, hrl⟩ := frac_sum s m M t e hM.symm
    unfold FOp floatBits at hf
    simp only at hf
    unfold Format.sub at hf
    have hff : FloatKind.f64.format = double := rfl
    rw [hff, hy, ht] at hf
    have hopp : (Datum.number s (M * 2 ^ t) (0 - (t : Int))).opposite = .number (!s) (M * 2 ^ t) (0 - (t : Int)) := rfl
    rw [hopp, hr] at hf
    have hf : f = double.write r := hf
    subst hf
    exact DLe.mono (write_le hrl (by omega) (by omega)) (by omega)

end Fl
end Go.Proofs.Ytbdmmpkphiilkaa
