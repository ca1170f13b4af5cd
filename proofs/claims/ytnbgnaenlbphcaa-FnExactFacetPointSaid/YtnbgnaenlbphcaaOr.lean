/-
  Positive numbers are ordered as their words are; the absolute value; what is finite.
  Own work; imports nothing of the program.
-/
import Derived.Test.YtnbgnaenlbphcaaFx
namespace Go.Proofs.Ytnbgnaenlbphcaa
namespace Fl
open Ieee

/-- The number of a rung, in units of the last place of the smallest number. -/
def V (f : Format) (r : Nat) : Nat := if r < f.binade then r else (f.binade + r % f.binade) * 2 ^ (r / f.binade - 1)

theorem V_lt (f : Format) {a b : Nat} (h : a < b) : V f a < V f b := by
  have hB : 0 < f.binade := Nat.two_pow_pos _
  unfold V
  by_cases ha : a < f.binade
  · rw [if_pos ha]
    by_cases hb : b < f.binade
    · rw [if_pos hb]; exact h
    · rw [if_neg hb]
      have : 1 ≤ 2 ^ (b / f.binade - 1) := Nat.two_pow_pos _
      have h2 : (f.binade + b % f.binade) * 1 ≤ (f.binade + b % f.binade) * 2 ^ (b / f.binade - 1) := Nat.mul_le_mul_left _ this
      omega
  · rw [if_neg ha, if_neg (by omega)]
    have q1 : 1 ≤ a / f.binade := (Nat.le_div_iff_mul_le hB).2 (by omega)
    have ma := Nat.mod_lt a hB
    have da := Nat.div_add_mod a f.binade
    have db := Nat.div_add_mod b f.binade
    have hq : a / f.binade ≤ b / f.binade := Nat.div_le_div_right (Nat.le_of_lt h)
    by_cases he : a / f.binade = b / f.binade
    · rw [he] at da ⊢
      exact Nat.mul_lt_mul_of_pos_right (by omega) (Nat.two_pow_pos _)
    · have h1 : (f.binade + a % f.binade) * 2 ^ (a / f.binade - 1) < (2 * f.binade) * 2 ^ (a / f.binade - 1) := Nat.mul_lt_mul_of_pos_right (by omega) (Nat.two_pow_pos _)
      have h2 : (2 * f.binade) * 2 ^ (a / f.binade - 1) = f.binade * 2 ^ (a / f.binade) := by
        have : a / f.binade = (a / f.binade - 1) + 1 := by omega
        rw [Nat.mul_comm 2, Nat.mul_assoc, Nat.mul_comm 2, ← Nat.pow_succ]
        congr 2
        omega
      have h3 : f.binade * 2 ^ (a / f.binade) ≤ f.binade * 2 ^ (b / f.binade - 1) := Nat.mul_le_mul_left _ ((Nat.pow_le_pow_iff_right (by omega)).2 (by omega))
      have h4 : f.binade * 2 ^ (b / f.binade - 1) ≤ (f.binade + b % f.binade) * 2 ^ (b / f.binade - 1) := Nat.mul_le_mul_right _ (by omega)
      omega

theorem read_pos (f : Format) {r : Nat} (h : r < f.infRung) : ∃ m t : Nat, f.read r = .number false m (f.leastPlace + t) ∧ m * 2 ^ t = V f r := by
  have e : f.word false r = r := rfl
  have hr := read_word f false r (Nat.lt_trans h f.infRung_lt)
  rw [e] at hr
  rw [hr]
  unfold V
  by_cases h1 : r < f.binade
  · rw [if_pos h1, if_pos h1]
    exact ⟨r, 0, by simp, by simp⟩
  · rw [if_neg h1, if_pos h, if_neg h1]
    exact ⟨_, _, rfl, rfl⟩

theorem cmp_lt {a b : Int} (h : a < b) : compare a b = .lt := by simp [compare, compareOfLessAndEq, h]
theorem cmp_gt {a b : Int} (h : b < a) : compare a b = .gt := by
  have h1 : ¬ a < b := by omega
  have h2 : ¬ a = b := by omega
  simp [compare, compareOfLessAndEq, h1, h2]

theorem scaled (m t k : Nat) (h : k ≤ t) : m * 2 ^ (t - k) * 2 ^ k = m * 2 ^ t := by
  rw [Nat.mul_assoc, ← Nat.pow_add, Nat.sub_add_cancel h]

theorem order_pos_lt (l : Int) {m t n u : Nat} (h : m * 2 ^ t < n * 2 ^ u) : (Datum.number false m (l + t)).order (.number false n (l + u)) = some .lt := by
  unfold Datum.order
  simp only
  congr 1
  obtain ⟨k, hk⟩ : ∃ k, min t u = k := ⟨_, rfl⟩
  have e1 : (l + (t : Int) - min (l + (t : Int)) (l + (u : Int))).toNat = t - k := by omega
  have e2 : (l + (u : Int) - min (l + (t : Int)) (l + (u : Int))).toNat = u - k := by omega
  rw [e1, e2]
  simp only [signed, Bool.false_eq_true, if_false, shl_eq]
  refine cmp_lt ?_
  have h1 := scaled m t k (by omega)
  have h2 := scaled n u k (by omega)
  rw [← h1, ← h2] at h
  exact Int.ofNat_lt.2 (Nat.lt_of_mul_lt_mul_right h)

theorem order_pos_gt (l : Int) {m t n u : Nat} (h : n * 2 ^ u < m * 2 ^ t) : (Datum.number false m (l + t)).order (.number false n (l + u)) = some .gt := by
  unfold Datum.order
  simp only
  congr 1
  obtain ⟨k, hk⟩ : ∃ k, min t u = k := ⟨_, rfl⟩
  have e1 : (l + (t : Int) - min (l + (t : Int)) (l + (u : Int))).toNat = t - k := by omega
  have e2 : (l + (u : Int) - min (l + (t : Int)) (l + (u : Int))).toNat = u - k := by omega
  rw [e1, e2]
  simp only [signed, Bool.false_eq_true, if_false, shl_eq]
  refine cmp_gt ?_
  have h1 := scaled m t k (by omega)
  have h2 := scaled n u k (by omega)
  rw [← h1, ← h2] at h
  exact Int.ofNat_lt.2 (Nat.lt_of_mul_lt_mul_right h)

/-- Positive finite numbers are ordered as their words. -/
theorem order_words_lt (f : Format) {a b : Nat} (h : a < b) (hb : b < f.infRung) : f.order a b = some .lt := by
  obtain ⟨m, t, e1, v1⟩ := read_pos f (Nat.lt_trans h hb)
  obtain ⟨n, u, e2, v2⟩ := read_pos f hb
  unfold Format.order
  rw [e1, e2]
  exact order_pos_lt _ (by rw [v1, v2]; exact V_lt f h)
theorem order_words_gt (f : Format) {a b : Nat} (h : b < a) (ha : a < f.infRung) : f.order a b = some .gt := by
  obtain ⟨m, t, e1, v1⟩ := read_pos f ha
  obtain ⟨n, u, e2, v2⟩ := read_pos f (Nat.lt_trans h ha)
  unfold Format.order
  rw [e1, e2]
  exact order_pos_gt _ (by rw [v1, v2]; exact V_lt f h)

/-- The word without its sign. -/
theorem read_abs (f : Format) (b : Nat) : f.read (b % f.signWeight) = (match f.read b with | .number _ m p => .number false m p | .infinity _ => .infinity false | .nan _ t => .nan false t) := by
  have hs : 0 < f.signWeight := Nat.two_pow_pos _
  have e1 : b % f.signWeight / f.signWeight % 2 = 0 := by rw [Nat.div_eq_of_lt (Nat.mod_lt _ hs)]
  have e2 : b % f.signWeight % f.signWeight = b % f.signWeight := Nat.mod_mod _ _
  unfold Format.read
  simp only [e1, e2]
  split
  · rfl
  · split
    · rfl
    · split <;> rfl

/-- Whether a word is a finite number. -/
def fin (k : FloatKind) (b : Nat) : Bool := match k.format.read b with | .number .. => true | _ => false
def isInf (k : FloatKind) (b : Nat) : Bool := match k.format.read b with | .infinity _ => true | _ => false

theorem fin_eq (k : FloatKind) (b : Nat) : fin k b = (!isNan k b && !isInf k b) := by
  unfold fin isNan isInf FloatKind.decode
  cases k.format.read b <;> rfl

/-- 'Abs(x) > MaxFloat64': x is an infinity. -/
theorem abs_gt_max (b : Nat) : (FloatKind.f64.format.order (b % 9223372036854775808) 9218868437227405311 == some Ordering.gt) = isInf .f64 b := by
  have es : double.signWeight = 9223372036854775808 := by decide
  have ei : double.infRung = 9218868437227405312 := by decide
  have hra := read_abs double b
  rw [es] at hra
  have hf : FloatKind.f64.format = double := rfl
  unfold isInf
  rw [hf]
  have hmax : ∃ m p, double.read 9218868437227405311 = .number false m p := by
    obtain ⟨m, t, e, _⟩ := read_pos double (r := 9218868437227405311) (by rw [ei]; omega)
    exact ⟨_, _, e⟩
  obtain ⟨mm, mp, hm⟩ := hmax
  cases hb : double.read b with
  | number s m p =>
    rw [hb] at hra
    simp only at hra
    have hlt : b % 9223372036854775808 < 9218868437227405312 := by
      have hr := read_word double false (b % 9223372036854775808) (by rw [es]; exact Nat.mod_lt _ (by omega))
      have e : double.word false (b % 9223372036854775808) = b % 9223372036854775808 := rfl
      rw [e, hra, ei] at hr
      by_cases h : b % 9223372036854775808 < 9218868437227405312
      · exact h
      · have eb : double.binade = 4503599627370496 := by decide
        rw [eb, if_neg (by omega), if_neg h] at hr
        by_cases hq : b % 9223372036854775808 = 9218868437227405312
        · rw [if_pos hq] at hr; cases hr
        · rw [if_neg hq] at hr; cases hr
    by_cases he : b % 9223372036854775808 = 9218868437227405311
    · have := order_self .f64 9218868437227405311
      rw [hf] at this
      rw [he, this]
      split <;> rfl
    · rw [order_words_lt double (a := b % 9223372036854775808) (b := 9218868437227405311) (by omega) (by rw [ei]; omega)]
      rfl
  | infinity s =>
    rw [hb] at hra
    unfold Format.order
    rw [hra, hm]
    rfl
  | nan s t =>
    rw [hb] at hra
    unfold Format.order
    rw [hra]
    rfl

/-- What is taken from itself is zero, if it is finite alone. -/
theorem sub_self_zero {k : FloatKind} {x r : Nat} (h : FOp .sub k x x r) : (k.format.order r 0 == some Ordering.eq) = fin k x := by
  unfold FOp floatBits at h
  unfold fin
  simp only at h
  unfold Format.sub at h
  cases hx : k.format.read x with
  | nan s t =>
    rw [hx] at h
    have h : isNan k r = true := h
    rw [order_nan_left h]; rfl
  | infinity s =>
    rw [hx] at h
    have h : isNan k r = true := by
      simp only [Datum.opposite, Datum.sum] at h
      cases s <;> exact h
    rw [order_nan_left h]; rfl
  | number s m p =>
    rw [hx] at h
    simp only [Datum.opposite, Datum.sum, Option.map_some] at h
    have hz : signed s m (p - min p p).toNat + signed (!s) m (p - min p p).toNat = 0 := by
      cases s <;> simp [signed] <;> omega
    rw [hz] at h
    have h : r = k.format.nearest (s && !s) 0 (min p p) := h
    have hr : k.format.read r = .number (s && !s) 0 k.format.leastPlace := by
      rw [h]; exact read_zero _ _ _ (Nat.two_pow_pos _)
    have h0 : k.format.read 0 = .number false 0 k.format.leastPlace := by
      have := read_word k.format false 0 (Nat.two_pow_pos _)
      have e : k.format.word false 0 = 0 := rfl
      have hbp : 0 < k.format.binade := Nat.two_pow_pos _
      rw [e, if_pos hbp] at this
      exact this
    unfold Format.order
    rw [hr, h0]
    have : ∀ g : Bool, ((Datum.number g 0 k.format.leastPlace).order (.number false 0 k.format.leastPlace) == some Ordering.eq) = true := by
      intro g
      cases g <;> simp [Datum.order, signed, compare, compareOfLessAndEq]
    exact this _

theorem isInf_wide {b r : Nat} (h : FCv .f32 .f64 b r) : isInf .f64 r = isInf .f32 b := by
  rcases wide_read h with ⟨h1, h2⟩ | ⟨s, h1, h2⟩ | ⟨s, m, e, h1, _, _, _, t, p, h2, _⟩
  · obtain ⟨_, _, e1⟩ := decode_nan h1
    obtain ⟨_, _, e2⟩ := decode_nan h2
    unfold isInf; rw [e1, e2]
  · have e1 : FloatKind.f32.format.read b = .infinity s := h1
    have e2 : FloatKind.f64.format.read r = .infinity s := h2
    unfold isInf; rw [e1, e2]
  · have e1 : FloatKind.f32.format.read b = .number s m e := h1
    have e2 : FloatKind.f64.format.read r = .number s (m * 2 ^ t) p := h2
    unfold isInf; rw [e1, e2]

end Fl
end Go.Proofs.Ytnbgnaenlbphcaa
