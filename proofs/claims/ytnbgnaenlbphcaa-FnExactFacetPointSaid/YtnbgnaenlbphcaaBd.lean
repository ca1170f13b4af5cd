/-
  Bounds: a number of at most 2^k stays so when it is rounded, and what sums, products, quotients and roots do to bounds.
  Own work; imports nothing of the program.
-/
import Derived.Test.YtnbgnaenlbphcaaFx
namespace Go.Proofs.Ytnbgnaenlbphcaa
namespace Fl
open Ieee

/-- At most 2^k, whatever its sign. -/
def DLe (d : Datum) (k : Int) : Prop := ∃ s m p, d = .number s m p ∧ (m = 0 ∨ ∃ j : Nat, m ≤ 2 ^ j ∧ p + j ≤ k)
/-- At least 2^k, and positive. -/
def DGe (d : Datum) (k : Int) : Prop := ∃ m p, d = .number false m p ∧ ∃ j : Nat, 2 ^ j ≤ m ∧ k ≤ p + j
/-- A number without a minus sign. -/
def DPos (d : Datum) : Prop := ∃ m p, d = .number false m p

theorem DLe.mono {d : Datum} {k l : Int} (h : DLe d k) (hkl : k ≤ l) : DLe d l := by
  obtain ⟨s, m, p, rfl, h⟩ := h
  refine ⟨s, m, p, rfl, ?_⟩
  rcases h with h | ⟨j, h1, h2⟩
  · exact .inl h
  · exact .inr ⟨j, h1, by omega⟩
theorem DGe.mono {d : Datum} {k l : Int} (h : DGe d k) (hkl : l ≤ k) : DGe d l := by
  obtain ⟨m, p, rfl, j, h1, h2⟩ := h
  exact ⟨m, p, rfl, j, h1, by omega⟩
theorem DGe.pos {d : Datum} {k : Int} (h : DGe d k) : DPos d := by
  obtain ⟨m, p, rfl, _⟩ := h
  exact ⟨m, p, rfl⟩

theorem pow_lt_iff {a b : Nat} : (2 : Nat) ^ a < 2 ^ b ↔ a < b := Nat.pow_lt_pow_iff_right (by omega)
theorem pow_le_iff {a b : Nat} : (2 : Nat) ^ a ≤ 2 ^ b ↔ a ≤ b := Nat.pow_le_pow_iff_right (by omega)
theorem pow_pos' (a : Nat) : 0 < (2 : Nat) ^ a := Nat.two_pow_pos a

theorem log_le_of {m j : Nat} (hm : m ≠ 0) (h : m ≤ 2 ^ j) : m.log2 ≤ j := by
  have a := (two_pow_log m hm).1
  exact pow_le_iff.1 (Nat.le_trans a h)
theorem log_ge_of {m j : Nat} (h : 2 ^ j ≤ m) : j ≤ m.log2 := by
  have hm : m ≠ 0 := by have := pow_pos' j; omega
  have a := (two_pow_log m hm).2
  have := pow_lt_iff.1 (Nat.lt_of_le_of_lt h a)
  omega

/-- Cutting digits off leaves at most one more than what is left. -/
theorem cut_le (neg : Bool) (n drop : Nat) : Toward.even.cut neg n drop ≤ n / 2 ^ min drop (n.log2 + 2) + 1 := by
  unfold Toward.cut
  simp only [Nat.one_shiftLeft]
  have : ∀ b : Bool, b.toNat ≤ 1 := by decide
  exact Nat.add_le_add_left (this _) _
theorem cut_ge (neg : Bool) (n drop : Nat) : n / 2 ^ min drop (n.log2 + 2) ≤ Toward.even.cut neg n drop := by
  unfold Toward.cut
  simp only [Nat.one_shiftLeft]
  omega
/-- If all that is cut off is nothing, nothing is added. -/
theorem cut_exact (neg : Bool) (q drop : Nat) : Toward.even.cut neg (q * 2 ^ drop) drop = q := by
  by_cases hq : q = 0
  · subst hq; simp [Toward.cut]
  · have hp := pow_pos' drop
    have hge : 2 ^ drop ≤ q * 2 ^ drop := Nat.le_mul_of_pos_left _ (by omega)
    have hl := log_ge_of hge
    unfold Toward.cut
    rw [Nat.min_eq_left (by omega)]
    simp only [Nat.one_shiftLeft, Nat.mul_mod_left, Nat.mul_div_cancel _ hp]
    simp

/-- Where 'n' is at most 'q * 2 ^ drop', what is cut is at most 'q'. -/
theorem cut_le_of (neg : Bool) (n drop q : Nat) (hq : 1 ≤ q) (h : n ≤ q * 2 ^ drop) : Toward.even.cut neg n drop ≤ q := by
  by_cases hn : n = q * 2 ^ drop
  · rw [hn, cut_exact]; exact Nat.le_refl _
  · have hlt : n < q * 2 ^ drop := by omega
    have h1 := cut_le neg n drop
    by_cases hd : drop ≤ n.log2 + 2
    · rw [Nat.min_eq_left hd] at h1
      have : n / 2 ^ drop < q := (Nat.div_lt_iff_lt_mul (pow_pos' drop)).2 hlt
      omega
    · rw [Nat.min_eq_right (by omega)] at h1
      have hz : n / 2 ^ (n.log2 + 2) = 0 := by
        refine Nat.div_eq_of_lt ?_
        by_cases h0 : n = 0
        · subst h0; exact pow_pos' _
        · have := (two_pow_log n h0).2
          exact Nat.lt_trans this (pow_lt_iff.2 (by omega))
      omega

theorem cut_ge_of (neg : Bool) (n drop q : Nat) (h : q * 2 ^ drop ≤ n) : q ≤ Toward.even.cut neg n drop := by
  by_cases hq : q = 0
  · subst hq; exact Nat.zero_le _
  · have h1 := cut_ge neg n drop
    have hge : 2 ^ drop ≤ n := Nat.le_trans (Nat.le_mul_of_pos_left _ (by omega)) h
    have hl := log_ge_of hge
    rw [Nat.min_eq_left (by omega)] at h1
    exact Nat.le_trans ((Nat.le_div_iff_mul_le (pow_pos' drop)).2 h) h1

abbrev B64 : Nat := 4503599627370496
theorem dl : double.leastPlace = -1074 := by decide
theorem dfr : (double.fractionBits : Int) = 52 := rfl
theorem dbin : double.binade = 4503599627370496 := by decide
theorem dinf : double.infRung = 9218868437227405312 := by decide
theorem p52 : (2 : Nat) ^ 52 = 4503599627370496 := rfl
theorem p53 : (2 : Nat) ^ 53 = 9007199254740992 := rfl

theorem rung_up (last k : Int) (c : Nat) (h1 : -1074 ≤ last) (h2 : (last + 1074) * 4503599627370496 + (c : Int) ≤ (k + 1023) * 4503599627370496) :
    ((min ((last - -1074).toNat * 4503599627370496 + c) 9218868437227405312 : Nat) : Int) ≤ (k + 1023) * 4503599627370496 := by omega
theorem rung_one (last k : Int) (c : Nat) (hc : c ≤ 4503599627370496) (h : last + 1074 + 1 ≤ k + 1023) : (last + 1074) * 4503599627370496 + (c : Int) ≤ (k + 1023) * 4503599627370496 := by omega
theorem rung_two (last k : Int) (c : Nat) (hc : c ≤ 9007199254740992) (h : last + 1074 + 2 ≤ k + 1023) : (last + 1074) * 4503599627370496 + (c : Int) ≤ (k + 1023) * 4503599627370496 := by omega
theorem rung_down (last k : Int) (c : Nat) (h1 : -1074 ≤ last) (hk : k ≤ 1023) (hc : 4503599627370496 ≤ c) (h : k + 1023 ≤ last + 1074 + 1) :
    (k + 1023) * 4503599627370496 ≤ ((min ((last - -1074).toNat * 4503599627370496 + c) 9218868437227405312 : Nat) : Int) := by omega

theorem shift_le {m : Nat} {p last : Int} (e x : Nat) (he : m ≤ 2 ^ e) (hx : p + e ≤ last + x) : m * 2 ^ (p - last).toNat ≤ 2 ^ x * 2 ^ (last - p).toNat := by
  rw [← Nat.pow_add]
  refine Nat.le_trans (Nat.mul_le_mul_right _ he) ?_
  rw [← Nat.pow_add]
  exact pow_le_iff.2 (by omega)

theorem cut_below (neg : Bool) {m : Nat} {p last : Int} (e x : Nat) (he : m ≤ 2 ^ e) (hx : p + e ≤ last + x) :
    Toward.even.cut neg (m <<< (p - last).toNat) (last - p).toNat ≤ 2 ^ x := by
  rw [shl_eq]
  exact cut_le_of neg _ _ _ (pow_pos' x) (shift_le e x he hx)

/-- The rung of a rounded number of at most 2^k. -/
theorem nearest_rung_le (neg : Bool) (m : Nat) (p : Int) (k : Int) (h : m = 0 ∨ ∃ j : Nat, m ≤ 2 ^ j ∧ p + j ≤ k) (hk1 : -1022 ≤ k) :
    ∃ rung, double.nearest neg m p = double.word neg rung ∧ (rung : Int) ≤ (k + 1023) * 4503599627370496 := by
  unfold Format.nearest
  by_cases hm : m = 0
  · rw [if_pos hm]
    exact ⟨0, rfl, by omega⟩
  rw [if_neg hm]
  obtain ⟨j, hj, hpj⟩ := h.resolve_left hm
  refine ⟨_, rfl, ?_⟩
  have hL := log_le_of hm hj
  obtain ⟨l1, l2⟩ := two_pow_log m hm
  simp only [dl, dfr, dbin, dinf]
  generalize hLL : m.log2 = L at *
  obtain ⟨last, hlast⟩ : ∃ last, max (p + (L : Int) - 52) (-1074) = last := ⟨_, rfl⟩
  rw [hlast]
  have hlo : -1074 ≤ last := by omega
  refine rung_up last k _ hlo ?_
  by_cases hs : m = 2 ^ j
  · have hLj : L = j := by
      rw [← hLL, hs, Nat.log2_two_pow]
    subst hLj
    exact rung_one last k _ (cut_below neg L 52 hj (by omega)) (by omega)
  · have hlt : m < 2 ^ j := by omega
    have hLj : L + 1 ≤ j := by
      have := pow_lt_iff.1 (Nat.lt_of_le_of_lt l1 hlt)
      omega
    by_cases hbig : -1074 ≤ p + (L : Int) - 52
    · exact rung_two last k _ (cut_below neg (L + 1) 53 (Nat.le_of_lt l2) (by omega)) (by omega)
    · exact rung_one last k _ (cut_below neg (L + 1) 52 (Nat.le_of_lt l2) (by omega)) (by omega)

theorem nearest_rung_ge (neg : Bool) (m : Nat) (p : Int) (k : Int) (j : Nat) (hj : 2 ^ j ≤ m) (hpj : k ≤ p + j) (hk1 : -1022 ≤ k) (hk2 : k ≤ 1023) :
    ∃ rung, double.nearest neg m p = double.word neg rung ∧ (k + 1023) * 4503599627370496 ≤ (rung : Int) := by
  have hm : m ≠ 0 := by have := pow_pos' j; omega
  unfold Format.nearest
  rw [if_neg hm]
  refine ⟨_, rfl, ?_⟩
  have hL := log_ge_of hj
  obtain ⟨l1, l2⟩ := two_pow_log m hm
  simp only [dl, dfr, dbin, dinf]
  generalize hLL : m.log2 = L at *
  obtain ⟨last, hlast⟩ : ∃ last, max (p + (L : Int) - 52) (-1074) = last := ⟨_, rfl⟩
  rw [hlast]
  have hlo : -1074 ≤ last := by omega
  have hl : last = p + (L : Int) - 52 := by omega
  refine rung_down last k _ hlo hk2 ?_ (by omega)
  have key : 2 ^ 52 ≤ Toward.even.cut neg (m <<< (p - last).toNat) (last - p).toNat := by
    rw [shl_eq]
    refine cut_ge_of neg _ _ _ ?_
    refine Nat.le_trans ?_ (Nat.mul_le_mul_right _ l1)
    rw [← Nat.pow_add, ← Nat.pow_add]
    exact pow_le_iff.2 (by omega)
  exact key

theorem dsw : double.signWeight = 9223372036854775808 := by decide

/-- A rung of at most 2^k is read as a number of at most 2^k. -/
theorem read_rung_le (neg : Bool) (rung : Nat) (k : Int) (h : (rung : Int) ≤ (k + 1023) * 4503599627370496) (hk1 : -1022 ≤ k) (hk2 : k ≤ 1023) : DLe (double.read (double.word neg rung)) k := by
  have hr : rung < double.signWeight := by rw [dsw]; omega
  rw [read_word double neg rung hr]
  simp only [dl, dbin, dinf]
  by_cases h1 : rung < 4503599627370496
  · rw [if_pos h1]
    refine ⟨_, _, _, rfl, ?_⟩
    exact .inr ⟨52, by rw [p52]; omega, by omega⟩
  · rw [if_neg h1, if_pos (by omega)]
    refine ⟨_, _, _, rfl, .inr ?_⟩
    by_cases h0 : rung % 4503599627370496 = 0
    · exact ⟨52, by rw [p52]; omega, by omega⟩
    · exact ⟨53, by rw [p53]; omega, by omega⟩

theorem read_rung_ge (rung : Nat) (k : Int) (h : (k + 1023) * 4503599627370496 ≤ (rung : Int)) (hfin : rung < 9218868437227405312) (hk1 : -1022 ≤ k) : DGe (double.read (double.word false rung)) k := by
  have hr : rung < double.signWeight := by rw [dsw]; omega
  rw [read_word double false rung hr]
  simp only [dl, dbin, dinf]
  rw [if_neg (by omega), if_pos (by omega)]
  exact ⟨_, _, rfl, 52, by rw [p52]; omega, by omega⟩

theorem write_le {d : Datum} {k : Int} (h : DLe d k) (hk1 : -1022 ≤ k) (hk2 : k ≤ 1023) : DLe (double.read (double.write d)) k := by
  obtain ⟨s, m, p, rfl, h⟩ := h
  obtain ⟨rung, e, hr⟩ := nearest_rung_le s m p k h hk1
  show DLe (double.read (double.nearest s m p)) k
  rw [e]
  exact read_rung_le s rung k hr hk1 hk2

theorem write_ge {d : Datum} {k l : Int} (h : DGe d k) (hle : DLe d l) (hk1 : -1022 ≤ k) (hkl : k ≤ l) (hl : l ≤ 1023) : DGe (double.read (double.write d)) k := by
  obtain ⟨m, p, rfl, j, h1, h2⟩ := h
  obtain ⟨s, m', p', e, hle⟩ := hle
  cases e
  obtain ⟨rung, e1, hr1⟩ := nearest_rung_ge false m p k j h1 h2 hk1 (by omega)
  obtain ⟨rung', e2, hr2⟩ := nearest_rung_le false m p l hle (by omega)
  have : rung = rung' := by
    rw [e1] at e2
    simpa [Format.word] using e2
  subst this
  show DGe (double.read (double.nearest false m p)) k
  rw [e1]
  exact read_rung_ge rung k hr1 (by omega) hk1

theorem write_pos {d : Datum} {l : Int} (h : DPos d) (hle : DLe d l) (hl1 : -1022 ≤ l) (hl : l ≤ 1023) : DPos (double.read (double.write d)) := by
  obtain ⟨m, p, rfl⟩ := h
  obtain ⟨s, m', p', e, hle⟩ := hle
  cases e
  obtain ⟨rung, e2, hr2⟩ := nearest_rung_le false m p l hle hl1
  show DPos (double.read (double.nearest false m p))
  rw [e2]
  have hr : rung < double.signWeight := by rw [dsw]; omega
  rw [read_word double false rung hr]
  simp only [dl, dbin, dinf]
  split
  · exact ⟨_, _, rfl⟩
  · rw [if_pos (by omega)]
    exact ⟨_, _, rfl⟩

/-! ### The exact operations -/

theorem product_le {d e : Datum} {a b : Int} (hd : DLe d a) (he : DLe e b) : ∃ r, d.product e = some r ∧ DLe r (a + b) := by
  obtain ⟨s, m, p, rfl, hd⟩ := hd
  obtain ⟨t, n, q, rfl, he⟩ := he
  refine ⟨_, rfl, _, _, _, rfl, ?_⟩
  rcases hd with rfl | ⟨j, h1, h2⟩
  · exact .inl (Nat.zero_mul _)
  · rcases he with rfl | ⟨i, g1, g2⟩
    · exact .inl (Nat.mul_zero _)
    · exact .inr ⟨j + i, by rw [Nat.pow_add]; exact Nat.mul_le_mul h1 g1, by omega⟩

theorem signed_abs (s : Bool) (m u : Nat) : (signed s m u).natAbs = m * 2 ^ u := by
  unfold signed
  split
  · rw [Int.natAbs_neg, Int.natAbs_natCast, shl_eq]
  · rw [Int.natAbs_natCast, shl_eq]

theorem term_le {m : Nat} {p a base : Int} (hm : m ≠ 0) (hb : base ≤ p) (h : m = 0 ∨ ∃ j : Nat, m ≤ 2 ^ j ∧ p + j ≤ a) : base ≤ a ∧ m * 2 ^ (p - base).toNat ≤ 2 ^ (a - base).toNat := by
  obtain ⟨j, h1, h2⟩ := h.resolve_left hm
  refine ⟨by omega, Nat.le_trans (Nat.mul_le_mul_right _ h1) ?_⟩
  rw [← Nat.pow_add]
  exact pow_le_iff.2 (by omega)

theorem sum_le {d e : Datum} {a : Int} (hd : DLe d a) (he : DLe e a) : ∃ r, d.sum e = some r ∧ DLe r (a + 1) := by
  obtain ⟨s, m, p, rfl, hd⟩ := hd
  obtain ⟨t, n, q, rfl, he⟩ := he
  refine ⟨_, rfl, _, _, _, rfl, ?_⟩
  generalize hbase : min p q = base
  have hab : (signed s m (p - base).toNat + signed t n (q - base).toNat).natAbs ≤ m * 2 ^ (p - base).toNat + n * 2 ^ (q - base).toNat := by
    refine Nat.le_trans (Int.natAbs_add_le _ _) ?_
    rw [signed_abs, signed_abs]
    exact Nat.le_refl _
  by_cases hm : m = 0
  · by_cases hn : n = 0
    · left
      subst hm; subst hn
      simpa using hab
    · right
      obtain ⟨g1, g2⟩ := term_le hn (by omega) he (base := base)
      refine ⟨(a - base).toNat, ?_, by omega⟩
      subst hm
      simp only [Nat.zero_mul, Nat.zero_add] at hab
      exact Nat.le_trans hab g2
  · right
    obtain ⟨f1, f2⟩ := term_le hm (by omega) hd (base := base)
    by_cases hn : n = 0
    · refine ⟨(a - base).toNat, ?_, by omega⟩
      subst hn
      simp only [Nat.zero_mul, Nat.add_zero] at hab
      exact Nat.le_trans hab f2
    · obtain ⟨g1, g2⟩ := term_le hn (by omega) he (base := base)
      refine ⟨(a - base).toNat + 1, ?_, by omega⟩
      rw [Nat.pow_succ]
      omega

theorem quot_le {dg : Nat} {d e : Datum} {a c : Int} (hd : DLe d a) (he : DGe e c) : ∃ r, d.quotient dg e = some r ∧ DLe r (a - c) := by
  obtain ⟨s, m, p, rfl, hd⟩ := hd
  obtain ⟨n, q, rfl, i, g1, g2⟩ := he
  have hn : n ≠ 0 := by have := pow_pos' i; omega
  unfold Datum.quotient
  dsimp only
  rw [if_neg hn]
  refine ⟨_, rfl, _, _, _, rfl, ?_⟩
  generalize hmore : dg + n.log2 - m.log2 = more
  have hbit : ∀ b : Bool, b.toNat ≤ 1 := by decide
  by_cases hm : m = 0
  · left
    subst hm
    simp
  · right
    obtain ⟨j, h1, h2⟩ := hd.resolve_left hm
    have hl1 := log_le_of hm h1
    have hl2 := log_ge_of g1
    have hji : i ≤ j + more := by omega
    refine ⟨j + more - i + 1, ?_, by omega⟩
    rw [shl_eq]
    have hD : m * 2 ^ more ≤ 2 ^ (j + more - i) * 2 ^ i := by
      rw [← Nat.pow_add, show j + more - i + i = j + more by omega, Nat.pow_add]
      exact Nat.mul_le_mul_right _ h1
    have hDn : m * 2 ^ more ≤ 2 ^ (j + more - i) * n := Nat.le_trans hD (Nat.mul_le_mul_left _ g1)
    have hb := hbit (m * 2 ^ more % n != 0)
    rw [Nat.pow_succ]
    by_cases hq : m * 2 ^ more / n < 2 ^ (j + more - i)
    · omega
    · have hle : m * 2 ^ more / n ≤ 2 ^ (j + more - i) := by
        have := Nat.div_le_div_right (c := n) hDn
        rwa [Nat.mul_div_cancel _ (by omega)] at this
      have heq : m * 2 ^ more / n = 2 ^ (j + more - i) := by omega
      have hmod : m * 2 ^ more % n = 0 := by
        have h0 := Nat.div_add_mod (m * 2 ^ more) n
        rw [heq, Nat.mul_comm n] at h0
        omega
      rw [hmod, heq]
      simp
      omega

/-! ### The same for 32-bit numbers: what is at most 2^127 is narrowed to a number -/

theorem sl : single.leastPlace = -149 := by decide
theorem sfr : (single.fractionBits : Int) = 23 := rfl
theorem sbin : single.binade = 8388608 := by decide
theorem sinf : single.infRung = 2139095040 := by decide
theorem ssw : single.signWeight = 2147483648 := by decide

theorem rung_up32 (last k : Int) (c : Nat) (h1 : -149 ≤ last) (h2 : (last + 149) * 8388608 + (c : Int) ≤ (k + 127) * 8388608) :
    ((min ((last - -149).toNat * 8388608 + c) 2139095040 : Nat) : Int) ≤ (k + 127) * 8388608 := by omega
theorem rung_one32 (last k : Int) (c : Nat) (hc : c ≤ 8388608) (h : last + 149 + 1 ≤ k + 127) : (last + 149) * 8388608 + (c : Int) ≤ (k + 127) * 8388608 := by omega
theorem rung_two32 (last k : Int) (c : Nat) (hc : c ≤ 16777216) (h : last + 149 + 2 ≤ k + 127) : (last + 149) * 8388608 + (c : Int) ≤ (k + 127) * 8388608 := by omega
/-- The rung of a rounded number of at most 2^k. -/
theorem nearest_rung_le32 (neg : Bool) (m : Nat) (p : Int) (k : Int) (h : m = 0 ∨ ∃ j : Nat, m ≤ 2 ^ j ∧ p + j ≤ k) (hk1 : -126 ≤ k) :
    ∃ rung, single.nearest neg m p = single.word neg rung ∧ (rung : Int) ≤ (k + 127) * 8388608 := by
  unfold Format.nearest
  by_cases hm : m = 0
  · rw [if_pos hm]
    exact ⟨0, rfl, by omega⟩
  rw [if_neg hm]
  obtain ⟨j, hj, hpj⟩ := h.resolve_left hm
  refine ⟨_, rfl, ?_⟩
  have hL := log_le_of hm hj
  obtain ⟨l1, l2⟩ := two_pow_log m hm
  simp only [sl, sfr, sbin, sinf]
  generalize hLL : m.log2 = L at *
  obtain ⟨last, hlast⟩ : ∃ last, max (p + (L : Int) - 23) (-149) = last := ⟨_, rfl⟩
  rw [hlast]
  have hlo : -149 ≤ last := by omega
  refine rung_up32 last k _ hlo ?_
  by_cases hs : m = 2 ^ j
  · have hLj : L = j := by
      rw [← hLL, hs, Nat.log2_two_pow]
    subst hLj
    exact rung_one32 last k _ (cut_below neg L 23 hj (by omega)) (by omega)
  · have hlt : m < 2 ^ j := by omega
    have hLj : L + 1 ≤ j := by
      have := pow_lt_iff.1 (Nat.lt_of_le_of_lt l1 hlt)
      omega
    by_cases hbig : -149 ≤ p + (L : Int) - 23
    · exact rung_two32 last k _ (cut_below neg (L + 1) 24 (Nat.le_of_lt l2) (by omega)) (by omega)
    · exact rung_one32 last k _ (cut_below neg (L + 1) 23 (Nat.le_of_lt l2) (by omega)) (by omega)


/-- A 64-bit number of at most 2^127 is narrowed to one 32-bit number. -/
theorem narrow_told {b : Nat} {k : Int} (h : DLe (double.read b) k) (hk : k ≤ 127) : ∃ q, floatToFloatBits .f64 b .f32 = some q := by
  obtain ⟨s, m, p, e, h⟩ := h
  have h' : m = 0 ∨ ∃ j : Nat, m ≤ 2 ^ j ∧ p + j ≤ 127 := by
    rcases h with h | ⟨j, h1, h2⟩
    · exact .inl h
    · exact .inr ⟨j, h1, by omega⟩
  obtain ⟨rung, e1, hr⟩ := nearest_rung_le32 s m p 127 h' (by omega)
  unfold floatToFloatBits
  rw [if_neg (by decide)]
  unfold FloatKind.decode
  have e' : FloatKind.f64.format.read b = .number s m p := e
  rw [e']
  dsimp only
  have e2 : FloatKind.f32.encode (.number s m p) = single.word s rung := e1
  rw [e2]
  have hlt : rung < 2139095040 := by omega
  have hrd := read_word single s rung (by rw [ssw]; omega)
  rw [sbin, sinf] at hrd
  have hni : (FloatKind.f32.format.read (single.word s rung)).isInfinity = false := by
    have hf : FloatKind.f32.format = single := rfl
    rw [hf, hrd]
    by_cases h1 : rung < 8388608
    · rw [if_pos h1]; rfl
    · rw [if_neg h1, if_pos hlt]; rfl
  rw [hni]
  exact ⟨_, rfl⟩

/-- The same number, narrowed where it is at most 2^127, is the same. -/
theorem narrow_same {b b' r r' : Nat} (hb : FSame .f64 b b') (hfit : isNan .f64 b = true ∨ ∃ k : Int, DLe (double.read b) k ∧ k ≤ 127) (h : FCv .f64 .f32 b r) (h' : FCv .f64 .f32 b' r') : FSame .f32 r r' := by
  refine FCv.same (by decide) hb ?_ h h'
  rcases hfit with h | ⟨k, h1, h2⟩
  · exact .inl h
  · exact .inr (narrow_told h1 h2)

/-! ### Roots -/

theorem rootFrom_sq (n : Nat) : ∀ (todo root : Nat), root * root ≤ n → Datum.rootFrom n todo root * Datum.rootFrom n todo root ≤ n
  | 0, _, h => h
  | todo + 1, root, h => by
    unfold Datum.rootFrom
    simp only
    refine rootFrom_sq n todo _ ?_
    split
    · assumption
    · exact h

theorem lt_of_sq {w e : Nat} (h : w * w < 2 ^ (2 * e)) : w < 2 ^ e := by
  refine Nat.lt_of_not_le fun hge => ?_
  have := Nat.mul_le_mul hge hge
  rw [← Nat.pow_add, show e + e = 2 * e by omega] at this
  omega

theorem half_arith (p a : Int) (L more j : Nat) (h : p + j ≤ a) (hL : L ≤ j) : (p - (more : Int)) / 2 - 1 + (((L + 1 + more + 1) / 2 + 1 : Nat) : Int) ≤ a / 2 + 1 := by omega

theorem root_le {dg : Nat} {d r : Datum} {a : Int} (hd : DLe d a) (h : d.root dg = some r) : DLe r (a / 2 + 1) := by
  obtain ⟨s, m, p, rfl, hd⟩ := hd
  unfold Datum.root at h
  simp only at h
  by_cases hm : m = 0
  · rw [if_pos hm] at h
    cases h
    exact ⟨_, _, _, rfl, .inl hm⟩
  · rw [if_neg hm] at h
    cases s with
    | true => simp at h
    | false =>
      simp only [Bool.false_eq_true, if_false] at h
      obtain ⟨j, h1, h2⟩ := hd.resolve_left hm
      have hL := log_le_of hm h1
      generalize hmore : 2 * dg - m.log2 + ((p - ((2 * dg - m.log2 : Nat) : Int)) % 2).toNat = more at h
      generalize hw : Datum.rootFrom (m <<< more) ((m <<< more).log2 / 2 + 1) 0 = w at h
      have hsq : w * w ≤ m <<< more := by rw [← hw]; exact rootFrom_sq _ _ _ (by rw [Nat.zero_mul]; exact Nat.zero_le _)
      rw [shl_eq] at hsq
      have hlt : m * 2 ^ more < 2 ^ (2 * ((m.log2 + 1 + more + 1) / 2)) := by
        have l2 := (two_pow_log m hm).2
        have a1 : m * 2 ^ more < 2 ^ (m.log2 + 1) * 2 ^ more := Nat.mul_lt_mul_of_pos_right l2 (pow_pos' more)
        rw [← Nat.pow_add] at a1
        exact Nat.lt_of_lt_of_le a1 (pow_le_iff.2 (by omega))
      have hwl := lt_of_sq (Nat.lt_of_le_of_lt hsq hlt)
      have hbit : ∀ b : Bool, b.toNat ≤ 1 := by decide
      have hb := hbit (w * w != m <<< more)
      cases h
      refine ⟨_, _, _, rfl, .inr ⟨(m.log2 + 1 + more + 1) / 2 + 1, ?_, ?_⟩⟩
      · rw [Nat.pow_succ]; omega
      · exact half_arith p a m.log2 more j h2 hL

/-- What is known of a narrowing. -/
def Told (b : Nat) : Prop := isNan .f64 b = true ∨ ∃ q, floatToFloatBits .f64 b .f32 = some q

theorem told_le {b : Nat} {k : Int} (h : DLe (double.read b) k) (hk : k ≤ 127) : Told b := .inr (narrow_told h hk)
theorem told_inf {b : Nat} {s : Bool} (h : double.read b = .infinity s) : Told b := by
  right
  unfold floatToFloatBits
  rw [if_neg (by decide)]
  unfold FloatKind.decode
  have e' : FloatKind.f64.format.read b = .infinity s := h
  rw [e']
  exact ⟨_, rfl⟩

theorem told_same {b b' r r' : Nat} (hb : FSame .f64 b b') (ht : Told b) (h : FCv .f64 .f32 b r) (h' : FCv .f64 .f32 b' r') : FSame .f32 r r' :=
  FCv.same (by decide) hb ht h h'

/-- A 32-bit number made wide is at most 2^128, if it is finite. -/
theorem wide_le {b r : Nat} (h : FCv .f32 .f64 b r) : isNan .f64 r = true ∨ (∃ s, double.read r = .infinity s) ∨ DLe (double.read r) 128 := by
  rcases wide_read h with ⟨h1, h2⟩ | ⟨s, h1, h2⟩ | ⟨s, m, e, h1, g1, g2, g3, t, p, h2, h3⟩
  · exact .inl h2
  · exact .inr (.inl ⟨s, h2⟩)
  · refine .inr (.inr ⟨s, _, _, h2, ?_⟩)
    by_cases hm : m = 0
    · left; rw [hm, Nat.zero_mul]
    · right
      have hp := h3 hm
      refine ⟨24 + t, ?_, by omega⟩
      rw [Nat.pow_add]
      have : m ≤ 2 ^ 24 := by
        have : (2 : Nat) ^ 24 = 16777216 := rfl
        omega
      exact Nat.mul_le_mul_right _ this

theorem sqrt_told {b y r : Nat} (h : FCv .f32 .f64 b y) (hs : FSq y r) : Told r := by
  unfold FSq at hs
  cases hq : FloatKind.f64.format.sqrt y with
  | none => rw [hq] at hs; exact .inl hs
  | some q =>
    rw [hq] at hs
    have hs : r = q := hs
    subst hs
    unfold Format.sqrt at hq
    have hf : FloatKind.f64.format = double := rfl
    rw [hf] at hq
    rcases wide_le h with hn | ⟨s, hi⟩ | hl
    · obtain ⟨_, _, e⟩ := decode_nan hn
      rw [hf] at e
      rw [e] at hq; cases hq
    · rw [hi] at hq
      cases s with
      | true => cases hq
      | false =>
        have : r = double.write (.infinity false) := by
          simp only [Datum.root, Bool.false_eq_true, if_false, Option.map_some, Option.some.injEq] at hq
          exact hq.symm
        subst this
        exact told_inf (s := false) (inf_read double false (by decide))
    · cases hr : (double.read y).root (double.fractionBits + 2) with
      | none => rw [hr] at hq; cases hq
      | some d =>
        rw [hr] at hq
        have hq : r = double.write d := by simpa using hq.symm
        subst hq
        -- the root of a number of at most 2^128
        exact told_le (write_le (root_le hl hr) (by omega) (by omega)) (by omega)

end Fl
end Go.Proofs.Ytnbgnaenlbphcaa
