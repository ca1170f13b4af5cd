/-
  Lower bounds: squares, sums of what has no sign and roots are not less than each part; a part over the root of the sum of squares is finite.
  Own work; imports nothing of the program.
-/
import Derived.Test.YtohbanchaggnmaaKa
namespace Go.Proofs.Ytohbanchaggnmaa
namespace Fl
open Ieee

/-- At least 2^k, and positive, maybe infinite. -/
def GeI (d : Datum) (k : Int) : Prop := DGe d k ∨ d = .infinity false
/-- At least 2^k, whatever its sign. -/
def MGe (d : Datum) (k : Int) : Prop := ∃ s m p, d = .number s m p ∧ ∃ j : Nat, 2 ^ j ≤ m ∧ k ≤ p + j
/-- Without a sign, maybe infinite. -/
def NN (d : Datum) : Prop := DPos d ∨ d = .infinity false
theorem GeI.nn {d : Datum} {k : Int} (h : GeI d k) : NN d := h.imp DGe.pos id

theorem rung_down32 (last k : Int) (c : Nat) (h1 : -149 ≤ last) (hk : k ≤ 127) (hc : 8388608 ≤ c) (h : k + 127 ≤ last + 149 + 1) :
    (k + 127) * 8388608 ≤ ((min ((last - -149).toNat * 8388608 + c) 2139095040 : Nat) : Int) := by omega

theorem nearest_rung_ge32 (neg : Bool) (m : Nat) (p : Int) (k : Int) (j : Nat) (hj : 2 ^ j ≤ m) (hpj : k ≤ p + j) (hk1 : -126 ≤ k) (hk2 : k ≤ 127) :
    ∃ rung, single.nearest neg m p = single.word neg rung ∧ (k + 127) * 8388608 ≤ (rung : Int) ∧ rung ≤ 2139095040 := by
  have hm : m ≠ 0 := by have := pow_pos' j; omega
  unfold Format.nearest
  rw [if_neg hm]
  refine ⟨_, rfl, ?_, by rw [sinf]; omega⟩
  have hL := log_ge_of hj
  obtain ⟨l1, l2⟩ := two_pow_log m hm
  simp only [sl, sfr, sbin, sinf]
  generalize hLL : m.log2 = L at *
  obtain ⟨last, hlast⟩ : ∃ last, max (p + (L : Int) - 23) (-149) = last := ⟨_, rfl⟩
  rw [hlast]
  have hlo : -149 ≤ last := by omega
  have hl : last = p + (L : Int) - 23 := by omega
  refine rung_down32 last k _ hlo hk2 ?_ (by omega)
  have key : 2 ^ 23 ≤ Toward.even.cut neg (m <<< (p - last).toNat) (last - p).toNat := by
    rw [shl_eq]
    refine cut_ge_of neg _ _ _ ?_
    refine Nat.le_trans ?_ (Nat.mul_le_mul_right _ l1)
    rw [← Nat.pow_add, ← Nat.pow_add]
    exact pow_le_iff.2 (by omega)
  exact key

theorem word_nn (rung : Nat) (h : rung ≤ 2139095040) : NN (single.read (single.word false rung)) := by
  rw [read_word single false rung (by rw [ssw]; omega)]
  simp only [sl, sbin, sinf]
  split
  · exact .inl ⟨_, _, rfl⟩
  · split
    · exact .inl ⟨_, _, rfl⟩
    · rw [if_pos (by omega)]; exact .inr rfl
theorem word_ge (rung : Nat) (k : Int) (hk1 : -126 ≤ k) (h0 : (k + 127) * 8388608 ≤ (rung : Int)) (h : rung ≤ 2139095040) : GeI (single.read (single.word false rung)) k := by
  rw [read_word single false rung (by rw [ssw]; omega)]
  simp only [sl, sbin, sinf]
  rw [if_neg (by omega)]
  split
  · exact .inl ⟨_, _, rfl, 23, by rw [show (2 : Nat) ^ 23 = 8388608 by decide]; omega, by omega⟩
  · rw [if_pos (by omega)]; exact .inr rfl
theorem nearest_rung (neg : Bool) (m : Nat) (p : Int) : ∃ rung, single.nearest neg m p = single.word neg rung ∧ rung ≤ 2139095040 := by
  unfold Format.nearest
  split
  · exact ⟨0, rfl, by omega⟩
  · exact ⟨_, rfl, by rw [sinf]; omega⟩
theorem write_inf : single.read (single.write (.infinity false)) = .infinity false := by decide +kernel

theorem write_nn {d : Datum} (h : NN d) : NN (single.read (single.write d)) := by
  rcases h with ⟨m, p, rfl⟩ | rfl
  · obtain ⟨rung, e, hr⟩ := nearest_rung false m p
    show NN (single.read (single.nearest false m p))
    rw [e]
    exact word_nn rung hr
  · rw [write_inf]; exact .inr rfl
theorem write_geI {d : Datum} {k : Int} (h : GeI d k) (hk1 : -126 ≤ k) (hk2 : k ≤ 127) : GeI (single.read (single.write d)) k := by
  rcases h with ⟨m, p, rfl, j, h1, h2⟩ | rfl
  · obtain ⟨rung, e, hr, hr2⟩ := nearest_rung_ge32 false m p k j h1 h2 hk1 hk2
    show GeI (single.read (single.nearest false m p)) k
    rw [e]
    exact word_ge rung k hk1 hr hr2
  · rw [write_inf]; exact .inr rfl

/-- Squares. -/
theorem square_nn {x r : Nat} (hx : fin .f32 x = true) (h : FOp .mul .f32 x x r) : NN (single.read r) := by
  obtain ⟨s, m, p, hd⟩ : ∃ s m p, single.read x = .number s m p := by
    unfold fin at hx
    have hk : FloatKind.f32.format = single := rfl
    rw [hk] at hx
    cases hd : single.read x with
    | number s m p => exact ⟨s, m, p, rfl⟩
    | infinity s => rw [hd] at hx; cases hx
    | nan s t => rw [hd] at hx; cases hx
  have e : floatBits .mul .f32 x x = some (single.write (.number (s ^^ s) (m * m) (p + p))) := by
    show ((single.read x).product (single.read x)).map single.write = _
    rw [hd]; rfl
  unfold FOp at h
  rw [e] at h
  have h : r = _ := h
  rw [h]
  exact write_nn (.inl ⟨m * m, p + p, by rw [Bool.xor_self]⟩)
theorem square_ge {x r : Nat} {k : Int} (hx : MGe (single.read x) k) (h : FOp .mul .f32 x x r) (hk1 : -126 ≤ 2 * k) (hk2 : 2 * k ≤ 127) : GeI (single.read r) (2 * k) := by
  obtain ⟨s, m, p, hd, j, h1, h2⟩ := hx
  have e : floatBits .mul .f32 x x = some (single.write (.number (s ^^ s) (m * m) (p + p))) := by
    show ((single.read x).product (single.read x)).map single.write = _
    rw [hd]; rfl
  unfold FOp at h
  rw [e] at h
  have h : r = _ := h
  rw [h]
  exact write_geI (.inl ⟨m * m, p + p, by rw [Bool.xor_self], j + j, by rw [Nat.pow_add]; exact Nat.mul_le_mul h1 h1, by omega⟩) hk1 hk2

/-- Sums of what has no sign. -/
theorem total_pos (m n : Nat) (p q base : Int) : signed false m (p - base).toNat + signed false n (q - base).toNat = ((m * 2 ^ (p - base).toNat + n * 2 ^ (q - base).toNat : Nat) : Int) := by
  unfold signed
  simp [shl_eq]
theorem sum_nnD {d e : Datum} (hd : NN d) (he : NN e) : ∃ r, d.sum e = some r ∧ NN r := by
  rcases hd with ⟨m, p, rfl⟩ | rfl <;> rcases he with ⟨n, q, rfl⟩ | rfl
  · refine ⟨_, rfl, .inl ⟨(signed false m (p - min p q).toNat + signed false n (q - min p q).toNat).natAbs, min p q, ?_⟩⟩
    rw [total_pos]
    congr 1
    split
    · rfl
    · exact decide_eq_false (by omega)
  · exact ⟨_, rfl, .inr rfl⟩
  · exact ⟨_, rfl, .inr rfl⟩
  · exact ⟨_, rfl, .inr rfl⟩
theorem sum_geD {d e : Datum} {k : Int} (hd : GeI d k) (he : NN e) : ∃ r, d.sum e = some r ∧ GeI r k := by
  rcases hd with ⟨m, p, rfl, j, h1, h2⟩ | rfl <;> rcases he with ⟨n, q, rfl⟩ | rfl
  · refine ⟨_, rfl, .inl ⟨(signed false m (p - min p q).toNat + signed false n (q - min p q).toNat).natAbs, min p q, ?_, j + (p - min p q).toNat, ?_, by omega⟩⟩
    · rw [total_pos]
      congr 1
      split
      · rfl
      · exact decide_eq_false (by omega)
    · rw [total_pos, Int.natAbs_natCast, Nat.pow_add]
      exact Nat.le_trans (Nat.mul_le_mul_right _ h1) (Nat.le_add_right _ _)
  · exact ⟨_, rfl, .inr rfl⟩
  · exact ⟨_, rfl, .inr rfl⟩
  · exact ⟨_, rfl, .inr rfl⟩
theorem sum_geD' {d e : Datum} {k : Int} (hd : NN d) (he : GeI e k) : ∃ r, d.sum e = some r ∧ GeI r k := by
  rcases hd with ⟨m, p, rfl⟩ | rfl <;> rcases he with ⟨n, q, rfl, j, h1, h2⟩ | rfl
  · refine ⟨_, rfl, .inl ⟨(signed false m (p - min p q).toNat + signed false n (q - min p q).toNat).natAbs, min p q, ?_, j + (q - min p q).toNat, ?_, by omega⟩⟩
    · rw [total_pos]
      congr 1
      split
      · rfl
      · exact decide_eq_false (by omega)
    · rw [total_pos, Int.natAbs_natCast, Nat.pow_add]
      exact Nat.le_trans (Nat.mul_le_mul_right _ h1) (Nat.le_add_left _ _)
  · exact ⟨_, rfl, .inr rfl⟩
  · exact ⟨_, rfl, .inr rfl⟩
  · exact ⟨_, rfl, .inr rfl⟩
theorem add_of {x y r : Nat} {d : Datum} (h : FOp .add .f32 x y r) (e : (single.read x).sum (single.read y) = some d) : r = single.write d := by
  have e2 : floatBits .add .f32 x y = some (single.write d) := by
    show ((single.read x).sum (single.read y)).map single.write = _
    rw [e]; rfl
  unfold FOp at h
  rw [e2] at h
  exact h
theorem add_nn {x y r : Nat} (hx : NN (single.read x)) (hy : NN (single.read y)) (h : FOp .add .f32 x y r) : NN (single.read r) := by
  obtain ⟨d, e, hd⟩ := sum_nnD hx hy
  rw [add_of h e]
  exact write_nn hd
theorem add_ge {x y r : Nat} {k : Int} (hx : GeI (single.read x) k) (hy : NN (single.read y)) (h : FOp .add .f32 x y r) (hk1 : -126 ≤ k) (hk2 : k ≤ 127) : GeI (single.read r) k := by
  obtain ⟨d, e, hd⟩ := sum_geD hx hy
  rw [add_of h e]
  exact write_geI hd hk1 hk2
theorem add_ge' {x y r : Nat} {k : Int} (hx : NN (single.read x)) (hy : GeI (single.read y) k) (h : FOp .add .f32 x y r) (hk1 : -126 ≤ k) (hk2 : k ≤ 127) : GeI (single.read r) k := by
  obtain ⟨d, e, hd⟩ := sum_geD' hx hy
  rw [add_of h e]
  exact write_geI hd hk1 hk2

/-- Roots. -/
theorem nz_rootFrom_up (n : Nat) : ∀ (todo root : Nat), n < (root + 2 ^ todo) * (root + 2 ^ todo) → n < (Datum.rootFrom n todo root + 1) * (Datum.rootFrom n todo root + 1)
  | 0, root, h => by
    unfold Datum.rootFrom
    exact h
  | todo + 1, root, h => by
    unfold Datum.rootFrom
    dsimp only
    rw [Nat.one_shiftLeft]
    refine nz_rootFrom_up n todo _ ?_
    by_cases hc : (root + 2 ^ todo) * (root + 2 ^ todo) ≤ n
    · rw [if_pos hc, Nat.add_assoc, show 2 ^ todo + 2 ^ todo = 2 ^ (todo + 1) by rw [Nat.pow_succ]; omega]
      exact h
    · rw [if_neg hc]
      omega
theorem ge_of_sq {w e : Nat} (h : 2 ^ (2 * e) < (w + 1) * (w + 1)) : 2 ^ e ≤ w := by
  refine Nat.le_of_not_lt fun hlt => ?_
  have h1 : w + 1 ≤ 2 ^ e := hlt
  have := Nat.mul_le_mul h1 h1
  rw [← Nat.pow_add, show e + e = 2 * e by omega] at this
  omega
theorem root_geD {dg : Nat} {d r : Datum} {k : Int} (hd : GeI d (2 * k)) (h : d.root dg = some r) : GeI r k := by
  rcases hd with ⟨m, p, rfl, j, h1, h2⟩ | rfl
  · have hm : m ≠ 0 := by have := pow_pos' j; omega
    unfold Datum.root at h
    simp only at h
    rw [if_neg hm] at h
    simp only [Bool.false_eq_true, if_false] at h
    generalize hmore : 2 * dg - m.log2 + ((p - ((2 * dg - m.log2 : Nat) : Int)) % 2).toNat = more at h
    have hev : (p - (more : Int)) % 2 = 0 := by omega
    generalize hw : Datum.rootFrom (m <<< more) ((m <<< more).log2 / 2 + 1) 0 = w at h
    have hn : 2 ^ (j + more) ≤ m <<< more := by rw [shl_eq, Nat.pow_add]; exact Nat.mul_le_mul_right _ h1
    have hne : m <<< more ≠ 0 := by have := pow_pos' (j + more); omega
    have hup : m <<< more < (w + 1) * (w + 1) := by
      rw [← hw]
      refine nz_rootFrom_up _ _ _ ?_
      rw [Nat.zero_add, ← Nat.pow_add]
      exact Nat.lt_of_lt_of_le (two_pow_log _ hne).2 (pow_le_iff.2 (by omega))
    have hge : 2 ^ ((j + more) / 2) ≤ w := by
      refine ge_of_sq (Nat.lt_of_le_of_lt ?_ hup)
      exact Nat.le_trans (pow_le_iff.2 (by omega)) hn
    have hbit : ∀ b : Bool, b.toNat ≤ 1 := by decide
    cases h
    refine .inl ⟨_, _, rfl, (j + more) / 2 + 1, ?_, ?_⟩
    · rw [Nat.pow_succ]; omega
    · omega
  · have : r = .infinity false := by
      simp only [Datum.root, Bool.false_eq_true, if_false, Option.some.injEq] at h
      exact h.symm
    exact .inr this
theorem dwrite_geI {d : Datum} {k : Int} (h : GeI d k) (hk1 : -1022 ≤ k) (hk2 : k ≤ 1023) : GeI (double.read (double.write d)) k := by
  rcases h with ⟨m, p, rfl, j, h1, h2⟩ | rfl
  · obtain ⟨rung, e, hr⟩ := nearest_rung_ge false m p k j h1 h2 hk1 hk2
    obtain ⟨rung', e', hr'⟩ : ∃ rung, double.nearest false m p = double.word false rung ∧ rung ≤ 9218868437227405312 := by
      unfold Format.nearest
      split
      · exact ⟨0, rfl, by omega⟩
      · exact ⟨_, rfl, by rw [dinf]; omega⟩
    have he : rung = rung' := by
      rw [e] at e'
      simpa [Format.word] using e'
    subst he
    show GeI (double.read (double.nearest false m p)) k
    rw [e, read_word double false rung (by rw [dsw]; omega)]
    simp only [dl, dbin, dinf]
    rw [if_neg (by omega)]
    split
    · exact .inl ⟨_, _, rfl, 52, by rw [p52]; omega, by omega⟩
    · rw [if_pos (by omega)]; exact .inr rfl
  · have : double.read (double.write (.infinity false)) = .infinity false := by decide +kernel
    rw [this]; exact .inr rfl

/-- The root of a 32-bit number that is at least 2^(2k). -/
theorem rootR_ge {b r : Nat} {k : Int} (hb : GeI (single.read b) (2 * k)) (hk1 : -126 ≤ k) (hk2 : k ≤ 127) (h : RootR b r) : GeI (single.read r) k := by
  obtain ⟨y, q, hy, hq, hr⟩ := h
  have hY : GeI (double.read y) (2 * k) := by
    rcases wide_read hy with ⟨h1, h2⟩ | ⟨s, h1, h2⟩ | ⟨s, m, e, h1, g1, g2, g3, t, p, h2, h3⟩
    · exfalso
      unfold isNan FloatKind.decode at h1
      have hf : FloatKind.f32.format = single := rfl
      rw [hf] at h1
      rcases hb with ⟨m, p, e, _⟩ | e <;> (rw [e] at h1; cases h1)
    · rcases hb with ⟨m, p, e, _⟩ | e
      · rw [h1] at e; cases e
      · rw [h1] at e; rw [h2]; exact .inr e
    · rcases hb with ⟨m', p', e', j, a1, a2⟩ | e'
      · rw [h1] at e'
        cases e'
        have hm : m ≠ 0 := by have := pow_pos' j; omega
        have hp := h3 hm
        rw [h2]
        exact .inl ⟨_, _, rfl, j + t, by rw [Nat.pow_add]; exact Nat.mul_le_mul_right _ a1, by omega⟩
      · rw [h1] at e'; cases e'
  have hT := sqrt_told hy hq
  have hQ : GeI (double.read q) k := by
    unfold FSq at hq
    obtain ⟨d, hd⟩ : ∃ d, (double.read y).root (double.fractionBits + 2) = some d := by
      rcases hY with ⟨m, p, e, j, a1, a2⟩ | e
      · rw [e]
        have hm : m ≠ 0 := by have := pow_pos' j; omega
        unfold Datum.root
        simp only
        rw [if_neg hm]
        exact ⟨_, rfl⟩
      · rw [e]; exact ⟨_, rfl⟩
    have e : FloatKind.f64.format.sqrt y = some (double.write d) := by
      show ((double.read y).root (double.fractionBits + 2)).map double.write = _
      rw [hd]; rfl
    rw [e] at hq
    have hq : q = _ := hq
    rw [hq]
    exact dwrite_geI (root_geD hY hd) (by omega) (by omega)
  unfold FCv at hr
  have hf : FloatKind.f64.format = double := rfl
  rcases hT with hn | ⟨v, hv⟩
  · exfalso
    unfold isNan FloatKind.decode at hn
    rw [hf] at hn
    rcases hQ with ⟨m, p, e, _⟩ | e <;> (rw [e] at hn; cases hn)
  · rw [hv] at hr
    have hr : r = v := hr
    have hv2 : v = single.write (double.read q) := by
      unfold floatToFloatBits at hv
      rw [if_neg (by decide)] at hv
      unfold FloatKind.decode at hv
      rw [hf] at hv
      rcases hQ with ⟨m, p, e, _⟩ | e
      · rw [e] at hv ⊢
        dsimp only at hv
        split at hv
        · cases hv
        · injection hv with hv; exact hv.symm
      · rw [e] at hv ⊢
        injection hv with hv; exact hv.symm
    rw [hr, hv2]
    exact write_geI hQ hk1 hk2

/-- The parts of a spot over its length. -/
theorem fin_num {x : Nat} (hx : fin .f32 x = true) : ∃ s m p, single.read x = .number s m p ∧ m < 16777216 ∧ -149 ≤ p ∧ p ≤ 104 := by
  unfold fin at hx
  have hk : FloatKind.f32.format = single := rfl
  rw [hk] at hx
  rcases read_single x with ⟨s, t, hd⟩ | ⟨s, hd⟩ | ⟨s, m, e, hd, h1, h2, h3⟩
  · rw [hd] at hx; cases hx
  · rw [hd] at hx; cases hx
  · exact ⟨s, m, e, hd, h1, h2, h3⟩
theorem dot_nn {x y z d : Nat} (hx : fin .f32 x = true) (hy : fin .f32 y = true) (hz : fin .f32 z = true) (h : DotR x y z x y z d) : NN (single.read d) := by
  obtain ⟨p, q, s, u, h1, h2, h3, h4, h5⟩ := h
  exact add_nn (add_nn (square_nn hx h1) (square_nn hy h2) h4) (square_nn hz h3) h5
theorem dot_ge {x y z d : Nat} {k : Int} (hx : fin .f32 x = true) (hy : fin .f32 y = true) (hz : fin .f32 z = true) (h : DotR x y z x y z d) (hk1 : -126 ≤ 2 * k) (hk2 : 2 * k ≤ 127) (hk : MGe (single.read x) k ∨ MGe (single.read y) k ∨ MGe (single.read z) k) : GeI (single.read d) (2 * k) := by
  obtain ⟨p, q, s, u, h1, h2, h3, h4, h5⟩ := h
  rcases hk with hk | hk | hk
  · exact add_ge (add_ge (square_ge hk h1 hk1 hk2) (square_nn hy h2) h4 hk1 hk2) (square_nn hz h3) h5 hk1 hk2
  · exact add_ge (add_ge' (square_nn hx h1) (square_ge hk h2 hk1 hk2) h4 hk1 hk2) (square_nn hz h3) h5 hk1 hk2
  · exact add_ge' (add_nn (square_nn hx h1) (square_nn hy h2) h4) (square_ge hk h3 hk1 hk2) h5 hk1 hk2
theorem rootR_zero {b r : Nat} {p : Int} (h : single.read b = .number false 0 p) (hr : RootR b r) : r = 0 := by
  obtain ⟨y, q, hy, hq, hr⟩ := hr
  have e1 : floatToFloatBits .f32 b .f64 = some 0 := by
    unfold floatToFloatBits
    rw [if_neg (by decide)]
    unfold FloatKind.decode
    have hf : FloatKind.f32.format = single := rfl
    rw [hf, h]
    dsimp only
    have e2 : FloatKind.f64.encode (.number false 0 p) = 0 := by
      show double.nearest false 0 p = 0
      unfold Format.nearest
      rw [if_pos rfl]
      decide +kernel
    rw [e2]
    decide +kernel
  unfold FCv at hy
  rw [e1] at hy
  have hy : y = 0 := hy
  subst hy
  unfold FSq at hq
  have e2 : FloatKind.f64.format.sqrt 0 = some 0 := by decide +kernel
  rw [e2] at hq
  have hq : q = 0 := hq
  subst hq
  unfold FCv at hr
  have e3 : floatToFloatBits .f64 0 .f32 = some 0 := by decide +kernel
  rw [e3] at hr
  exact hr
theorem write_finL {d : Datum} {k : Int} (h : DLe d k) (hk : k ≤ 126) : fin .f32 (single.write d) = true := by
  obtain ⟨s, m, p, rfl, h2⟩ := DLe.mono h hk
  obtain ⟨rung, e, hr⟩ := nearest_rung_le32 s m p 126 h2 (by omega)
  have hw : single.write (.number s m p) = single.word s rung := e
  rw [hw]
  unfold fin
  have hk : FloatKind.f32.format = single := rfl
  rw [hk, read_word single s rung (by rw [ssw]; omega)]
  simp only [sbin, sinf]
  by_cases h1 : rung < 8388608
  · rw [if_pos h1]
  · rw [if_neg h1, if_pos (by omega)]
theorem mle_of {s : Bool} {m : Nat} {p : Int} (hm : m ≠ 0) (x : Nat) (h : single.read x = .number s m p) : DLe (single.read x) (p + m.log2 + 1) ∧ MGe (single.read x) (p + m.log2) := by
  obtain ⟨l1, l2⟩ := two_pow_log m hm
  refine ⟨⟨s, m, p, h, .inr ⟨m.log2 + 1, Nat.le_of_lt l2, by omega⟩⟩, ⟨s, m, p, h, m.log2, l1, by omega⟩⟩
theorem order_nn {q : Nat} (h : NN (single.read q)) (hf : fin .f32 q = true) : FloatKind.f32.format.order q 0 = some .gt ∨ FloatKind.f32.format.order q 0 = some .eq := by
  obtain ⟨s, m, p, hd, -⟩ := fin_num hf
  have h0 : single.read 0 = .number false 0 (-149) := by decide +kernel
  have hs : s = false := by
    rcases h with ⟨m', p', e⟩ | e
    · rw [hd] at e; cases e; rfl
    · rw [hd] at e; cases e
  subst hs
  have e : FloatKind.f32.format.order q 0 = some (compare (signed false m (p - min p (-149)).toNat) (signed false 0 (-149 - min p (-149)).toNat)) := by
    show (single.read q).order (single.read 0) = _
    rw [hd, h0]; rfl
  rw [e]
  have hz : signed false 0 (-149 - min p (-149)).toNat = 0 := by unfold signed; simp
  have hg : 0 ≤ signed false m (p - min p (-149)).toNat := by
    unfold signed
    simp only [Bool.false_eq_true, if_false]
    exact Int.natCast_nonneg _
  rw [hz]
  rcases Int.lt_or_eq_of_le hg with h1 | h1
  · left; rw [Int.compare_eq_gt.2 h1]
  · right; rw [← h1]; rfl
theorem root_nn {b r : Nat} (hb : NN (single.read b)) (h : RootR b r) : NN (single.read r) := by
  rcases hb with ⟨m, p, e⟩ | e
  · by_cases hm : m = 0
    · subst hm
      rw [rootR_zero e h]
      exact .inl ⟨0, -149, by decide +kernel⟩
    · have hp : -149 ≤ p := by
        rcases read_single b with ⟨s, t, hd⟩ | ⟨s, hd⟩ | ⟨s, m', e', hd, h1, h2, h3⟩
        · rw [hd] at e; cases e
        · rw [hd] at e; cases e
        · rw [hd] at e; cases e; exact h2
      exact (rootR_ge (k := -75) (.inl ⟨m, p, e, 0, by simp; omega, by omega⟩) (by omega) (by omega) h).nn
  · exact (rootR_ge (k := -75) (.inr e) (by omega) (by omega) h).nn
theorem part_fin {x y z d q t r : Nat} (hx : fin .f32 x = true) (hy : fin .f32 y = true) (hz : fin .f32 z = true) (h : DotR x y z x y z d) (hq : RootR d q) (hqf : fin .f32 q = true) (h0 : FloatKind.f32.format.order q 0 ≠ some .eq)
    (ht : t = x ∨ t = y ∨ t = z) (hr : FOp .quo .f32 t q r) : fin .f32 r = true := by
  have htf : fin .f32 t = true := by rcases ht with rfl | rfl | rfl <;> assumption
  have hN := dot_nn hx hy hz h
  have fin_ge : ∀ k, GeI (single.read q) k → DGe (single.read q) k := fun k hk => by
    rcases hk with hk | hk
    · exact hk
    · exfalso
      obtain ⟨s, m, p, hd, -⟩ := fin_num hqf
      rw [hd] at hk; cases hk
  have hlow : DGe (single.read q) (-75) := by
    refine fin_ge _ (rootR_ge ?_ (by omega) (by omega) hq)
    rcases hN with ⟨m, p, e⟩ | e
    · by_cases hm : m = 0
      · exfalso
        subst hm
        have := rootR_zero e hq
        subst this
        exact h0 (by decide +kernel)
      · have hp : -149 ≤ p := by
          rcases read_single d with ⟨s, t, hd⟩ | ⟨s, hd⟩ | ⟨s, m', e', hd, h1, h2, h3⟩
          · rw [hd] at e; cases e
          · rw [hd] at e; cases e
          · rw [hd] at e; cases e; exact h2
        exact .inl ⟨m, p, e, 0, by simp; omega, by omega⟩
    · exact .inr e
  obtain ⟨a, c, hA, hC, hac⟩ : ∃ a c, DLe (single.read t) a ∧ DGe (single.read q) c ∧ a - c ≤ 126 := by
    obtain ⟨s, m, p, hd, g1, g2, g3⟩ := fin_num htf
    by_cases hm : m = 0
    · exact ⟨0, -75, ⟨s, m, p, hd, .inl hm⟩, hlow, by omega⟩
    · obtain ⟨hle, hge⟩ := mle_of hm t hd
      have hL : m.log2 ≤ 23 := by
        have := (two_pow_log m hm).1
        by_cases hh : m.log2 ≤ 23
        · exact hh
        · exfalso
          have h24 : (2 : Nat) ^ 24 ≤ 2 ^ m.log2 := pow_le_iff.2 (by omega)
          have : (2 : Nat) ^ 24 = 16777216 := by decide
          omega
      by_cases hK : p + m.log2 + 1 ≤ -50
      · exact ⟨_, -75, hle, hlow, by omega⟩
      · obtain ⟨k, hk⟩ : ∃ k : Int, k = min (p + m.log2) 60 := ⟨_, rfl⟩
        have hM : MGe (single.read t) k := by
          obtain ⟨s', m', p', e', j, h1, h2⟩ := hge
          exact ⟨s', m', p', e', j, h1, by omega⟩
        have hD : GeI (single.read d) (2 * k) := dot_ge hx hy hz h (by omega) (by omega) (by rcases ht with rfl | rfl | rfl; (· exact .inl hM); (· exact .inr (.inl hM)); (· exact .inr (.inr hM)))
        exact ⟨_, k, hle, fin_ge _ (rootR_ge hD (by omega) (by omega) hq), by omega⟩
  obtain ⟨D, e, hDL⟩ := quot_le (dg := single.fractionBits + 2) hA hC
  have e2 : floatBits .quo .f32 t q = some (single.write D) := by
    show ((single.read t).quotient (single.fractionBits + 2) (single.read q)).map single.write = _
    rw [e]; rfl
  unfold FOp at hr
  rw [e2] at hr
  have hr : r = _ := hr
  rw [hr]
  exact write_finL hDL hac

end Fl
end Go.Proofs.Ytohbanchaggnmaa
