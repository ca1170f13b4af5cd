/-
  Weights of one: (1 less t) plus t is 1, and what is multiplied by 1 stays as it is.
  Own work; imports nothing of the program.
-/
import Derived.Test.YtbdmmpkphiilkaaRv
import Derived.Test.YtbdmmpkphiilkaaNw
namespace Go.Proofs.Ytbdmmpkphiilkaa
namespace Fl
open Ieee

theorem cut_to (neg : Bool) (n d q : Nat) (hq : 1 ≤ q) (he : q % 2 = 0) (h1 : 2 * n ≤ 2 * (q * 2 ^ d) + 2 ^ d) (h2 : 2 * (q * 2 ^ d) ≤ 2 * n + 2 ^ d) : Toward.even.cut neg n d = q := by
  have hp := Nat.two_pow_pos d
  have hqd : 2 ^ d ≤ q * 2 ^ d := Nat.le_mul_of_pos_left _ (by omega)
  have hlog : d ≤ n.log2 + 2 := by
    rcases Nat.lt_or_ge (n.log2 + 2) d with h | h
    · exfalso
      have hlt : n < 2 ^ (n.log2 + 1) := Nat.lt_log2_self
      have hle : (2 : Nat) ^ (n.log2 + 3) ≤ 2 ^ d := Nat.pow_le_pow_right (by omega) (by omega)
      have e3 : (2 : Nat) ^ (n.log2 + 3) = 4 * 2 ^ (n.log2 + 1) := by rw [show n.log2 + 3 = n.log2 + 1 + 2 by omega, Nat.pow_add]; omega
      omega
    · exact h
  unfold Toward.cut
  rw [Nat.min_eq_left hlog]
  simp only [Nat.one_shiftLeft]
  have h0 := Nat.div_add_mod n (2 ^ d)
  have h3 := Nat.mod_lt n hp
  generalize (2 : Nat) ^ d = g at *
  generalize n / g = low at *
  generalize n % g = r at *
  rcases (by omega : low + 2 ≤ q ∨ low + 1 = q ∨ low = q ∨ q + 1 ≤ low) with c | c | c | c
  · have := Nat.mul_le_mul_left g c
    rw [Nat.mul_add, Nat.mul_comm g q] at this
    omega
  · subst c
    rw [Nat.add_mul, Nat.mul_comm low g] at *
    by_cases c2 : g < 2 * r
    · simp [c2]
    · have c3 : g = 2 * r := by omega
      have c4 : low % 2 = 1 := by omega
      have c5 : (g == 2 * r) = true := by simp [← c3]
      rw [c5]
      simp [c2, c4]
  · subst c
    rw [Nat.mul_comm low g] at *
    have c2 : ¬ g < 2 * r := by omega
    simp [c2, he]
  · have := Nat.mul_le_mul_left g c
    rw [Nat.mul_add, Nat.mul_comm g q] at this
    omega

theorem f32_facts : FloatKind.f32.format.leastPlace = -149 ∧ (FloatKind.f32.format.fractionBits : Int) = 23 ∧ FloatKind.f32.format.binade = 8388608 ∧ FloatKind.f32.format.infRung = 2139095040 := by decide

theorem nat_of_rat {a b : Nat} (h : (a : Rat) ≤ (b : Rat)) : a ≤ b := Rat.natCast_le_natCast.1 h

/-- The digits that are kept or dropped, beside the number itself. -/
theorem kept_val (m : Nat) (p last : Int) : ((m <<< (p - last).toNat : Nat) : Rat) * pw (last - ((last - p).toNat : Int)) = (m : Rat) * pw p := by
  rw [shl_eq, Rat.natCast_mul, ← pw_nat, Rat.mul_assoc, ← pw_add]
  congr 2
  omega

theorem scale_le {n q : Nat} {d : Nat} {last : Int} {V Q : Rat} (hn : (n : Rat) * pw (last - (d : Int)) = V) (hQ : (q : Rat) * pw last = Q) (h : 2 * V ≤ 2 * Q + pw last) : 2 * n ≤ 2 * (q * 2 ^ d) + 2 ^ d := by
  refine nat_of_rat ?_
  refine Rat.le_of_mul_le_mul_right (c := pw (last - (d : Int))) ?_ (pw_pos _)
  have e : pw ((d : Nat) : Int) * pw (last - (d : Int)) = pw last := by rw [← pw_add]; congr 1; omega
  have h2 : ((2 : Nat) : Rat) = 2 := rfl
  simp only [Rat.natCast_mul, Rat.natCast_add, ← pw_nat, h2]
  have e1 : (2 * (q * pw ((d : Nat) : Int)) + pw ((d : Nat) : Int)) * pw (last - (d : Int)) = 2 * (q * (pw ((d : Nat) : Int) * pw (last - (d : Int)))) + pw ((d : Nat) : Int) * pw (last - (d : Int)) := by grind
  have e2 : 2 * (n : Rat) * pw (last - (d : Int)) = 2 * ((n : Rat) * pw (last - (d : Int))) := by grind
  rw [e1, e2, e, hn, hQ]
  exact h
theorem scale_ge {n q : Nat} {d : Nat} {last : Int} {V Q : Rat} (hn : (n : Rat) * pw (last - (d : Int)) = V) (hQ : (q : Rat) * pw last = Q) (h : 2 * Q ≤ 2 * V + pw last) : 2 * (q * 2 ^ d) ≤ 2 * n + 2 ^ d := by
  refine nat_of_rat ?_
  refine Rat.le_of_mul_le_mul_right (c := pw (last - (d : Int))) ?_ (pw_pos _)
  have e : pw ((d : Nat) : Int) * pw (last - (d : Int)) = pw last := by rw [← pw_add]; congr 1; omega
  have h2 : ((2 : Nat) : Rat) = 2 := rfl
  simp only [Rat.natCast_mul, Rat.natCast_add, ← pw_nat, h2]
  have e1 : 2 * (q * pw ((d : Nat) : Int)) * pw (last - (d : Int)) = 2 * (q * (pw ((d : Nat) : Int) * pw (last - (d : Int)))) := by grind
  have e2 : (2 * (n : Rat) + pw ((d : Nat) : Int)) * pw (last - (d : Int)) = 2 * ((n : Rat) * pw (last - (d : Int))) + pw ((d : Nat) : Int) * pw (last - (d : Int)) := by grind
  rw [e1, e2, e, hn, hQ]
  exact h

theorem log_pos {m : Nat} (hm : m ≠ 0) (p : Int) : pw (p + (m.log2 : Int)) ≤ (m : Rat) * pw p ∧ (m : Rat) * pw p < pw (p + (m.log2 : Int) + 1) := by
  obtain ⟨l1, l2⟩ := two_pow_log m hm
  have hp := pw_pos p
  constructor
  · rw [pw_add, pw_nat, Rat.mul_comm]
    exact Rat.mul_le_mul_of_nonneg_right (Rat.natCast_le_natCast.2 l1) (Rat.le_of_lt hp)
  · rw [show p + (m.log2 : Int) + 1 = p + ((m.log2 + 1 : Nat) : Int) by omega, pw_add, pw_nat, Rat.mul_comm (pw p)]
    exact (Rat.mul_lt_mul_right hp).2 (Rat.natCast_lt_natCast.2 l2)
theorem pw_lt_iff {a b : Int} : pw a < pw b ↔ a < b := by
  constructor
  · intro h
    rcases Int.lt_or_le a b with hb | hb
    · exact hb
    · exact absurd (pw_le hb) (by grind)
  · intro h
    have h1 := pw_le (show a + 1 ≤ b by omega)
    rw [pw_add, show pw 1 = 2 by decide +kernel] at h1
    have := pw_pos a
    grind

/-- What is very near to one is rounded to one. -/
theorem near_one {m : Nat} {p : Int} (h1 : (33554431 : Rat) / 33554432 ≤ (m : Rat) * pw p) (h2 : (m : Rat) * pw p ≤ (16777217 : Rat) / 16777216) : FloatKind.f32.format.nearest false m p = 1065353216 := by
  obtain ⟨f1, f2, f3, f4⟩ := f32_facts
  have hm : m ≠ 0 := by
    rintro rfl
    have e : ((0 : Nat) : Rat) = 0 := rfl
    rw [e, Rat.zero_mul] at h1
    revert h1
    decide +kernel
  obtain ⟨l1, l2⟩ := log_pos hm p
  have g1 : -1 ≤ p + (m.log2 : Int) := by
    have : pw (-1) < pw (p + (m.log2 : Int) + 1) := by
      rw [show pw (-1) = 1 / 2 by decide +kernel]
      generalize pw (p + (m.log2 : Int) + 1) = P at *
      grind
    have := pw_lt_iff.1 this
    omega
  have g2 : p + (m.log2 : Int) ≤ 0 := by
    have : pw (p + (m.log2 : Int)) < pw 1 := by
      rw [show pw 1 = 2 by decide +kernel]
      generalize pw (p + (m.log2 : Int)) = P at *
      grind
    have := pw_lt_iff.1 this
    omega
  unfold Format.nearest
  rw [if_neg hm, f1, f2, f3, f4]
  dsimp only
  rcases (by omega : p + (m.log2 : Int) = -1 ∨ p + (m.log2 : Int) = 0) with hz | hz
  · have hl : max (p + (m.log2 : Int) - 23) (-149) = -24 := by omega
    rw [hl]
    rw [hz] at l2
    have hk := kept_val m p (-24)
    have e24 : pw (-24) = 1 / 16777216 := by decide +kernel
    have e0 : pw (-1 + 1) = 1 := by decide +kernel
    have hQ : ((16777216 : Nat) : Rat) * pw (-24) = 1 := by decide +kernel
    rw [cut_to false _ _ 16777216 (by omega) (by omega) (scale_le hk hQ (by rw [e24]; grind)) (scale_ge hk hQ (by rw [e24]; grind))]
    decide
  · have hl : max (p + (m.log2 : Int) - 23) (-149) = -23 := by omega
    rw [hl]
    rw [hz] at l1
    have hk := kept_val m p (-23)
    have e23 : pw (-23) = 1 / 8388608 := by decide +kernel
    have e0 : pw 0 = 1 := by decide +kernel
    have hQ : ((8388608 : Nat) : Rat) * pw (-23) = 1 := by decide +kernel
    rw [cut_to false _ _ 8388608 (by omega) (by omega) (scale_le hk hQ (by rw [e23]; grind)) (scale_ge hk hQ (by rw [e23]; grind))]
    decide

/-- Below one, half a unit is 2^-25. -/
theorem near_half {m : Nat} {p : Int} (h : (m : Rat) * pw p < 1) : ∃ c, FV .f32 (FloatKind.f32.format.nearest false m p) c ∧ -(1 / 33554432) ≤ c - (m : Rat) * pw p ∧ c - (m : Rat) * pw p ≤ 1 / 33554432 := by
  obtain ⟨f1, f2, f3, f4⟩ := f32_facts
  by_cases hm : m = 0
  · subst hm
    refine ⟨0, ⟨false, 0, _, read_zero _ false p (Nat.two_pow_pos _), dv_zero _ _⟩, ?_, ?_⟩ <;> rw [show ((0 : Nat) : Rat) = 0 from rfl, Rat.zero_mul] <;> decide +kernel
  · obtain ⟨l1, l2⟩ := log_pos hm p
    have g2 : p + (m.log2 : Int) ≤ -1 := by
      have : pw (p + (m.log2 : Int)) < pw 0 := by
        have : pw 0 = 1 := by decide +kernel
        grind
      have := pw_lt_iff.1 this
      omega
    have e2 : (2 : Int) ^ FloatKind.f32.format.exponentBits = 256 := by decide
    obtain ⟨m', p', h1, h2⟩ := near_kept FloatKind.f32.format false m p hm (by decide) (by rw [f1, f2, e2]; omega)
    refine ⟨dv false m' p', ⟨false, m', p', h1, rfl⟩, ?_⟩
    rw [f1, f2] at h2
    generalize hlast : max (p + (m.log2 : Int) - 23) (-149) = last at h2
    obtain ⟨c1, c2⟩ := cut_near false (m <<< (p - last).toNat) (last - p).toNat
    generalize Toward.even.cut false (m <<< (p - last).toNat) (last - p).toNat = c at c1 c2 h2
    have c1' := Rat.natCast_le_natCast.2 c1
    have c2' := Rat.natCast_le_natCast.2 c2
    have hk := kept_val m p last
    generalize (m <<< (p - last).toNat : Nat) = n at c1' c2' hk
    simp only [Rat.natCast_mul, Rat.natCast_add, ← pw_nat] at c1' c2'
    have hq := Rat.le_of_lt (pw_pos (last - ((last - p).toNat : Int)))
    have d1 := Rat.mul_le_mul_of_nonneg_right c1' hq
    have d2 := Rat.mul_le_mul_of_nonneg_right c2' hq
    have e1 : pw ((last - p).toNat : Int) * pw (last - ((last - p).toNat : Int)) = pw last := by rw [← pw_add]; congr 1; omega
    have hl24 : pw last ≤ 1 / 16777216 := by
      have : last ≤ -24 := by omega
      have h3 := pw_le this
      have e24 : pw (-24) = 1 / 16777216 := by decide +kernel
      grind
    have h22 : ((2 : Nat) : Rat) = 2 := rfl
    rw [h22] at d1 d2
    unfold dv
    simp only [Bool.false_eq_true, if_false]
    rw [← hk] at *
    clear c1 c2 c1' c2' hk hlast l1 l2 h1 g2
    rw [h2]
    generalize pw (last - ((last - p).toNat : Int)) = Q at *
    generalize pw ((last - p).toNat : Int) = D at *
    generalize pw last = L at *
    subst e1
    constructor <;> grind

theorem fv_one : FV .f32 1065353216 1 := ⟨false, 8388608, -23, by decide +kernel, by decide +kernel⟩
theorem read_one : FloatKind.f32.format.read 1065353216 = .number false 8388608 (-23) := by decide +kernel

/-- The first weight of a blend: 1 less t. -/
theorem less_one {t s : Nat} {q : Rat} (ht : FV .f32 t q) (h0 : 0 ≤ q) (h1 : q ≤ 1) (hs : floatBits .sub .f32 1065353216 t = some s) :
    ∃ c, FV .f32 s c ∧ -(1 / 33554432) ≤ c - (1 - q) ∧ c - (1 - q) ≤ 1 / 33554432 := by
  obtain ⟨st, mt, it, t1, rfl⟩ := ht
  obtain ⟨s', m', p', e1, e2⟩ := sum_val (s := false) (t := !st) (m := 8388608) (n := mt) (i := -23) (j := it)
  have e : floatBits .sub .f32 1065353216 t = some (FloatKind.f32.format.nearest s' m' p') := by
    show FloatKind.f32.format.sub _ t = _
    unfold Format.sub
    rw [read_one, t1]
    show Option.map _ ((Datum.number false 8388608 (-23)).sum (.number (!st) mt it)) = _
    rw [e1]
    rfl
  rw [e] at hs
  obtain rfl := Option.some.inj hs
  have e3 : dv false 8388608 (-23) = 1 := by decide +kernel
  rw [dv_opp, e3] at e2
  have hmn := mag_nonneg m' p'
  have hval : (m' : Rat) * pw p' = 1 - dv st mt it ∧ (s' = true → m' = 0) := by
    cases s'
    · exact ⟨by have : dv false m' p' = (m' : Rat) * pw p' := rfl; rw [← this, e2]; grind, fun h => by cases h⟩
    · have h2 : dv true m' p' = -((m' : Rat) * pw p') := rfl
      rw [h2] at e2
      have h3 : (m' : Rat) * pw p' = 0 := by grind
      have h4 : m' = 0 := by
        rcases Rat.mul_eq_zero.1 h3 with h | h
        · exact Rat.natCast_inj.1 h
        · have := pw_pos p'; grind
      exact ⟨by grind, fun _ => h4⟩
  obtain ⟨hv, hz⟩ := hval
  have hnf : s' = true → FloatKind.f32.format.nearest s' m' p' = FloatKind.f32.format.word true 0 := fun h => by
    rw [hz h, h]; unfold Format.nearest; rw [if_pos rfl]
  by_cases hq0 : dv st mt it = 0
  · -- nothing is taken away
    rw [hq0] at hv ⊢
    have hs' : s' = false := by
      cases s'
      · rfl
      · rw [hz rfl] at hv
        have e : ((0 : Nat) : Rat) = 0 := rfl
        rw [e, Rat.zero_mul] at hv
        grind
    subst hs'
    rw [near_one (by rw [hv]; decide +kernel) (by rw [hv]; decide +kernel)]
    exact ⟨1, fv_one, by grind, by grind⟩
  · have hlt : (m' : Rat) * pw p' < 1 := by grind
    cases s'
    · obtain ⟨c, hc, g1, g2⟩ := near_half hlt
      exact ⟨c, hc, by rw [← hv]; exact g1, by rw [← hv]; exact g2⟩
    · rw [hnf rfl]
      rw [hz rfl] at hv
      have e : ((0 : Nat) : Rat) = 0 := rfl
      rw [e, Rat.zero_mul] at hv
      refine ⟨0, fv_word_zero .f32 true, ?_, ?_⟩ <;> rw [← hv] <;> decide +kernel

theorem fv_sum {k : FloatKind} {x y r : Nat} {a b : Rat} (hx : FV k x a) (hy : FV k y b) (h : floatBits .add k x y = some r) : ∃ s m p, r = k.format.nearest s m p ∧ dv s m p = a + b := by
  obtain ⟨s, m, i, x1, rfl⟩ := hx
  obtain ⟨t, n, j, y1, rfl⟩ := hy
  obtain ⟨s', m', p', e1, e2⟩ := sum_val (s := s) (t := t) (m := m) (n := n) (i := i) (j := j)
  have e : floatBits .add k x y = some (k.format.nearest s' m' p') := by
    show k.format.add x y = _
    unfold Format.add
    rw [x1, y1, e1]
    rfl
  rw [e] at h
  exact ⟨s', m', p', (Option.some.inj h).symm, e2⟩
/-- The sum of both weights is one. -/
theorem sum_one {t s w : Nat} {q : Rat} (ht : FV .f32 t q) (h0 : 0 ≤ q) (h1 : q ≤ 1) (hs : floatBits .sub .f32 1065353216 t = some s) (hw : floatBits .add .f32 s t = some w) : w = 1065353216 := by
  obtain ⟨c, hc, g1, g2⟩ := less_one ht h0 h1 hs
  obtain ⟨s', m, p, rfl, e⟩ := fv_sum hc ht hw
  have hm := mag_nonneg m p
  cases s'
  · have e' : (m : Rat) * pw p = c + q := e
    refine near_one ?_ ?_ <;> rw [e'] <;> grind
  · exfalso
    have e' : -((m : Rat) * pw p) = c + q := e
    grind

/-- What is multiplied by one stays as it is. -/
theorem mul_one_word {x : Nat} {q : Rat} (hx : x < 4294967296) (h : FV .f32 x q) : floatBits .mul .f32 1065353216 x = some x ∧ floatBits .mul .f32 x 1065353216 = some x := by
  obtain ⟨s, m, e, h1, _⟩ := h
  have hr : single.read x = .number s m e := h1
  obtain ⟨hs, hg, h0, hcase⟩ := rung_cases hr
  have hw := word_of hx
  rw [hs] at hw
  have key : single.nearest s (m * 2 ^ 23) (e - 23) = x := by
    by_cases hm : m = 0
    · subst hm
      rw [Nat.zero_mul]
      unfold Format.nearest
      rw [if_pos rfl, ← h0 rfl]
      exact hw
    · have := near_back (t := 23) (s := s) hm hcase hg
      rw [← hw]
      exact this
  constructor
  · show FloatKind.f32.format.mul _ _ = _
    unfold Format.mul
    rw [read_one, h1]
    show some (single.nearest (false ^^ s) (8388608 * m) (-23 + e)) = _
    rw [Bool.false_xor, show 8388608 * m = m * 2 ^ 23 by omega, show -23 + e = e - 23 by omega, key]
  · show FloatKind.f32.format.mul _ _ = _
    unfold Format.mul
    rw [read_one, h1]
    show some (single.nearest (s ^^ false) (m * 8388608) (e + -23)) = _
    rw [Bool.xor_false, show m * 8388608 = m * 2 ^ 23 by omega, show e + -23 = e - 23 by omega, key]

theorem quo_one_one : floatBits .quo .f32 1065353216 1065353216 = some 1065353216 := by decide +kernel
theorem mul_one_one : floatBits .mul .f32 1065353216 1065353216 = some 1065353216 := by decide +kernel

end Fl
end Go.Proofs.Ytbdmmpkphiilkaa
