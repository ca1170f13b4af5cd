/-
  Floats that are small integers: their sums, products and whole quotients are exact.
  Own work; imports nothing of the program.
-/
import Derived.Test.YtnflmdlhcjjfdadSi
namespace Go.Proofs.Ytnflmdlhcjjfdad
namespace Fl
open Ieee

/-- The two formats. -/
def Fmt (f : Format) : Prop := f = single ∨ f = double
theorem Fmt.facts {f : Format} (h : Fmt f) : f.leastPlace ≤ -149 ∧ 23 ≤ f.fractionBits ∧ f.fractionBits ≤ 52 ∧ (f.fractionBits : Int) - (f.fractionBits : Int) - f.leastPlace ≤ (2 ^ f.exponentBits - 3 : Int) ∧ 2 ≤ f.exponentBits := by
  rcases h with rfl | rfl <;> decide

theorem log2_mul_pow {m : Nat} (hm : m ≠ 0) (s : Nat) : (m * 2 ^ s).log2 = m.log2 + s := by
  have hp := pow_pos' s
  have hne : m * 2 ^ s ≠ 0 := Nat.ne_of_gt (Nat.mul_pos (Nat.pos_of_ne_zero hm) hp)
  rw [Nat.log2_eq_iff hne]
  obtain ⟨a1, a2⟩ := two_pow_log m hm
  refine ⟨?_, ?_⟩
  · rw [Nat.pow_add]; exact Nat.mul_le_mul_right _ a1
  · rw [show m.log2 + s + 1 = (m.log2 + 1) + s by omega, Nat.pow_add]
    exact Nat.mul_lt_mul_of_pos_right a2 hp
theorem toInt_num' (s : Bool) (m : Nat) (e : Int) : (Datum.number s m e).toInt .zero = some (signed s (m * 2 ^ e.toNat / 2 ^ (-e).toNat) 0) := toInt_num s m e
theorem near_shift (f : Format) (neg : Bool) (m s : Nat) (p : Int) (hm : m ≠ 0) (hL : m.log2 ≤ f.fractionBits) (h2 : f.leastPlace ≤ p + s) : f.nearest neg (m * 2 ^ s) p = f.nearest neg m (p + s) := by
  have hp := pow_pos' s
  have hne : m * 2 ^ s ≠ 0 := by
    intro h
    rcases Nat.mul_eq_zero.1 h with h | h
    · exact hm h
    · omega
  have hlog : (m * 2 ^ s).log2 = m.log2 + s := by
    rw [Nat.log2_eq_iff hne]
    obtain ⟨a1, a2⟩ := two_pow_log m hm
    refine ⟨?_, ?_⟩
    · rw [Nat.pow_add]; exact Nat.mul_le_mul_right _ a1
    · rw [show m.log2 + s + 1 = (m.log2 + 1) + s by omega, Nat.pow_add]
      exact Nat.mul_lt_mul_of_pos_right a2 hp
  unfold Format.nearest
  rw [if_neg hne, if_neg hm, hlog]
  dsimp only
  generalize f.fractionBits = fr at *
  generalize f.leastPlace = lp at *
  have e0 : p + ((m.log2 + s : Nat) : Int) - fr = p + (s : Int) + (m.log2 : Int) - fr := by omega
  rw [e0]
  generalize hlast : max (p + (s : Int) + (m.log2 : Int) - fr) lp = last
  have hle : last ≤ p + s := by omega
  have e1 : (last - (p + (s : Int))).toNat = 0 := by omega
  rw [e1, cut_zero]
  congr 2
  congr 1
  by_cases hc : last ≤ p
  · have e2 : (last - p).toNat = 0 := by omega
    rw [e2, cut_zero, shl_eq, shl_eq, Nat.mul_assoc, ← Nat.pow_add]
    congr 2
    omega
  · have e2 : (p - last).toNat = 0 := by omega
    obtain ⟨d, hd⟩ : ∃ d, (last - p).toNat = d := ⟨_, rfl⟩
    obtain ⟨k, hk⟩ : ∃ k, (p + (s : Int) - last).toNat = k := ⟨_, rfl⟩
    rw [e2, hd, hk, shl_eq, shl_eq, Nat.pow_zero, Nat.mul_one]
    have es : s = k + d := by omega
    rw [es, Nat.pow_add, ← Nat.mul_assoc, cut_exact]

/-- The word x is the integer n; a zero is +0. -/
def IVs (f : Format) (x : Nat) (n : Int) : Prop := x = f.nearest (decide (n < 0)) n.natAbs 0
/-- The word x is the integer n; a zero may have a sign. -/
def IV (f : Format) (x : Nat) (n : Int) : Prop := IVs f x n ∨ (n = 0 ∧ x = f.word true 0)
def Sm (f : Format) (n : Int) : Prop := n.natAbs.log2 ≤ f.fractionBits
theorem near_zero (f : Format) (s : Bool) (p : Int) : f.nearest s 0 p = f.word s 0 := by unfold Format.nearest; rw [if_pos rfl]
theorem ivs_zero (f : Format) : IVs f (f.word false 0) 0 := by unfold IVs; exact (near_zero f false 0).symm

theorem read_place {f : Format} {w : Nat} {s : Bool} {m : Nat} {e : Int} (h : f.read w = .number s m e) : f.leastPlace ≤ e := by
  unfold Format.read at h
  dsimp only at h
  split at h
  · injection h with _ _ h; omega
  · split at h
    · injection h with _ _ h; omega
    · split at h <;> cases h
theorem iv_write {f : Format} (hf : Fmt f) {n : Int} (hn : Sm f n) {s : Bool} (hs : n ≠ 0 → s = decide (n < 0)) (T : Nat) (p : Int) (hp : p + T = 0) : IV f (f.nearest s (n.natAbs * 2 ^ T) p) n ∧ ((n = 0 → s = false) → IVs f (f.nearest s (n.natAbs * 2 ^ T) p) n) := by
  by_cases h0 : n = 0
  · subst h0
    rw [show (0 : Int).natAbs = 0 from rfl, Nat.zero_mul, near_zero]
    cases s
    · exact ⟨.inl (ivs_zero f), fun _ => ivs_zero f⟩
    · exact ⟨.inr ⟨rfl, rfl⟩, fun h => absurd (h rfl) (by decide)⟩
  · have hm : n.natAbs ≠ 0 := by omega
    have h1 : IVs f (f.nearest s (n.natAbs * 2 ^ T) p) n := by
      unfold IVs
      rw [hs h0, near_shift f _ _ T p hm hn (by have := hf.facts.1; omega), hp]
    exact ⟨.inl h1, fun _ => h1⟩

/-- What such a word stands for. -/
theorem iv_read {f : Format} (hf : Fmt f) {x : Nat} {n : Int} (hn : Sm f n) (h : IV f x n) : ∃ (s : Bool) (t : Nat), f.read x = .number s (n.natAbs * 2 ^ t) (-(t : Int)) ∧ (n ≠ 0 → s = decide (n < 0)) ∧ (IVs f x n → n = 0 → s = false) := by
  obtain ⟨f1, f2, f3, f4, f5⟩ := hf.facts
  by_cases h0 : n = 0
  · subst h0
    have hz : ∀ s, f.read (f.word s 0) = .number s ((0 : Int).natAbs * 2 ^ (-f.leastPlace).toNat) (-((-f.leastPlace).toNat : Int)) := fun s => by
      rw [read_word f s 0 (Nat.two_pow_pos _), if_pos (show 0 < f.binade from Nat.two_pow_pos _), show (0 : Int).natAbs = 0 from rfl, Nat.zero_mul, show -((-f.leastPlace).toNat : Int) = f.leastPlace by omega]
    rcases h with h | ⟨_, h⟩
    · have hx : x = f.word false 0 := by unfold IVs at h; rw [h]; exact near_zero f false 0
      rw [hx]
      exact ⟨false, _, hz false, fun h => absurd rfl h, fun _ _ => rfl⟩
    · rw [h]
      refine ⟨true, _, hz true, fun h => absurd rfl h, fun h1 _ => ?_⟩
      exfalso
      have e := show f.word true 0 = f.nearest false 0 0 from h1
      rw [near_zero] at e
      have e2 := hz true
      rw [e, hz false] at e2
      injection e2 with e2
      cases e2
  · have hm : n.natAbs ≠ 0 := by omega
    have hx : x = f.nearest (decide (n < 0)) n.natAbs 0 := by
      rcases h with h | ⟨h, _⟩
      · exact h
      · exact absurd h h0
    have hlt : n.natAbs < 2 ^ (f.fractionBits + 1) := by
      have := (two_pow_log n.natAbs hm).2
      exact Nat.lt_of_lt_of_le this (Nat.pow_le_pow_right (by omega) (by unfold Sm at hn; omega))
    obtain ⟨t, ht⟩ := nearest_exact f (decide (n < 0)) n.natAbs 0 hm hlt (by omega) (by unfold Sm at hn; omega) f5
    rw [← hx] at ht
    rw [Int.zero_sub] at ht
    exact ⟨_, t, ht, fun _ => rfl, fun _ h => absurd h h0⟩

theorem signed_int {s : Bool} {n : Int} (hs : n ≠ 0 → s = decide (n < 0)) (t u T : Nat) (h : t + u = T) : signed s (n.natAbs * 2 ^ t) u = n * (2 : Int) ^ T := by
  have hv : ((n.natAbs * 2 ^ t) * 2 ^ u : Nat) = n.natAbs * 2 ^ T := by rw [Nat.mul_assoc, ← Nat.pow_add, h]
  unfold signed
  rw [shl_eq, hv]
  by_cases h0 : n = 0
  · subst h0; cases s <;> simp
  · rw [hs h0]
    by_cases hn : n < 0
    · rw [decide_eq_true hn, if_pos rfl]
      push_cast
      rw [show (n.natAbs : Int) = -n by omega, Int.neg_mul, Int.neg_neg]
    · rw [decide_eq_false hn, if_neg (by decide)]
      push_cast
      rw [show (n.natAbs : Int) = n by omega]

theorem pow2_pos (T : Nat) : (0 : Int) < 2 ^ T := by
  have := Nat.two_pow_pos T
  have e : ((2 ^ T : Nat) : Int) = (2 : Int) ^ T := by push_cast; rfl
  omega
theorem mulpow_zero {c : Int} {T : Nat} : c * (2 : Int) ^ T = 0 ↔ c = 0 := by
  constructor
  · intro h
    rcases Int.mul_eq_zero.1 h with h | h
    · exact h
    · have := pow2_pos T; omega
  · rintro rfl; rw [Int.zero_mul]
theorem mulpow_neg {c : Int} {T : Nat} : c * (2 : Int) ^ T < 0 ↔ c < 0 := by
  have hp := pow2_pos T
  constructor
  · intro h
    by_cases hc : 0 ≤ c
    · have := Int.mul_nonneg hc (Int.le_of_lt hp); omega
    · omega
  · intro h
    exact Int.mul_neg_of_neg_of_pos h hp
theorem mulpow_abs (c : Int) (T : Nat) : (c * (2 : Int) ^ T).natAbs = c.natAbs * 2 ^ T := by
  rw [Int.natAbs_mul, Int.natAbs_pow]
  rfl

/-- The sum of two, as a datum. -/
theorem sum_int {a b : Int} {s s' : Bool} {t t' : Nat} (hs : a ≠ 0 → s = decide (a < 0)) (hs' : b ≠ 0 → s' = decide (b < 0)) :
    (Datum.number s (a.natAbs * 2 ^ t) (-(t : Int))).sum (.number s' (b.natAbs * 2 ^ t') (-(t' : Int))) = some (.number (if a + b = 0 then s && s' else decide (a + b < 0)) ((a + b).natAbs * 2 ^ max t t') (-(max t t' : Nat) : Int)) := by
  have e1 : min (-(t : Int)) (-(t' : Int)) = -((max t t' : Nat) : Int) := by omega
  have h1 := signed_int hs t (-(t : Int) - -((max t t' : Nat) : Int)).toNat (max t t') (by omega)
  have h2 := signed_int hs' t' (-(t' : Int) - -((max t t' : Nat) : Int)).toNat (max t t') (by omega)
  unfold Datum.sum
  dsimp only
  rw [e1, h1, h2, ← Int.add_mul, mulpow_abs]
  congr 2
  by_cases h0 : a + b = 0
  · rw [if_pos h0, if_pos (mulpow_zero.2 h0)]
  · rw [if_neg h0, if_neg (fun h => h0 (mulpow_zero.1 h))]
    by_cases hn : a + b < 0
    · rw [decide_eq_true hn, decide_eq_true (mulpow_neg.2 hn)]
    · rw [decide_eq_false hn, decide_eq_false (fun h => hn (mulpow_neg.1 h))]

theorem kfmt (k : FloatKind) : Fmt k.format := by
  cases k
  · exact .inl rfl
  · exact .inr rfl

theorem add_int {k : FloatKind} {x y r : Nat} {a b : Int} (ha : Sm k.format a) (hb : Sm k.format b) (hc : Sm k.format (a + b)) (hx : IV k.format x a) (hy : IV k.format y b) (h : FOp .add k x y r) :
    IV k.format r (a + b) ∧ (IVs k.format x a ∨ IVs k.format y b → IVs k.format r (a + b)) := by
  obtain ⟨s, t, h1, h2, h3⟩ := iv_read (kfmt k) ha hx
  obtain ⟨s', t', g1, g2, g3⟩ := iv_read (kfmt k) hb hy
  have e : floatBits .add k x y = some (k.format.nearest (if a + b = 0 then s && s' else decide (a + b < 0)) ((a + b).natAbs * 2 ^ max t t') (-((max t t' : Nat) : Int))) := by
    show k.format.add x y = _
    unfold Format.add
    rw [h1, g1, sum_int h2 g2]
    rfl
  unfold FOp at h
  rw [e] at h
  have h : r = _ := h
  rw [h]
  obtain ⟨w1, w2⟩ := iv_write (kfmt k) hc (s := if a + b = 0 then s && s' else decide (a + b < 0)) (fun hne => if_neg hne) (max t t') (-((max t t' : Nat) : Int)) (by omega)
  refine ⟨w1, fun hz => w2 fun h0 => ?_⟩
  rw [if_pos h0]
  by_cases ha0 : a = 0
  · have hb0 : b = 0 := by omega
    rcases hz with hz | hz
    · rw [h3 hz ha0]; rfl
    · rw [g3 hz hb0, Bool.and_false]
  · rw [h2 ha0, g2 (by omega)]
    rcases (by omega : (a < 0 ∧ ¬ b < 0) ∨ (¬ a < 0 ∧ b < 0)) with ⟨c1, c2⟩ | ⟨c1, c2⟩
    · rw [decide_eq_false c2, Bool.and_false]
    · rw [decide_eq_false c1]; rfl

theorem opp_int {s : Bool} {b : Int} {t : Nat} : (Datum.number s (b.natAbs * 2 ^ t) (-(t : Int))).opposite = .number (!s) ((-b).natAbs * 2 ^ t) (-(t : Int)) := by
  show Datum.number (!s) _ _ = _
  rw [Int.natAbs_neg]
theorem sub_int {k : FloatKind} {x y r : Nat} {a b : Int} (ha : Sm k.format a) (hb : Sm k.format b) (hc : Sm k.format (a - b)) (hx : IV k.format x a) (hy : IV k.format y b) (h : FOp .sub k x y r) : IV k.format r (a - b) := by
  obtain ⟨s, t, h1, h2, h3⟩ := iv_read (kfmt k) ha hx
  obtain ⟨s', t', g1, g2, g3⟩ := iv_read (kfmt k) hb hy
  have g2' : -b ≠ 0 → (!s') = decide (-b < 0) := fun hne => by
    rw [g2 (by omega)]
    by_cases hb0 : b < 0
    · rw [decide_eq_true hb0, decide_eq_false (by omega)]; rfl
    · rw [decide_eq_false hb0, decide_eq_true (by omega)]; rfl
  have e : floatBits .sub k x y = some (k.format.nearest (if a + -b = 0 then s && !s' else decide (a + -b < 0)) ((a + -b).natAbs * 2 ^ max t t') (-((max t t' : Nat) : Int))) := by
    show k.format.sub x y = _
    unfold Format.sub
    rw [h1, g1, opp_int, sum_int h2 g2']
    rfl
  unfold FOp at h
  rw [e] at h
  have h : r = _ := h
  rw [h]
  have hc' : Sm k.format (a + -b) := by rw [← Int.sub_eq_add_neg]; exact hc
  rw [Int.sub_eq_add_neg]
  exact (iv_write (kfmt k) hc' (s := if a + -b = 0 then s && !s' else decide (a + -b < 0)) (fun hne => if_neg hne) (max t t') (-((max t t' : Nat) : Int)) (by omega)).1

theorem sign_mul {a b : Int} {s s' : Bool} (hs : a ≠ 0 → s = decide (a < 0)) (hs' : b ≠ 0 → s' = decide (b < 0)) (h : a * b ≠ 0) : (s ^^ s') = decide (a * b < 0) := by
  have ha : a ≠ 0 := fun e => h (by rw [e, Int.zero_mul])
  have hb : b ≠ 0 := fun e => h (by rw [e, Int.mul_zero])
  rw [hs ha, hs' hb]
  rcases Int.lt_or_gt_of_ne ha with h1 | h1 <;> rcases Int.lt_or_gt_of_ne hb with h2 | h2
  · rw [decide_eq_true h1, decide_eq_true h2, decide_eq_false (by have := Int.mul_pos_of_neg_of_neg h1 h2; omega)]; rfl
  · rw [decide_eq_true h1, decide_eq_false (by omega), decide_eq_true (Int.mul_neg_of_neg_of_pos h1 h2)]; rfl
  · rw [decide_eq_false (by omega), decide_eq_true h2, decide_eq_true (Int.mul_neg_of_pos_of_neg h1 h2)]; rfl
  · rw [decide_eq_false (by omega), decide_eq_false (by omega), decide_eq_false (by have := Int.mul_pos h1 h2; omega)]; rfl
theorem mul_int {k : FloatKind} {x y r : Nat} {a b : Int} (ha : Sm k.format a) (hb : Sm k.format b) (hc : Sm k.format (a * b)) (hx : IV k.format x a) (hy : IV k.format y b) (h : FOp .mul k x y r) :
    IV k.format r (a * b) ∧ (x = y → IVs k.format r (a * b)) := by
  obtain ⟨s, t, h1, h2, h3⟩ := iv_read (kfmt k) ha hx
  obtain ⟨s', t', g1, g2, g3⟩ := iv_read (kfmt k) hb hy
  have e : floatBits .mul k x y = some (k.format.nearest (s ^^ s') ((a * b).natAbs * 2 ^ (t + t')) (-(t : Int) + -(t' : Int))) := by
    show k.format.mul x y = _
    unfold Format.mul
    rw [h1, g1]
    show some (k.format.nearest (s ^^ s') (a.natAbs * 2 ^ t * (b.natAbs * 2 ^ t')) (-(t : Int) + -(t' : Int))) = _
    rw [Int.natAbs_mul, Nat.pow_add, Nat.mul_assoc, Nat.mul_assoc, Nat.mul_left_comm (2 ^ t)]
  unfold FOp at h
  rw [e] at h
  have h : r = _ := h
  rw [h]
  obtain ⟨w1, w2⟩ := iv_write (kfmt k) hc (sign_mul h2 g2) (t + t') (-(t : Int) + -(t' : Int)) (by omega)
  refine ⟨w1, fun hz => w2 fun _ => ?_⟩
  subst hz
  rw [h1] at g1
  injection g1 with g1
  rw [g1]
  exact Bool.xor_self _

theorem conv_int {q k : FloatKind} (hne : q ≠ k) {x r : Nat} {a : Int} (ha : Sm q.format a) (hc : Sm k.format a) (hx : IV q.format x a) (h : FCv q k x r) : IV k.format r a ∧ (IVs q.format x a → IVs k.format r a) := by
  obtain ⟨s, t, h1, h2, h3⟩ := iv_read (kfmt q) ha hx
  obtain ⟨w1, w2⟩ := iv_write (kfmt k) hc h2 t (-(t : Int)) (by omega)
  obtain ⟨s', t', k1, _, _⟩ := iv_read (kfmt k) hc w1
  have e : floatToFloatBits q x k = some (k.format.nearest s (a.natAbs * 2 ^ t) (-(t : Int))) := by
    unfold floatToFloatBits
    rw [if_neg hne]
    unfold FloatKind.decode
    rw [h1]
    show (if (k.format.read (k.format.nearest s (a.natAbs * 2 ^ t) (-(t : Int)))).isInfinity = true then none else some _) = _
    rw [k1, if_neg (by simp [Datum.isInfinity])]
    rfl
  unfold FCv at h
  rw [e] at h
  have h : r = _ := h
  rw [h]
  exact ⟨w1, fun hz => w2 (h3 hz)⟩

theorem quo_int {k : FloatKind} {x y r : Nat} {a P : Int} (hP : 0 < P) (ha : Sm k.format a) (haP : Sm k.format (a * P)) (hPs : Sm k.format P) (hx : IV k.format x (a * P)) (hy : IV k.format y P) (h : FOp .quo k x y r) : IV k.format r a := by
  obtain ⟨s, t, h1, h2, h3⟩ := iv_read (kfmt k) haP hx
  obtain ⟨s', t', g1, g2, g3⟩ := iv_read (kfmt k) hPs hy
  have hs' : s' = false := by rw [g2 (by omega)]; exact decide_eq_false (by omega)
  subst hs'
  have hn0 : P.natAbs * 2 ^ t' ≠ 0 := Nat.ne_of_gt (Nat.mul_pos (by omega) (Nat.two_pow_pos _))
  have hdiv : floatBits .quo k x y = (some (Datum.number (s ^^ false) (2 * (((a * P).natAbs * 2 ^ t) <<< (k.format.fractionBits + 2 + (P.natAbs * 2 ^ t').log2 - ((a * P).natAbs * 2 ^ t).log2) / (P.natAbs * 2 ^ t')) + (((a * P).natAbs * 2 ^ t) <<< (k.format.fractionBits + 2 + (P.natAbs * 2 ^ t').log2 - ((a * P).natAbs * 2 ^ t).log2) % (P.natAbs * 2 ^ t') != 0).toNat) (-(t : Int) - -(t' : Int) - ((k.format.fractionBits + 2 + (P.natAbs * 2 ^ t').log2 - ((a * P).natAbs * 2 ^ t).log2 : Nat) : Int) - 1))).map k.format.write := by
    show k.format.div x y = _
    unfold Format.div
    rw [h1, g1]
    unfold Datum.quotient
    dsimp only
    rw [if_neg hn0]
  by_cases h0 : a = 0
  · subst h0
    rw [Int.zero_mul, show (0 : Int).natAbs = 0 from rfl, Nat.zero_mul, Nat.zero_shiftLeft, Nat.zero_div, Nat.zero_mod] at hdiv
    have e : floatBits .quo k x y = some (k.format.word (s ^^ false) 0) := by
      rw [hdiv]
      show some (k.format.nearest (s ^^ false) 0 _) = _
      rw [near_zero]
    unfold FOp at h
    rw [e] at h
    have h : r = _ := h
    rw [h]
    cases s
    · exact .inl (ivs_zero _)
    · exact .inr ⟨rfl, rfl⟩
  · obtain ⟨more, hmore⟩ : ∃ more, more = k.format.fractionBits + 2 + (P.natAbs * 2 ^ t').log2 - ((a * P).natAbs * 2 ^ t).log2 := ⟨_, rfl⟩
    rw [← hmore] at hdiv
    have hap0 : (a * P).natAbs ≠ 0 := by
      rw [Int.natAbs_mul]
      exact Nat.ne_of_gt (Nat.mul_pos (by omega) (by omega))
    have hl1 : (P.natAbs * 2 ^ t').log2 = P.natAbs.log2 + t' := log2_mul_pow (by omega) t'
    have hl2 : ((a * P).natAbs * 2 ^ t).log2 = (a * P).natAbs.log2 + t := log2_mul_pow hap0 t
    have hge : t' ≤ t + more := by
      unfold Sm at haP
      omega
    obtain ⟨u, hu⟩ : ∃ u, t + more = u + t' := ⟨t + more - t', by omega⟩
    have hexp : ((a * P).natAbs * 2 ^ t) <<< more = a.natAbs * 2 ^ u * (P.natAbs * 2 ^ t') := by
      rw [shl_eq, Int.natAbs_mul, Nat.mul_assoc, ← Nat.pow_add, hu, Nat.pow_add, Nat.mul_assoc, Nat.mul_assoc, Nat.mul_left_comm P.natAbs]
    rw [hexp, Nat.mul_div_cancel _ (Nat.pos_of_ne_zero hn0), Nat.mul_mod_left] at hdiv
    have e : floatBits .quo k x y = some (k.format.nearest (s ^^ false) (a.natAbs * 2 ^ (u + 1)) (-(t : Int) - -(t' : Int) - (more : Int) - 1)) := by
      rw [hdiv]
      show some (k.format.nearest (s ^^ false) (2 * (a.natAbs * 2 ^ u) + ((0 : Nat) != 0).toNat) _) = _
      rw [show ((0 : Nat) != 0).toNat = 0 from rfl, Nat.add_zero, show 2 * (a.natAbs * 2 ^ u) = a.natAbs * 2 ^ (u + 1) by rw [Nat.pow_succ, Nat.mul_comm 2, Nat.mul_assoc]]
    unfold FOp at h
    rw [e] at h
    have h : r = _ := h
    rw [h]
    refine (iv_write (kfmt k) ha (s := s ^^ false) (fun _ => ?_) (u + 1) _ (by omega)).1
    have hne : a * P ≠ 0 := fun h => by
      rcases Int.mul_eq_zero.1 h with h | h
      · exact h0 h
      · omega
    rw [Bool.xor_false, h2 hne]
    rcases Int.lt_or_gt_of_ne h0 with c | c
    · rw [decide_eq_true c, decide_eq_true (Int.mul_neg_of_neg_of_pos c hP)]
    · rw [decide_eq_false (show ¬ a < 0 by omega), decide_eq_false (show ¬ a * P < 0 by have := Int.mul_pos c hP; omega)]

/-- How two of them stand to each other. -/
theorem order_int {k : FloatKind} {x y : Nat} {a b : Int} (ha : Sm k.format a) (hb : Sm k.format b) (hx : IV k.format x a) (hy : IV k.format y b) : k.format.order x y = some (compare a b) := by
  obtain ⟨s, t, h1, h2, h3⟩ := iv_read (kfmt k) ha hx
  obtain ⟨s', t', g1, g2, g3⟩ := iv_read (kfmt k) hb hy
  unfold Format.order
  rw [h1, g1]
  unfold Datum.order
  dsimp only
  have e1 : min (-(t : Int)) (-(t' : Int)) = -((max t t' : Nat) : Int) := by omega
  rw [e1, signed_int h2 t (-(t : Int) - -((max t t' : Nat) : Int)).toNat (max t t') (by omega), signed_int g2 t' (-(t' : Int) - -((max t t' : Nat) : Int)).toNat (max t t') (by omega)]
  congr 1
  have hp := pow2_pos (max t t')
  simp only [compare, compareOfLessAndEq]
  by_cases c1 : a < b
  · rw [if_pos c1, if_pos (Int.mul_lt_mul_of_pos_right c1 hp)]
  · rw [if_neg c1, if_neg (fun h => c1 (Int.lt_of_mul_lt_mul_right h (Int.le_of_lt hp)))]
    by_cases c2 : a = b
    · rw [if_pos c2, if_pos (by rw [c2])]
    · rw [if_neg c2, if_neg (fun h => c2 (Int.eq_of_mul_eq_mul_right (by omega) h))]
theorem eq_int {k : FloatKind} {x y : Nat} {a : Int} (ha : Sm k.format a) (hx : IV k.format x a) (hy : IV k.format y a) : (k.format.order x y == some Ordering.eq) = true := by
  rw [order_int ha ha hx hy]
  simp [compare, compareOfLessAndEq]
theorem iv_num {k : FloatKind} {x : Nat} {a : Int} (ha : Sm k.format a) (hx : IV k.format x a) : isNan k x = false := by
  obtain ⟨s, t, h1, _, _⟩ := iv_read (kfmt k) ha hx
  unfold isNan FloatKind.decode
  rw [h1]
  rfl

theorem of_int (k : FloatKind) (n : Int) : IVs k.format (floatOfInt k n) n := rfl
theorem to_int {k : FloatKind} {x : Nat} {n : Int} (hn : Sm k.format n) (h1 : -9223372036854775808 ≤ n) (h2 : n ≤ 9223372036854775807) (hx : IV k.format x n) : floatToIntVal k x .i64 = some n := by
  obtain ⟨s, t, r1, r2, _⟩ := iv_read (kfmt k) hn hx
  unfold floatToIntVal FloatKind.decode
  rw [r1, toInt_num']
  have e : signed s (n.natAbs * 2 ^ t * 2 ^ (-(t : Int)).toNat / 2 ^ (-(-(t : Int))).toNat) 0 = n := by
    rw [show (-(t : Int)).toNat = 0 by omega, show (-(-(t : Int))).toNat = t by omega, Nat.pow_zero, Nat.mul_one, Nat.mul_div_cancel _ (Nat.two_pow_pos _)]
    have := signed_int (n := n) r2 0 0 0 rfl
    rw [Nat.pow_zero, Nat.mul_one, Int.pow_zero, Int.mul_one] at this
    exact this
  rw [e]
  have e1 : IntKind.i64.min = -9223372036854775808 := rfl
  have e2 : IntKind.i64.max = 9223372036854775807 := rfl
  dsimp only
  rw [e1, e2, if_pos ⟨h1, h2⟩]

end Fl
end Go.Proofs.Ytnflmdlhcjjfdad
