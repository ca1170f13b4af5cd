/-
  Words as rational numbers: how far a rounded sum, product or quotient is from the exact one.
  Own work; imports nothing of the program.
-/
import Derived.Test.YtddbojpkmgmjmabBd
import Derived.Test.YtddbojpkmgmjmabOr
namespace Go.Proofs.Ytddbojpkmgmjmab
namespace Fl
open Ieee

def pw (e : Int) : Rat := (2 : Rat) ^ e
theorem pw_pos (e : Int) : 0 < pw e := Rat.zpow_pos (by decide)
theorem pw_add (a b : Int) : pw (a + b) = pw a * pw b := Rat.zpow_add (by decide) a b
theorem pw_nat (n : Nat) : pw (n : Int) = ((2 ^ n : Nat) : Rat) := by
  unfold pw
  rw [Rat.zpow_natCast]
  induction n with
  | zero => rfl
  | succ n ih => rw [Rat.pow_succ, ih, Nat.pow_succ, Rat.natCast_mul]; rfl
theorem pw_le {a b : Int} (h : a ≤ b) : pw a ≤ pw b := by
  obtain ⟨n, hn⟩ : ∃ n : Nat, b = a + n := ⟨(b - a).toNat, by omega⟩
  rw [hn, pw_add, pw_nat]
  have h1 : (1 : Rat) ≤ ((2 ^ n : Nat) : Rat) := by
    have : ((1 : Nat) : Rat) ≤ ((2 ^ n : Nat) : Rat) := Rat.natCast_le_natCast.2 (Nat.two_pow_pos n)
    exact this
  have := Rat.mul_le_mul_of_nonneg_left h1 (Rat.le_of_lt (pw_pos a))
  grind
theorem pw_le_iff {a b : Int} : pw a ≤ pw b ↔ a ≤ b := by
  refine ⟨fun h => ?_, pw_le⟩
  rcases Int.lt_or_le b a with hb | hb
  · have h1 := pw_le (show b + 1 ≤ a by omega)
    rw [pw_add] at h1
    rw [show pw 1 = 2 by decide +kernel] at h1
    have := pw_pos b
    grind
  · exact hb

/-- The number that a sign, a magnitude and a place tell. -/
def dv (s : Bool) (m : Nat) (p : Int) : Rat := if s then -((m : Rat) * pw p) else (m : Rat) * pw p
/-- The word is finite and stands for this number. -/
def FV (k : FloatKind) (x : Nat) (q : Rat) : Prop := ∃ s m p, k.format.read x = .number s m p ∧ dv s m p = q
theorem FV.one {k : FloatKind} {x : Nat} {a b : Rat} (h : FV k x a) (g : FV k x b) : a = b := by
  obtain ⟨s, m, p, h1, h2⟩ := h
  obtain ⟨s', m', p', g1, g2⟩ := g
  rw [h1] at g1
  injection g1 with e1 e2 e3
  subst e1 e2 e3
  rw [← h2, g2]

theorem cut_near (neg : Bool) (n drop : Nat) : 2 * n ≤ 2 * (Toward.even.cut neg n drop * 2 ^ drop) + 2 ^ drop ∧ 2 * (Toward.even.cut neg n drop * 2 ^ drop) ≤ 2 * n + 2 ^ drop := by
  by_cases hd : drop ≤ n.log2 + 2
  · unfold Toward.cut
    rw [Nat.min_eq_left hd]
    simp only [Nat.one_shiftLeft]
    have hp := Nat.two_pow_pos drop
    have h0 := Nat.div_add_mod n (2 ^ drop)
    have h1 := Nat.mod_lt n hp
    generalize (2 : Nat) ^ drop = g at *
    generalize n / g = q at *
    generalize n % g = r at *
    rw [Nat.add_mul, Nat.mul_comm q g]
    generalize g * q = gq at *
    by_cases c : g < 2 * r
    · simp [c]; omega
    · by_cases c2 : g = 2 * r
      · rcases Nat.mod_two_eq_zero_or_one q with c3 | c3 <;> simp [c2, c3] <;> omega
      · have : (g == 2 * r) = false := by simp [c2]
        simp [c, this]; omega
  · have hlt : n < 2 ^ (n.log2 + 1) := Nat.lt_log2_self
    have hle : (2 : Nat) ^ (n.log2 + 3) ≤ 2 ^ drop := Nat.pow_le_pow_right (by omega) (by omega)
    have e3 : (2 : Nat) ^ (n.log2 + 3) = 4 * 2 ^ (n.log2 + 1) := by rw [show n.log2 + 3 = n.log2 + 1 + 2 by omega, Nat.pow_add]; omega
    have e2 : (2 : Nat) ^ (n.log2 + 2) = 2 * 2 ^ (n.log2 + 1) := by rw [show n.log2 + 2 = n.log2 + 1 + 1 by omega, Nat.pow_add]; omega
    have hc : Toward.even.cut neg n drop = 0 := by
      unfold Toward.cut
      rw [Nat.min_eq_right (by omega)]
      simp only [Nat.one_shiftLeft]
      rw [Nat.div_eq_of_lt (by omega), Nat.mod_eq_of_lt (by omega)]
      have c1 : ¬ (2 : Nat) ^ (n.log2 + 2) < 2 * n := by omega
      have c2 : ((2 : Nat) ^ (n.log2 + 2) == 2 * n) = false := by
        have : (2 : Nat) ^ (n.log2 + 2) ≠ 2 * n := by omega
        simp [this]
      simp [c1, c2]
    rw [hc]
    omega

/-- What is read of a rounded number: what was kept of it, at the last place that was kept. -/
theorem near_kept (f : Format) (neg : Bool) (m : Nat) (p : Int) (hm : m ≠ 0) (he : 2 ≤ f.exponentBits)
    (ho : p + m.log2 - f.fractionBits - f.leastPlace ≤ (2 ^ f.exponentBits - 4 : Int)) :
    ∃ (m' : Nat) (p' : Int), f.read (f.nearest neg m p) = .number neg m' p' ∧
      (m' : Rat) * pw p' = (Toward.even.cut neg (m <<< (p - max (p + m.log2 - f.fractionBits) f.leastPlace).toNat) (max (p + m.log2 - f.fractionBits) f.leastPlace - p).toNat : Rat) * pw (max (p + m.log2 - f.fractionBits) f.leastPlace) := by
  obtain ⟨l1, l2⟩ := two_pow_log m hm
  unfold Format.nearest
  rw [if_neg hm]
  dsimp only
  generalize hL : m.log2 = L at *
  generalize hlast : max (p + (L : Int) - (f.fractionBits : Int)) f.leastPlace = last
  have hll : f.leastPlace ≤ last := by omega
  generalize hc : Toward.even.cut neg (m <<< (p - last).toNat) (last - p).toNat = c
  have hB : 0 < f.binade := Nat.two_pow_pos _
  have h4 : (4 : Nat) ≤ 2 ^ f.exponentBits := by
    have : (2 : Nat) ^ 2 ≤ 2 ^ f.exponentBits := Nat.pow_le_pow_right (by omega) he
    simpa using this
  have hcast : ((2 ^ f.exponentBits : Nat) : Int) = (2 : Int) ^ f.exponentBits := by simp
  obtain ⟨hc1, hc2⟩ := cut_near neg (m <<< (p - last).toNat) (last - p).toNat
  rw [hc, shl_eq] at hc1 hc2
  have hup : c ≤ 2 * f.binade := by
    rw [← hc, shl_eq]
    refine cut_le_of neg _ _ _ (by omega) ?_
    have e : 2 * f.binade = 2 ^ (f.fractionBits + 1) := by unfold Format.binade; rw [Nat.pow_succ]; omega
    rw [e]
    refine Nat.le_trans (Nat.mul_le_mul_right _ (Nat.le_of_lt l2)) ?_
    rw [← Nat.pow_add, ← Nat.pow_add]
    exact Nat.pow_le_pow_right (by omega) (by omega)
  have hdn : last ≠ f.leastPlace → f.binade ≤ c := by
    intro hne
    rw [← hc, shl_eq]
    refine cut_ge_of neg _ _ _ ?_
    refine Nat.le_trans ?_ (Nat.mul_le_mul_right _ l1)
    unfold Format.binade
    rw [← Nat.pow_add, ← Nat.pow_add]
    exact Nat.pow_le_pow_right (by omega) (by omega)
  obtain ⟨d, hd⟩ : ∃ d : Nat, (last - f.leastPlace).toNat = d := ⟨_, rfl⟩
  rw [hd]
  have hd3 : d + 3 ≤ 2 ^ f.exponentBits - 1 := by omega
  have hrung : d * f.binade + c < f.infRung := by
    have a1 : (d + 3) * f.binade ≤ (2 ^ f.exponentBits - 1) * f.binade := Nat.mul_le_mul_right _ hd3
    rw [Nat.add_mul] at a1
    unfold Format.infRung
    omega
  rw [Nat.min_eq_left (Nat.le_of_lt hrung), read_word f neg _ (Nat.lt_trans hrung f.infRung_lt)]
  by_cases hkB : d * f.binade + c < f.binade
  · have hd0 : d = 0 := by
      rcases Nat.eq_zero_or_pos d with h | h
      · exact h
      · have := Nat.mul_le_mul_right f.binade h
        omega
    subst hd0
    rw [if_pos hkB]
    refine ⟨_, _, rfl, ?_⟩
    rw [Nat.zero_mul, Nat.zero_add, show f.leastPlace = last by omega]
  · rw [if_neg hkB, if_pos hrung]
    refine ⟨_, _, rfl, ?_⟩
    by_cases hfull : c = 2 * f.binade
    · have e1 : (d * f.binade + c) / f.binade = d + 2 := by
        rw [hfull, ← Nat.add_mul, Nat.mul_div_cancel _ hB]
      have e2 : (d * f.binade + c) % f.binade = 0 := by
        rw [hfull, ← Nat.add_mul, Nat.mul_mod_left]
      rw [e1, e2, Nat.add_zero, hfull, Rat.natCast_mul, show f.leastPlace + ((d + 2 - 1 : Nat) : Int) = 1 + last by omega, pw_add, show pw 1 = 2 by decide +kernel]
      grind
    · have hge : f.binade ≤ c := by
        by_cases h : last = f.leastPlace
        · have : d = 0 := by omega
          subst this
          omega
        · exact hdn h
      have e1 : (d * f.binade + c) / f.binade = d + 1 := by
        rw [Nat.div_eq_of_lt_le]
        · rw [Nat.add_mul]; omega
        · rw [Nat.add_mul, Nat.add_mul]; omega
      have e2 : (d * f.binade + c) % f.binade = c - f.binade := by
        have := Nat.div_add_mod (d * f.binade + c) f.binade
        rw [e1, Nat.mul_add, Nat.mul_comm f.binade d] at this
        omega
      rw [e1, e2, show f.binade + (c - f.binade) = c by omega, show f.leastPlace + ((d + 1 - 1 : Nat) : Int) = last by omega]


/-- Half a unit in the last place, of a number of the size 1. -/
def uk : FloatKind → Rat
  | .f32 => 1 / 16777216
  | .f64 => 1 / 9007199254740992
/-- Less than any number that matters here. -/
def eta : Rat := 1 / 1267650600228229401496703205376
def big : Rat := 1267650600228229401496703205376
theorem uk_pos (k : FloatKind) : 0 < uk k := by cases k <;> decide +kernel
theorem uk_le (k : FloatKind) : uk k ≤ 1 / 16777216 := by cases k <;> decide +kernel

theorem kf (k : FloatKind) : 2 ≤ k.format.exponentBits ∧ k.format.leastPlace ≤ -149 ∧ (k.format.fractionBits : Int) ≤ 52 ∧ 23 ≤ (k.format.fractionBits : Int) ∧ 100 - (k.format.fractionBits : Int) - k.format.leastPlace ≤ (2 ^ k.format.exponentBits - 4 : Int) ∧ pw (- (k.format.fractionBits : Int)) = 2 * uk k := by
  cases k <;> exact ⟨by decide, by decide, by decide, by decide, by decide, by decide +kernel⟩

theorem dv_zero (s : Bool) (p : Int) : dv s 0 p = 0 := by
  unfold dv
  cases s <;> simp
theorem dv_abs (s : Bool) (m : Nat) (p : Int) : dv s m p = (m : Rat) * pw p ∨ dv s m p = -((m : Rat) * pw p) := by
  cases s
  · exact .inl rfl
  · exact .inr rfl
theorem mag_nonneg (m : Nat) (p : Int) : 0 ≤ (m : Rat) * pw p := Rat.mul_nonneg Rat.natCast_nonneg (Rat.le_of_lt (pw_pos p))

theorem keep_one {m A Q P c D L : Rat} (d1 : 2 * (m * A) * Q ≤ (2 * (c * D) + D) * Q) (e1 : A * Q = P) (e2 : D * Q = L) : 2 * (m * P) ≤ 2 * (c * L) + L := by
  subst e1 e2
  grind
theorem keep_two {m A Q P c D L : Rat} (d1 : 2 * (c * D) * Q ≤ (2 * (m * A) + D) * Q) (e1 : A * Q = P) (e2 : D * Q = L) : 2 * (c * L) ≤ 2 * (m * P) + L := by
  subst e1 e2
  grind
theorem last_err {last e uk2 B : Rat} (h3 : last ≤ e) (h4 : e ≤ 2 * eta) (h : 0 ≤ uk2) : last ≤ 2 * (uk2 + eta) + B - B := by grind
/-- A rounded number is near. -/
theorem near_fv {k : FloatKind} (s : Bool) (m : Nat) (p : Int) {B : Rat} (h : (m : Rat) * pw p ≤ B) (hB : B ≤ big) :
    ∃ c, FV k (k.format.nearest s m p) c ∧ -(B * uk k + eta) ≤ c - dv s m p ∧ c - dv s m p ≤ B * uk k + eta := by
  obtain ⟨k1, k2, k3, k4, k5, k6⟩ := kf k
  have hB0 : 0 ≤ B := Rat.le_trans (mag_nonneg m p) h
  have hBu : 0 ≤ B * uk k := Rat.mul_nonneg hB0 (Rat.le_of_lt (uk_pos k))
  have heta : 0 < eta := by decide +kernel
  by_cases hm : m = 0
  · subst hm
    refine ⟨0, ⟨s, 0, _, read_zero _ s p (Nat.two_pow_pos _), dv_zero _ _⟩, ?_, ?_⟩ <;> rw [dv_zero] <;> grind
  · obtain ⟨l1, l2⟩ := two_pow_log m hm
    have hv : pw (p + (m.log2 : Int)) ≤ (m : Rat) * pw p := by
      rw [pw_add, pw_nat, Rat.mul_comm]
      exact Rat.mul_le_mul_of_nonneg_right (Rat.natCast_le_natCast.2 l1) (Rat.le_of_lt (pw_pos p))
    have hL : p + (m.log2 : Int) ≤ 100 := by
      rw [← pw_le_iff]
      refine Rat.le_trans hv (Rat.le_trans h (Rat.le_trans hB ?_))
      decide +kernel
    obtain ⟨m', p', h1, h2⟩ := near_kept k.format s m p hm k1 (by omega)
    refine ⟨dv s m' p', ⟨s, m', p', h1, rfl⟩, ?_⟩
    generalize hlast : max (p + (m.log2 : Int) - (k.format.fractionBits : Int)) k.format.leastPlace = last at h2
    obtain ⟨c1, c2⟩ := cut_near s (m <<< (p - last).toNat) (last - p).toNat
    generalize Toward.even.cut s (m <<< (p - last).toNat) (last - p).toNat = c at c1 c2 h2
    rw [shl_eq] at c1 c2
    have c1' := Rat.natCast_le_natCast.2 c1
    have c2' := Rat.natCast_le_natCast.2 c2
    simp only [Rat.natCast_mul, Rat.natCast_add, ← pw_nat] at c1' c2'
    have hsp : ((((p - last).toNat : Nat) : Int)) + (last - ((last - p).toNat : Int)) = p := by omega
    have hq := Rat.le_of_lt (pw_pos (last - ((last - p).toNat : Int)))
    have d1 := Rat.mul_le_mul_of_nonneg_right c1' hq
    have d2 := Rat.mul_le_mul_of_nonneg_right c2' hq
    have e1 : pw ((p - last).toNat : Int) * pw (last - ((last - p).toNat : Int)) = pw p := by rw [← pw_add, hsp]
    have e2 : pw ((last - p).toNat : Int) * pw (last - ((last - p).toNat : Int)) = pw last := by rw [← pw_add]; congr 1; omega
    have k1 : 2 * ((m : Rat) * pw p) ≤ 2 * ((m' : Rat) * pw p') + pw last := by
      rw [h2]
      exact keep_one d1 e1 e2
    have k2' : 2 * ((m' : Rat) * pw p') ≤ 2 * ((m : Rat) * pw p) + pw last := by
      rw [h2]
      exact keep_two d2 e1 e2
    have hlast2 : pw last ≤ 2 * (B * uk k + eta) := by
      by_cases hbig : k.format.leastPlace ≤ p + (m.log2 : Int) - (k.format.fractionBits : Int)
      · have : last = p + (m.log2 : Int) + -(k.format.fractionBits : Int) := by omega
        rw [this, pw_add, k6]
        have := Rat.mul_le_mul_of_nonneg_right (Rat.le_trans hv h) (Rat.le_of_lt (uk_pos k))
        grind
      · have : last ≤ -149 := by omega
        have h3 := pw_le this
        have h4 : pw (-149) ≤ 2 * eta := by decide +kernel
        grind
    clear c1' c2' d1 d2 e1 e2 c1 c2 hsp hq h2 hlast k5
    unfold dv
    generalize (m : Rat) * pw p = V at *
    generalize (m' : Rat) * pw p' = V' at *
    cases s
    · simp only [Bool.false_eq_true, if_false]
      constructor <;> grind
    · simp only [if_true]
      constructor <;> grind

theorem signed_rv (s : Bool) (m : Nat) (i base : Int) (h : base ≤ i) : ((signed s m (i - base).toNat : Int) : Rat) * pw base = dv s m i := by
  have e : pw i = ((2 ^ (i - base).toNat : Nat) : Rat) * pw base := by
    rw [← pw_nat, ← pw_add]; congr 1; omega
  unfold signed dv
  rw [shl_eq, e]
  cases s
  · simp only [Bool.false_eq_true, if_false]
    rw [Rat.intCast_natCast, Rat.natCast_mul]
    grind
  · simp only [if_true]
    rw [Rat.intCast_neg, Rat.intCast_natCast, Rat.natCast_mul]
    grind

theorem abs_val (n : Int) (z : Bool) (base : Int) : dv (if n = 0 then z else decide (n < 0)) n.natAbs base = (n : Rat) * pw base := by
  unfold dv
  by_cases h0 : n = 0
  · subst h0
    cases z <;> simp
  · rw [if_neg h0]
    by_cases hn : n < 0
    · rw [decide_eq_true hn, if_pos rfl]
      have : (n : Rat) = -((n.natAbs : Nat) : Rat) := by
        rw [← Rat.intCast_natCast, ← Rat.intCast_neg]
        congr 1
        omega
      rw [this]
      grind
    · rw [decide_eq_false hn]
      have : (n : Rat) = ((n.natAbs : Nat) : Rat) := by
        rw [← Rat.intCast_natCast]
        congr 1
        omega
      rw [this]
      rfl

theorem sum_val {s t : Bool} {m n : Nat} {i j : Int} : ∃ s' m' p', (Datum.number s m i).sum (.number t n j) = some (.number s' m' p') ∧ dv s' m' p' = dv s m i + dv t n j := by
  refine ⟨_, _, _, rfl, ?_⟩
  have := signed_rv s m i (min i j) (by omega)
  have := signed_rv t n j (min i j) (by omega)
  refine (abs_val _ _ _).trans ?_
  rw [Rat.intCast_add]
  grind

theorem fadd {k : FloatKind} {x y r : Nat} {a b B : Rat} (hx : FV k x a) (hy : FV k y b) (h : floatBits .add k x y = some r) (h1 : -B ≤ a + b) (h2 : a + b ≤ B) (hB : B ≤ big) :
    ∃ c, FV k r c ∧ -(B * uk k + eta) ≤ c - (a + b) ∧ c - (a + b) ≤ B * uk k + eta := by
  obtain ⟨s, m, i, x1, rfl⟩ := hx
  obtain ⟨t, n, j, y1, rfl⟩ := hy
  obtain ⟨s', m', p', e1, e2⟩ := sum_val (s := s) (t := t) (m := m) (n := n) (i := i) (j := j)
  have e : floatBits .add k x y = some (k.format.nearest s' m' p') := by
    show k.format.add x y = _
    unfold Format.add
    rw [x1, y1, e1]
    rfl
  rw [e] at h
  obtain rfl := Option.some.inj h
  rw [← e2] at h1 h2 ⊢
  refine near_fv s' m' p' ?_ hB
  rcases dv_abs s' m' p' with h | h <;> rw [h] at h1 h2 <;> grind
theorem fadd_some {k : FloatKind} {x y : Nat} {a b : Rat} (hx : FV k x a) (hy : FV k y b) : ∃ r, floatBits .add k x y = some r := by
  obtain ⟨s, m, i, x1, rfl⟩ := hx
  obtain ⟨t, n, j, y1, rfl⟩ := hy
  obtain ⟨s', m', p', e1, e2⟩ := sum_val (s := s) (t := t) (m := m) (n := n) (i := i) (j := j)
  refine ⟨k.format.nearest s' m' p', ?_⟩
  show k.format.add x y = _
  unfold Format.add
  rw [x1, y1, e1]
  rfl

theorem dv_opp (s : Bool) (m : Nat) (p : Int) : dv (!s) m p = -dv s m p := by
  cases s <;> simp [dv]
theorem fsub {k : FloatKind} {x y r : Nat} {a b B : Rat} (hx : FV k x a) (hy : FV k y b) (h : floatBits .sub k x y = some r) (h1 : -B ≤ a - b) (h2 : a - b ≤ B) (hB : B ≤ big) :
    ∃ c, FV k r c ∧ -(B * uk k + eta) ≤ c - (a - b) ∧ c - (a - b) ≤ B * uk k + eta := by
  obtain ⟨s, m, i, x1, rfl⟩ := hx
  obtain ⟨t, n, j, y1, rfl⟩ := hy
  obtain ⟨s', m', p', e1, e2⟩ := sum_val (s := s) (t := !t) (m := m) (n := n) (i := i) (j := j)
  have e : floatBits .sub k x y = some (k.format.nearest s' m' p') := by
    show k.format.sub x y = _
    unfold Format.sub
    rw [x1, y1]
    show Option.map _ ((Datum.number s m i).sum (.number (!t) n j)) = _
    rw [e1]
    rfl
  rw [e] at h
  obtain rfl := Option.some.inj h
  rw [dv_opp, ← Rat.sub_eq_add_neg] at e2
  rw [← e2] at h1 h2 ⊢
  refine near_fv s' m' p' ?_ hB
  rcases dv_abs s' m' p' with h | h <;> rw [h] at h1 h2 <;> grind
theorem fsub_some {k : FloatKind} {x y : Nat} {a b : Rat} (hx : FV k x a) (hy : FV k y b) : ∃ r, floatBits .sub k x y = some r := by
  obtain ⟨s, m, i, x1, rfl⟩ := hx
  obtain ⟨t, n, j, y1, rfl⟩ := hy
  obtain ⟨s', m', p', e1, e2⟩ := sum_val (s := s) (t := !t) (m := m) (n := n) (i := i) (j := j)
  refine ⟨k.format.nearest s' m' p', ?_⟩
  show k.format.sub x y = _
  unfold Format.sub
  rw [x1, y1]
  show Option.map _ ((Datum.number s m i).sum (.number (!t) n j)) = _
  rw [e1]
  rfl

theorem prod_val (s t : Bool) (m n : Nat) (i j : Int) : dv (s ^^ t) (m * n) (i + j) = dv s m i * dv t n j := by
  unfold dv
  rw [pw_add, Rat.natCast_mul]
  cases s <;> cases t <;> simp only [Bool.xor_false, Bool.xor_true, Bool.not_true, Bool.not_false, Bool.false_eq_true, if_true, if_false] <;> grind
theorem fmul {k : FloatKind} {x y r : Nat} {a b B : Rat} (hx : FV k x a) (hy : FV k y b) (h : floatBits .mul k x y = some r) (h1 : -B ≤ a * b) (h2 : a * b ≤ B) (hB : B ≤ big) :
    ∃ c, FV k r c ∧ -(B * uk k + eta) ≤ c - a * b ∧ c - a * b ≤ B * uk k + eta := by
  obtain ⟨s, m, i, x1, rfl⟩ := hx
  obtain ⟨t, n, j, y1, rfl⟩ := hy
  have e : floatBits .mul k x y = some (k.format.nearest (s ^^ t) (m * n) (i + j)) := by
    show k.format.mul x y = _
    unfold Format.mul
    rw [x1, y1]
    rfl
  rw [e] at h
  obtain rfl := Option.some.inj h
  rw [← prod_val] at h1 h2 ⊢
  refine near_fv _ _ _ ?_ hB
  rcases dv_abs (s ^^ t) (m * n) (i + j) with h | h <;> rw [h] at h1 h2 <;> grind
theorem fmul_some {k : FloatKind} {x y : Nat} {a b : Rat} (hx : FV k x a) (hy : FV k y b) : ∃ r, floatBits .mul k x y = some r := by
  obtain ⟨s, m, i, x1, rfl⟩ := hx
  obtain ⟨t, n, j, y1, rfl⟩ := hy
  refine ⟨k.format.nearest (s ^^ t) (m * n) (i + j), ?_⟩
  show k.format.mul x y = _
  unfold Format.mul
  rw [x1, y1]
  rfl

/-- How two finite words stand to each other. -/
theorem ford {k : FloatKind} {x y : Nat} {a b : Rat} (hx : FV k x a) (hy : FV k y b) : k.format.order x y = some (if a < b then .lt else if a = b then .eq else .gt) := by
  obtain ⟨s, m, i, x1, rfl⟩ := hx
  obtain ⟨t, n, j, y1, rfl⟩ := hy
  unfold Format.order
  rw [x1, y1]
  unfold Datum.order
  dsimp only
  have e1 := signed_rv s m i (min i j) (by omega)
  have e2 := signed_rv t n j (min i j) (by omega)
  rw [← e1, ← e2]
  generalize signed s m (i - min i j).toNat = u
  generalize signed t n (j - min i j).toNat = v
  have hp := pw_pos (min i j)
  congr 1
  simp only [compare, compareOfLessAndEq]
  by_cases c1 : u < v
  · rw [if_pos c1, if_pos ((Rat.mul_lt_mul_right hp).2 (Rat.intCast_lt_intCast.2 c1))]
  · rw [if_neg c1, if_neg (fun h => c1 (Rat.intCast_lt_intCast.1 ((Rat.mul_lt_mul_right hp).1 h)))]
    by_cases c2 : u = v
    · rw [if_pos c2, if_pos (by rw [c2])]
    · rw [if_neg c2, if_neg ?_]
      intro h
      refine c2 ?_
      have h1 : (u : Rat) ≤ v := Rat.le_of_mul_le_mul_right (by rw [h]; exact Rat.le_refl) hp
      have h2 : (v : Rat) ≤ u := Rat.le_of_mul_le_mul_right (by rw [h]; exact Rat.le_refl) hp
      exact Int.le_antisymm (Rat.intCast_le_intCast.1 h1) (Rat.intCast_le_intCast.1 h2)


/-- A word of zero. -/
theorem fv_word_zero (k : FloatKind) (s : Bool) : FV k (k.format.word s 0) 0 := by
  refine ⟨s, 0, k.format.leastPlace, ?_, dv_zero _ _⟩
  have := read_zero k.format s 0 (Nat.two_pow_pos _)
  unfold Format.nearest at this
  rw [if_pos rfl] at this
  exact this

/-- The opposite. -/
theorem fv_opp {k : FloatKind} {x y : Nat} {q : Rat} (h : FV k x q) (hy : k.format.read y = (k.format.read x).opposite) : FV k y (-q) := by
  obtain ⟨s, m, p, h1, h2⟩ := h
  refine ⟨!s, m, p, ?_, ?_⟩
  · rw [hy, h1]; rfl
  · rw [dv_opp, h2]

theorem xu_eq {X n U P m pj pi : Rat} (hUi : U * 2 * P * pj = pi) (hXn : X * (n * pj) = m * pi) : X * n * pj = 2 * U * (m * P) * pj := by
  subst hUi
  grind
theorem rat_cancel {a b c : Rat} (h : a * c = b * c) (hc : 0 < c) : a = b :=
  Rat.le_antisymm (Rat.le_of_mul_le_mul_right (by rw [h]; exact Rat.le_refl) hc) (Rat.le_of_mul_le_mul_right (by rw [h]; exact Rat.le_refl) hc)
/-- A quotient of numbers, told to more digits than are kept. -/
theorem quo_val (s t : Bool) {m n : Nat} (i j : Int) (hn : n ≠ 0) (g : Nat) {B : Rat} (h1 : -B ≤ dv s m i / dv t n j) (h2 : dv s m i / dv t n j ≤ B) :
    ∃ s' m' p', (Datum.number s m i).quotient (g + 2) (.number t n j) = some (.number s' m' p') ∧ -(B * pw (-(g : Int) - 1)) ≤ dv s' m' p' - dv s m i / dv t n j ∧ dv s' m' p' - dv s m i / dv t n j ≤ B * pw (-(g : Int) - 1) := by
  unfold Datum.quotient
  dsimp only
  rw [if_neg hn]
  obtain ⟨more, hmore⟩ : ∃ more, more = g + 2 + n.log2 - m.log2 := ⟨_, rfl⟩
  rw [← hmore]
  refine ⟨_, _, _, rfl, ?_⟩
  obtain ⟨n1, n2⟩ := two_pow_log n hn
  rw [shl_eq]
  have hd := Nat.div_add_mod (m * 2 ^ more) n
  have hr := Nat.mod_lt (m * 2 ^ more) (Nat.pos_of_ne_zero hn)
  have hnp : (0 : Rat) < n := Rat.natCast_pos.2 (Nat.pos_of_ne_zero hn)
  have hjp := pw_pos j
  obtain ⟨X, hX⟩ : ∃ X : Rat, X = (m : Rat) * pw i / ((n : Rat) * pw j) := ⟨_, rfl⟩
  have hXn : X * ((n : Rat) * pw j) = (m : Rat) * pw i := by
    rw [hX]
    exact Rat.div_mul_cancel (Rat.ne_of_gt (Rat.mul_pos hnp hjp))
  have hX0 : 0 ≤ X := by
    refine Rat.le_of_mul_le_mul_right (c := (n : Rat) * pw j) ?_ (Rat.mul_pos hnp hjp)
    rw [hXn]
    have := mag_nonneg m i
    grind
  -- in the units of the place
  obtain ⟨U, hU⟩ : ∃ U : Rat, U = pw (i - j - more - 1) := ⟨_, rfl⟩
  have hUp : 0 < U := by rw [hU]; exact pw_pos _
  have hUi : U * 2 * ((2 ^ more : Nat) : Rat) * pw j = pw i := by
    have h2 : pw 1 = 2 := by decide +kernel
    rw [hU, ← pw_nat, ← h2, ← pw_add, ← pw_add, ← pw_add]
    congr 1
    omega
  obtain ⟨Q, hQ⟩ : ∃ Q, Q = m * 2 ^ more / n := ⟨_, rfl⟩
  obtain ⟨R, hR⟩ : ∃ R, R = m * 2 ^ more % n := ⟨_, rfl⟩
  rw [← hQ, ← hR] at hd
  rw [← hR] at hr
  rw [← hQ, ← hR]
  have hdQ : (n : Rat) * Q + R = (m : Rat) * ((2 ^ more : Nat) : Rat) := by
    have := congrArg (fun z : Nat => (z : Rat)) hd
    simpa [Rat.natCast_add, Rat.natCast_mul] using this
  have hRn : (R : Rat) < n := Rat.natCast_lt_natCast.2 hr
  have hR0 : (0 : Rat) ≤ R := Rat.natCast_nonneg
  -- the exact quotient in units
  have hXU : X * n = 2 * U * (n * Q + R) := by
    rw [hdQ]
    exact rat_cancel (xu_eq hUi hXn) hjp
  have key : ∀ b : Nat, b = (R != 0).toNat → ∃ D : Rat, ((2 * Q + b : Nat) : Rat) * U = X + D ∧ -U ≤ D ∧ D ≤ U := by
    intro b hb
    refine ⟨((2 * Q + b : Nat) : Rat) * U - X, by grind, ?_, ?_⟩
    all_goals
      refine Rat.le_of_mul_le_mul_right (c := (n : Rat)) ?_ hnp
      rw [Rat.natCast_add, Rat.natCast_mul]
      have h2' : ((2 : Nat) : Rat) = 2 := rfl
      rw [h2']
      have e : (2 * (Q : Rat) + b) * U - X = (2 * (Q : Rat) + b) * U - X := rfl
      have hUn : 0 ≤ U * n := Rat.le_of_lt (Rat.mul_pos hUp hnp)
      have hUR : 0 ≤ U * R := Rat.mul_nonneg (Rat.le_of_lt hUp) hR0
      have hUR2 : U * R ≤ U * n := Rat.mul_le_mul_of_nonneg_left (Rat.le_of_lt hRn) (Rat.le_of_lt hUp)
      by_cases hz : R = 0
      · subst hz
        have : b = 0 := by rw [hb]; rfl
        subst this
        have h0 : ((0 : Nat) : Rat) = 0 := rfl
        rw [h0] at *
        grind
      · have : b = 1 := by rw [hb]; simp [hz]
        subst this
        have h1 : ((1 : Nat) : Rat) = 1 := rfl
        rw [h1]
        grind
  obtain ⟨D, hD1, hD2, hD3⟩ := key _ rfl
  -- the unit is small beside the quotient
  have hsmall : m = 0 ∨ U ≤ X * pw (-(g : Int) - 1) := by
    by_cases hm : m = 0
    · exact .inl hm
    · right
      obtain ⟨m1, m2⟩ := two_pow_log m hm
      have hb : n * 2 ^ (g + 1) ≤ m * 2 ^ more := by
        refine Nat.le_trans (Nat.mul_le_mul_right _ (Nat.le_of_lt n2)) (Nat.le_trans ?_ (Nat.mul_le_mul_right _ m1))
        rw [← Nat.pow_add, ← Nat.pow_add]
        exact Nat.pow_le_pow_right (by omega) (by omega)
      have hb' := Rat.natCast_le_natCast.2 hb
      rw [Rat.natCast_mul, Rat.natCast_mul, ← hdQ, ← pw_nat] at hb'
      have hg : pw ((g + 1 : Nat) : Int) * pw (-(g : Int) - 1) = 1 := by
        rw [← pw_add, show ((g + 1 : Nat) : Int) + (-(g : Int) - 1) = 0 by omega]
        decide +kernel
      have hgp := pw_pos (-(g : Int) - 1)
      refine Rat.le_of_mul_le_mul_right (c := (n : Rat)) ?_ hnp
      have h3 := Rat.mul_le_mul_of_nonneg_right (Rat.mul_le_mul_of_nonneg_right hb' (Rat.le_of_lt hgp)) (Rat.le_of_lt hUp)
      have h4 : U * (n : Rat) * (pw ((g + 1 : Nat) : Int) * pw (-(g : Int) - 1)) ≤ U * (n * Q + R) * pw (-(g : Int) - 1) := by grind
      rw [hg] at h4
      have h5 : X * pw (-(g : Int) - 1) * n = 2 * (U * (n * Q + R) * pw (-(g : Int) - 1)) := by grind
      rw [h5]
      have h6 : 0 ≤ U * n := Rat.le_of_lt (Rat.mul_pos hUp hnp)
      grind
  have hxy : dv s m i / dv t n j = if (s ^^ t) then -X else X := by
    have hnj : (n : Rat) * pw j ≠ 0 := Rat.ne_of_gt (Rat.mul_pos hnp hjp)
    have hdv : ∀ a b : Rat, b ≠ 0 → a / -b = -(a / b) := fun a b hb => by
      have h1 : a / b * b = a := Rat.div_mul_cancel hb
      have hb' : -b ≠ 0 := by grind
      have h2 : a / -b * -b = a := Rat.div_mul_cancel hb'
      have h3 : (a / -b + a / b) * b = 0 := by grind
      rcases Rat.mul_eq_zero.1 h3 with h | h
      · grind
      · exact absurd h hb
    have hng : ∀ a b : Rat, -a / b = -(a / b) := fun a b => by rw [Rat.div_def, Rat.div_def, Rat.neg_mul]
    unfold dv
    rw [hX]
    cases s <;> cases t <;> simp only [Bool.xor_false, Bool.xor_true, Bool.not_true, Bool.not_false, Bool.false_eq_true, if_true, if_false]
    · exact hdv _ _ hnj
    · exact hng _ _
    · rw [hng, hdv _ _ hnj]; grind
  have hB : X ≤ B := by
    rw [hxy] at h1 h2
    split at h1 <;> simp_all <;> grind
  have hUB : U ≤ B * pw (-(g : Int) - 1) ∨ m = 0 := by
    rcases hsmall with h | h
    · exact .inr h
    · exact .inl (Rat.le_trans h (Rat.mul_le_mul_of_nonneg_right hB (Rat.le_of_lt (pw_pos _))))
  have hB0 : 0 ≤ B := Rat.le_trans hX0 hB
  have hBg : 0 ≤ B * pw (-(g : Int) - 1) := Rat.mul_nonneg hB0 (Rat.le_of_lt (pw_pos _))
  have hfin : -(B * pw (-(g : Int) - 1)) ≤ D ∧ D ≤ B * pw (-(g : Int) - 1) := by
    rcases hUB with h | h
    · constructor <;> grind
    · have : D = 0 := by
        subst h
        have e1 : Q = 0 := by rw [hQ]; simp
        have e2 : R = 0 := by rw [hR]; simp
        have e3 : X = 0 := by
          rw [hX]
          simp [Rat.div_def]
        subst e1 e2
        rw [e3] at hD1
        simp at hD1
        grind
      constructor <;> grind
  rw [hxy]
  unfold dv
  rw [← hU]
  have := hD1
  generalize ((2 * Q + (R != 0).toNat : Nat) : Rat) * U = W at *
  cases hst : (s ^^ t) <;> simp only [Bool.false_eq_true, if_true, if_false] <;> constructor <;> grind

theorem fdiv {k : FloatKind} {x y r : Nat} {a b B : Rat} (hx : FV k x a) (hy : FV k y b) (hb : b ≠ 0) (h : floatBits .quo k x y = some r) (h1 : -B ≤ a / b) (h2 : a / b ≤ B) (hB : B ≤ 1000000) :
    ∃ c, FV k r c ∧ -(3 * B * uk k + eta) ≤ c - a / b ∧ c - a / b ≤ 3 * B * uk k + eta := by
  obtain ⟨s, m, i, x1, rfl⟩ := hx
  obtain ⟨t, n, j, y1, rfl⟩ := hy
  have hn : n ≠ 0 := by
    rintro rfl
    exact hb (dv_zero _ _)
  obtain ⟨s', m', p', e1, e2, e3⟩ := quo_val s t i j hn k.format.fractionBits h1 h2
  have e : floatBits .quo k x y = some (k.format.nearest s' m' p') := by
    show k.format.div x y = _
    unfold Format.div
    rw [x1, y1, e1]
    rfl
  rw [e] at h
  obtain rfl := Option.some.inj h
  have hpu : pw (-(k.format.fractionBits : Int) - 1) = uk k := by cases k <;> decide +kernel
  rw [hpu] at e2 e3
  have hB0 : 0 ≤ B := by grind
  have hu := uk_pos k
  have hul := uk_le k
  have hBu : 0 ≤ B * uk k := Rat.mul_nonneg hB0 (Rat.le_of_lt hu)
  have hBu1 : B * uk k ≤ B * (1 / 16777216) := Rat.mul_le_mul_of_nonneg_left hul hB0
  have hmm : (m' : Rat) * pw p' ≤ B + B * uk k := by
    rcases dv_abs s' m' p' with h | h <;> rw [h] at e2 e3 <;> grind
  have hbig : B + B * uk k ≤ big := by
    have : (2000000 : Rat) ≤ big := by decide +kernel
    grind
  obtain ⟨c, hc, g1, g2⟩ := near_fv (k := k) s' m' p' hmm hbig
  refine ⟨c, hc, ?_⟩
  have hBuu : B * uk k * uk k ≤ B * uk k * (1 / 16777216) := Rat.mul_le_mul_of_nonneg_left hul hBu
  constructor <;> grind

end Fl
end Go.Proofs.Ytddbojpkmgmjmab
