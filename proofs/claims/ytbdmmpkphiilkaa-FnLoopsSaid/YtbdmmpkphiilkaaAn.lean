/-
  The angle of a point, as a chain of operations: its bounds, and that it is one number.
  Own work; imports nothing of the program.
-/
import Derived.Test.YtbdmmpkphiilkaaSn
namespace Go.Proofs.Ytbdmmpkphiilkaa
namespace Fl
open Ieee

def WPos (x : Nat) : Prop := DPos (double.read x)

theorem sum_ge {d e : Datum} {c : Int} (hd : DGe d c) (he : DPos e) : ∃ r, d.sum e = some r ∧ DGe r c := by
  obtain ⟨m, p, rfl, j, h1, h2⟩ := hd
  obtain ⟨n, q, rfl⟩ := he
  refine ⟨_, rfl, ?_⟩
  generalize hbase : min p q = base
  have e1 : signed false m (p - base).toNat + signed false n (q - base).toNat = ((m * 2 ^ (p - base).toNat + n * 2 ^ (q - base).toNat : Nat) : Int) := by
    rw [signed_val, signed_val]
    simp
  rw [e1]
  have hm : 2 ^ j * 2 ^ (p - base).toNat ≤ m * 2 ^ (p - base).toNat := Nat.mul_le_mul_right _ h1
  have hp := pow_pos' j
  have hp2 := pow_pos' (p - base).toNat
  have hpos : 0 < 2 ^ j * 2 ^ (p - base).toNat := Nat.mul_pos hp hp2
  generalize hT : m * 2 ^ (p - base).toNat + n * 2 ^ (q - base).toNat = T
  have hT0 : 2 ^ j * 2 ^ (p - base).toNat ≤ T := by omega
  have hne : ¬ ((T : Nat) : Int) = 0 := by omega
  have hnl : ¬ ((T : Nat) : Int) < 0 := by omega
  rw [if_neg hne]
  refine ⟨T, base, by simp, j + (p - base).toNat, by rw [Nat.pow_add]; exact hT0, by omega⟩

theorem FOp.add_ge {x y r : Nat} {a c : Int} (h : FOp .add .f64 x y r) (hx : WLe x a) (hy : WLe y a) (gx : WGe x c) (gy : WPos y) (h1 : -1022 ≤ c) (h2 : c ≤ a + 1) (h3 : a + 1 ≤ 1023) : WGe r c := by
  obtain ⟨d, hd, hl⟩ := sum_le hx hy
  obtain ⟨d', hd', hg⟩ := sum_ge gx gy
  rw [hd] at hd'
  cases hd'
  unfold FOp floatBits at h
  simp only at h
  unfold Format.add at h
  have hf : FloatKind.f64.format = double := rfl
  rw [hf, hd] at h
  have h : r = double.write d := h
  subst h
  exact write_ge hg hl h1 h2 h3

theorem FOp.square_pos {x r : Nat} {a : Int} (h : FOp .mul .f64 x x r) (hx : WLe x a) (h1 : -1022 ≤ a + a) (h2 : a + a ≤ 1023) : WPos r := by
  obtain ⟨d, hd, hl⟩ := product_le hx hx
  have hp : DPos d := by
    obtain ⟨s, m, p, e, _⟩ := hx
    rw [e] at hd
    have hd : d = .number (s ^^ s) (m * m) (p + p) := by simpa [Datum.product] using hd.symm
    rw [hd]
    exact ⟨m * m, p + p, by cases s <;> rfl⟩
  unfold FOp floatBits at h
  simp only at h
  unfold Format.mul at h
  have hf : FloatKind.f64.format = double := rfl
  rw [hf, hd] at h
  have h : r = double.write d := h
  subst h
  exact write_pos hp hl h1 h2

theorem FSq.le_pos {x r : Nat} {a c : Int} (h : FSq x r) (hx : WLe x a) (gx : WGe x c) (h1 : -1022 ≤ a / 2 + 1) (h2 : a / 2 + 1 ≤ 1023) : WLe r (a / 2 + 1) ∧ WPos r := by
  have hroot : ∃ d, (double.read x).root (double.fractionBits + 2) = some d ∧ DPos d := by
    obtain ⟨m, p, e, j, h1, _⟩ := gx
    have hm : m ≠ 0 := by have := pow_pos' j; omega
    rw [e]
    unfold Datum.root
    simp only [if_neg hm, Bool.false_eq_true, if_false]
    exact ⟨_, rfl, _, _, rfl⟩
  obtain ⟨d, hd, hp⟩ := hroot
  have hl := root_le hx hd
  unfold FSq Format.sqrt at h
  have hf : FloatKind.f64.format = double := rfl
  rw [hf, hd] at h
  have h : r = double.write d := h
  subst h
  exact ⟨write_le hl h1 h2, write_pos hp hl h1 h2⟩

/-- The quotient of two positive words, the first no greater, is at most 1. -/
theorem ratio_le {x y r : Nat} (h : FOp .quo .f64 x y r) (hxy : x ≤ y) (hy0 : 0 < y) (hy : y < 9218868437227405312) : WLe r 0 := by
  have ei : double.infRung = 9218868437227405312 := by decide
  obtain ⟨m, t, e1, v1⟩ := read_pos double (r := x) (by rw [ei]; omega)
  obtain ⟨n, u, e2, v2⟩ := read_pos double (r := y) (by rw [ei]; omega)
  have hV : V double x ≤ V double y := by
    rcases Nat.lt_or_eq_of_le hxy with h | h
    · exact Nat.le_of_lt (V_lt double h)
    · rw [h]; exact Nat.le_refl _
  have hV0 : 0 < V double y := by
    have := V_lt double hy0
    omega
  rw [← v1, ← v2] at hV
  rw [← v2] at hV0
  have hn : n ≠ 0 := by rintro rfl; simp at hV0
  unfold FOp floatBits at h
  simp only at h
  unfold Format.div at h
  have hf : FloatKind.f64.format = double := rfl
  rw [hf, e1, e2] at h
  unfold Datum.quotient at h
  simp only [if_neg hn, Option.map_some] at h
  have h : r = double.write _ := h
  rw [h]
  refine write_le (k := 0) ⟨_, _, _, rfl, ?_⟩ (by omega) (by omega)
  generalize hmore : double.fractionBits + 2 + n.log2 - m.log2 = more
  have hbit : ∀ b : Bool, b.toNat ≤ 1 := by decide
  by_cases hm : m = 0
  · left; subst hm; simp
  · right
    rw [shl_eq]
    have hlog : m.log2 + t ≤ n.log2 + u := by
      have l1 := (two_pow_log m hm).1
      have l2 := (two_pow_log n hn).2
      have a1 : 2 ^ (m.log2 + t) ≤ m * 2 ^ t := by rw [Nat.pow_add]; exact Nat.mul_le_mul_right _ l1
      have a2 : n * 2 ^ u < 2 ^ (n.log2 + 1 + u) := by rw [Nat.pow_add]; exact Nat.mul_lt_mul_of_pos_right l2 (pow_pos' u)
      have := pow_lt_iff.1 (Nat.lt_of_le_of_lt (Nat.le_trans a1 hV) a2)
      omega
    have htu : t ≤ u + more := by omega
    refine ⟨u + more - t + 1, ?_, by omega⟩
    have hD : m * 2 ^ more ≤ 2 ^ (u + more - t) * n := by
      have b1 : m * 2 ^ t * 2 ^ more ≤ n * 2 ^ u * 2 ^ more := Nat.mul_le_mul_right _ hV
      have b2 : n * 2 ^ u * 2 ^ more = n * 2 ^ (u + more - t) * 2 ^ t := by
        rw [Nat.mul_assoc, ← Nat.pow_add, Nat.mul_assoc, ← Nat.pow_add]
        congr 2
        omega
      have b3 : m * 2 ^ t * 2 ^ more = m * 2 ^ more * 2 ^ t := Nat.mul_right_comm _ _ _
      rw [b2, b3] at b1
      have := Nat.le_of_mul_le_mul_right b1 (pow_pos' t)
      rw [Nat.mul_comm n] at this
      exact this
    have hb := hbit (m * 2 ^ more % n != 0)
    rw [Nat.pow_succ]
    by_cases hq : m * 2 ^ more / n < 2 ^ (u + more - t)
    · omega
    · have hle : m * 2 ^ more / n ≤ 2 ^ (u + more - t) := by
        have := Nat.div_le_div_right (c := n) hD
        rwa [Nat.mul_div_cancel _ (by omega)] at this
      have heq : m * 2 ^ more / n = 2 ^ (u + more - t) := by omega
      have hmod : m * 2 ^ more % n = 0 := by
        have h0 := Nat.div_add_mod (m * 2 ^ more) n
        rw [heq, Nat.mul_comm n] at h0
        omega
      rw [hmod, heq]
      simp
      omega

theorem quarter_le : WLe 4598175219545276416 0 := wle_of_rung (by omega) (by omega) (by omega)
theorem eight_le : WLe 4620693217682128896 3 := wle_of_rung (by omega) (by omega) (by omega)
theorem zero_le' : WLe 0 0 := wle_of_rung (by omega) (by omega) (by omega)
theorem one_ge : WGe 4607182418800017408 0 := by
  have e : double.word false 4607182418800017408 = 4607182418800017408 := rfl
  have := read_rung_ge 4607182418800017408 0 (by omega) (by omega) (by omega)
  rw [e] at this
  exact this
theorem twopi_ge : WGe 4618760256179416344 0 := by
  have e : double.word false 4618760256179416344 = 4618760256179416344 := rfl
  have := read_rung_ge 4618760256179416344 0 (by omega) (by omega) (by omega)
  rw [e] at this
  exact this

/-- One halving of an angle, told by its tangent. -/
def Halved (t t' : Nat) : Prop := ∃ s s1 q q1, FOp .mul .f64 t t s ∧ FOp .add .f64 4607182418800017408 s s1 ∧ FSq s1 q ∧ FOp .add .f64 4607182418800017408 q q1 ∧ FOp .quo .f64 t q1 t'
theorem FSq.det {x r r' : Nat} {k : Int} (h : FSq x r) (h' : FSq x r') (hr : WLe r k) : r' = r := (hr.eq (FSq.same (FSame.refl _ _) h h')).symm
theorem Halved.one {t t' : Nat} (ht : WLe t 0) (h : Halved t t') : WLe t' 0 ∧ ∀ x, Halved t x → x = t' := by
  obtain ⟨s, s1, q, q1, h1, h2, h3, h4, h5⟩ := h
  have bs := FOp.mul_le h1 ht ht (by omega) (by omega)
  have ps := FOp.square_pos h1 ht (by omega) (by omega)
  have b1 := FOp.add_le h2 one_le bs (by omega) (by omega)
  have g1 := FOp.add_ge h2 one_le bs one_ge ps (by omega) (by omega) (by omega)
  obtain ⟨bq, pq⟩ := FSq.le_pos h3 b1 g1 (by omega) (by omega)
  have bq' : WLe q 1 := bq.mono (by omega)
  have b2 := FOp.add_le h4 (one_le.mono (show (0 : Int) ≤ 1 by omega)) bq' (by omega) (by omega)
  have g2 := FOp.add_ge h4 (one_le.mono (show (0 : Int) ≤ 1 by omega)) bq' one_ge pq (by omega) (by omega) (by omega)
  have bt := FOp.quo_le h5 ht g2 (by omega) (by omega)
  refine ⟨bt.mono (by omega), ?_⟩
  rintro x ⟨s', s1', q', q1', k1, k2, k3, k4, k5⟩
  have e1 := FOp.det h1 k1 bs
  subst e1
  have e2 := FOp.det h2 k2 b1
  subst e2
  have e3 := FSq.det h3 k3 bq
  subst e3
  have e4 := FOp.det h4 k4 b2
  subst e4
  exact FOp.det h5 k5 bt

def HalvedN (t : Nat) : Nat → Nat → Prop
  | 0, x => x = t
  | j + 1, x => ∃ y, HalvedN t j y ∧ Halved y x
theorem HalvedN.one {t : Nat} (ht : WLe t 0) : ∀ {j x : Nat}, HalvedN t j x → WLe x 0 ∧ ∀ z, HalvedN t j z → z = x
  | 0, x, h => ⟨by rw [show x = t from h]; exact ht, fun z hz => (show z = t from hz).trans (show x = t from h).symm⟩
  | j + 1, x, ⟨y, h1, h2⟩ => by
    obtain ⟨by_, dy⟩ := HalvedN.one ht h1
    obtain ⟨bx, dx⟩ := Halved.one by_ h2
    refine ⟨bx, ?_⟩
    rintro z ⟨y', g1, g2⟩
    have e := dy _ g1
    subst e
    exact dx _ g2

/-- The sum of the small angle, after j rounds: 15, 13, .. -/
def PolyA (u : Nat) : Nat → Nat → Prop
  | 0, p => p = 0
  | j + 1, p => ∃ q d m, PolyA u j q ∧ FOp .quo .f64 4607182418800017408 (floatOfInt .f64 (15 - 2 * (j : Int))) d ∧ FOp .mul .f64 u q m ∧ FOp .sub .f64 d m p
theorem PolyA.one {u : Nat} (hu : WLe u 0) : ∀ {j p : Nat}, j ≤ 8 → PolyA u j p → WLe p j ∧ ∀ p', PolyA u j p' → p' = p
  | 0, p, _, h => ⟨by rw [show p = 0 from h]; exact zero_le', fun p' h' => (show p' = 0 from h').trans (show p = 0 from h).symm⟩
  | j + 1, p, hj, ⟨q, d, m, h1, h2, h3, h4⟩ => by
    obtain ⟨bq, dq⟩ := PolyA.one hu (by omega) h1
    have bd := FOp.quo_le h2 one_le (int_ge (n := 15 - 2 * (j : Int)) (by omega) (by omega)) (by omega) (by omega)
    have bm := FOp.mul_le h3 hu bq (by omega) (by omega)
    have bp := FOp.sub_le h4 (bd.mono (show (0 : Int) - 0 ≤ 0 + (j : Int) by omega)) bm (by omega) (by omega)
    refine ⟨bp.mono (by omega), ?_⟩
    rintro p' ⟨q', d', m', g1, g2, g3, g4⟩
    have e1 := dq _ g1
    subst e1
    have e2 := FOp.det h2 g2 bd
    subst e2
    have e3 := FOp.det h3 g3 bm
    subst e3
    exact FOp.det h4 g4 bp

/-- The angle whose tangent is t. -/
def FlatR (t r : Nat) : Prop := ∃ x u p m1 m2, HalvedN t 3 x ∧ FOp .mul .f64 x x u ∧ PolyA u 8 p ∧ FOp .mul .f64 x p m1 ∧ FOp .mul .f64 4620693217682128896 m1 m2 ∧ FOp .quo .f64 m2 4618760256179416344 r
theorem FlatR.one {t r : Nat} (ht : WLe t 0) (h : FlatR t r) : WLe r 11 ∧ ∀ z, FlatR t z → z = r := by
  obtain ⟨x, u, p, m1, m2, h1, h2, h3, h4, h5, h6⟩ := h
  obtain ⟨bx, dx⟩ := HalvedN.one ht h1
  have bu := FOp.mul_le h2 bx bx (by omega) (by omega)
  obtain ⟨bp, dp⟩ := PolyA.one (bu.mono (show (0 : Int) + 0 ≤ 0 by omega)) (Nat.le_refl _) h3
  have b1 := FOp.mul_le h4 bx bp (by omega) (by omega)
  have b2 := FOp.mul_le h5 eight_le b1 (by omega) (by omega)
  have br := FOp.quo_le h6 b2 twopi_ge (by omega) (by omega)
  refine ⟨br.mono (by omega), ?_⟩
  rintro z ⟨x', u', p', m1', m2', g1, g2, g3, g4, g5, g6⟩
  have e1 := dx _ g1
  subst e1
  have e2 := FOp.det h2 g2 bu
  subst e2
  have e3 := dp _ g3
  subst e3
  have e4 := FOp.det h4 g4 b1
  subst e4
  have e5 := FOp.det h5 g5 b2
  subst e5
  exact FOp.det h6 g6 br

/-! ### The whole angle -/

def overB (a b : Nat) : Bool := FloatKind.f64.format.order a b == some Ordering.gt
def TanR (a b t : Nat) : Prop := if overB a b = true then FOp .quo .f64 b a t else FOp .quo .f64 a b t
def St1 (o : Bool) (g x : Nat) : Prop := if o = true then FOp .sub .f64 4598175219545276416 g x else x = g
def St2 (o : Bool) (g x : Nat) : Prop := if o = true then FOp .sub .f64 4602678819172646912 g x else x = g
def AngleR (a b : Nat) (xn yn : Bool) (r : Nat) : Prop := ∃ t g x y, TanR a b t ∧ FlatR t g ∧ St1 (overB a b) g x ∧ St2 xn x y ∧ r = if yn = true then Op.negFloat .f64 y else y

theorem over_words {a b : Nat} (ha : a < 9218868437227405312) (hb : b < 9218868437227405312) : overB a b = decide (b < a) := by
  have ei : double.infRung = 9218868437227405312 := by decide
  have hf : FloatKind.f64.format = double := rfl
  unfold overB
  rw [hf]
  rcases Nat.lt_trichotomy a b with h | h | h
  · rw [order_words_lt double h (by rw [ei]; exact hb), decide_eq_false (by omega)]; rfl
  · subst h
    have := order_self .f64 a
    rw [hf] at this
    rw [this, decide_eq_false (by omega)]
    split <;> rfl
  · rw [order_words_gt double h (by rw [ei]; exact ha), decide_eq_true h]; rfl

theorem TanR.le {a b t : Nat} (h : TanR a b t) (ha : a < 9218868437227405312) (hb : b < 9218868437227405312) (hne : 0 < a ∨ 0 < b) : WLe t 0 := by
  unfold TanR at h
  rw [over_words ha hb] at h
  by_cases hlt : b < a
  · rw [decide_eq_true hlt, if_pos rfl] at h
    exact ratio_le h (by omega) (by omega) ha
  · rw [decide_eq_false hlt, if_neg (by decide)] at h
    exact ratio_le h (by omega) (by omega) hb

theorem AngleR.one {a b r : Nat} {xn yn : Bool} (ha : a < 9218868437227405312) (hb : b < 9218868437227405312) (hne : 0 < a ∨ 0 < b) (h : AngleR a b xn yn r) : WLe r 13 ∧ ∀ z, AngleR a b xn yn z → z = r := by
  obtain ⟨t, g, x, y, h1, h2, h3, h4, h5⟩ := h
  have bt := h1.le ha hb hne
  obtain ⟨bg, dg⟩ := FlatR.one bt h2
  have bx : WLe x 12 := by
    unfold St1 at h3
    split at h3
    · exact (FOp.sub_le h3 (quarter_le.mono (show (0 : Int) ≤ 11 by omega)) bg (by omega) (by omega)).mono (by omega)
    · rw [h3]; exact bg.mono (by omega)
  have by_ : WLe y 13 := by
    unfold St2 at h4
    split at h4
    · exact (FOp.sub_le h4 (half_le.mono (show (0 : Int) ≤ 12 by omega)) bx (by omega) (by omega)).mono (by omega)
    · rw [h4]; exact bx.mono (by omega)
  refine ⟨?_, ?_⟩
  · rw [h5]
    split
    · exact neg_le by_
    · exact by_
  · rintro z ⟨t', g', x', y', k1, k2, k3, k4, k5⟩
    have e1 : t' = t := by
      unfold TanR at h1 k1
      split at h1
      · rename_i hc; rw [if_pos hc] at k1; exact FOp.det h1 k1 bt
      · rename_i hc; rw [if_neg hc] at k1; exact FOp.det h1 k1 bt
    subst e1
    have e2 := dg _ k2
    subst e2
    have e3 : x' = x := by
      unfold St1 at h3 k3
      split at h3
      · rename_i hc; rw [if_pos hc] at k3; exact FOp.det h3 k3 bx
      · rename_i hc; rw [if_neg hc] at k3; rw [h3, k3]
    subst e3
    have e4 : y' = y := by
      unfold St2 at h4 k4
      split at h4
      · rename_i hc; rw [if_pos hc] at k4; exact FOp.det h4 k4 by_
      · rename_i hc; rw [if_neg hc] at k4; rw [h4, k4]
    subst e4
    rw [h5, k5]

/-! ### Signs and zeros, on both sides of the widening -/

theorem order_zero (s : Bool) (m : Nat) (p l : Int) : (Datum.number s m p).order (.number false 0 l) = some (if m = 0 then .eq else if s = true then .lt else .gt) := by
  unfold Datum.order
  simp only
  congr 1
  generalize min p l = base
  have e0 : signed false 0 (l - base).toNat = 0 := by simp [signed]
  rw [e0]
  by_cases hm : m = 0
  · rw [if_pos hm, hm]
    have : signed s 0 (p - base).toNat = 0 := by cases s <;> simp [signed]
    rw [this, compare_self]
  · rw [if_neg hm]
    have hp : 0 < m * 2 ^ (p - base).toNat := Nat.mul_pos (by omega) (pow_pos' _)
    rw [signed_val]
    cases s
    · simp only [Bool.false_eq_true, if_false]
      exact cmp_gt (by omega)
    · simp only [if_true]
      exact cmp_lt (by omega)

theorem zero32 : single.read 0 = .number false 0 (-149) := by decide
theorem zero64 : double.read 0 = .number false 0 (-1074) := by decide
theorem wide_zero {b y : Nat} (h : FCv .f32 .f64 b y) (hf : fin .f32 b = true) : FloatKind.f32.format.order b 0 = FloatKind.f64.format.order y 0 := by
  have h32 : FloatKind.f32.format = single := rfl
  have h64 : FloatKind.f64.format = double := rfl
  unfold fin at hf
  rw [h32] at hf ⊢
  rw [h64]
  rcases wide_read h with ⟨g1, _⟩ | ⟨s, g1, _⟩ | ⟨s, m, e, g1, _, _, _, t, p, g2, _⟩
  · obtain ⟨_, _, e⟩ := decode_nan g1
    have e : single.read b = _ := e
    rw [e] at hf; cases hf
  · rw [g1] at hf; cases hf
  · unfold Format.order
    rw [g1, g2, zero32, zero64, order_zero, order_zero]
    have : (m * 2 ^ t = 0) = (m = 0) := by
      have hp := pow_pos' t
      rw [eq_iff_iff]
      constructor
      · intro h
        rcases Nat.mul_eq_zero.1 h with h | h
        · exact h
        · omega
      · intro h
        rw [h, Nat.zero_mul]
    simp only [this]

theorem fin_rung {y : Nat} (hf : fin .f64 y = true) : y % 9223372036854775808 < 9218868437227405312 := by
  have es : double.signWeight = 9223372036854775808 := by decide
  have ei : double.infRung = 9218868437227405312 := by decide
  have eb : double.binade = 4503599627370496 := by decide
  have ha := read_abs double y
  rw [es] at ha
  have hff : FloatKind.f64.format = double := rfl
  unfold fin at hf
  rw [hff] at hf
  cases hy : double.read y with
  | nan s t => rw [hy] at hf; cases hf
  | infinity s => rw [hy] at hf; cases hf
  | number s m p =>
    rw [hy] at ha
    have hr := read_word double false (y % 9223372036854775808) (by rw [es]; exact Nat.mod_lt _ (by omega))
    have e : double.word false (y % 9223372036854775808) = y % 9223372036854775808 := rfl
    rw [e, ha, ei, eb] at hr
    by_cases h9 : y % 9223372036854775808 < 9218868437227405312
    · exact h9
    · rw [if_neg (by omega), if_neg h9] at hr
      by_cases hq : y % 9223372036854775808 = 9218868437227405312
      · rw [if_pos hq] at hr; cases hr
      · rw [if_neg hq] at hr; cases hr

theorem word_pos {y : Nat} (hf : fin .f64 y = true) (h : (FloatKind.f64.format.order y 0 == some Ordering.eq) = false) : 0 < y % 9223372036854775808 := by
  have es : double.signWeight = 9223372036854775808 := by decide
  have ha := read_abs double y
  rw [es] at ha
  have hff : FloatKind.f64.format = double := rfl
  unfold fin at hf
  rw [hff] at hf h
  cases hy : double.read y with
  | nan s t => rw [hy] at hf; cases hf
  | infinity s => rw [hy] at hf; cases hf
  | number s m p =>
    rw [hy] at ha
    refine Nat.pos_of_ne_zero fun h0 => ?_
    rw [h0, zero64] at ha
    cases ha
    unfold Format.order at h
    rw [hy, zero64, order_zero, if_pos rfl] at h
    cases h

end Fl
end Go.Proofs.Ytbdmmpkphiilkaa
