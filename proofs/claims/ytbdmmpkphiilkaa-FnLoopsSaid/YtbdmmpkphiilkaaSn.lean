/-
  The sine of a number of turns, as a chain of operations: its bounds, and that it is one number.
  Own work; imports nothing of the program.
-/
import Derived.Test.YtbdmmpkphiilkaaSi
namespace Go.Proofs.Ytbdmmpkphiilkaa
namespace Fl
open Ieee

abbrev ONE : Nat := 4607182418800017408
abbrev HALF : Nat := 4602678819172646912
abbrev QUARTER : Nat := 4598175219545276416
abbrev TWOPI : Nat := 4618760256179416344

theorem one_le : WLe 4607182418800017408 0 := wle_of_rung (by omega) (by omega) (by omega)
theorem half_le : WLe 4602678819172646912 0 := wle_of_rung (by omega) (by omega) (by omega)
theorem twopi_le : WLe 4618760256179416344 3 := wle_of_rung (by omega) (by omega) (by omega)

theorem FOp.det {op : BinOp} {x y r r' : Nat} {k : Int} (h : FOp op .f64 x y r) (h' : FOp op .f64 x y r') (hr : WLe r k) : r' = r :=
  (hr.eq (FOp.same (FSame.refl _ _) (FSame.refl _ _) h h')).symm

theorem int_ge {n : Int} (h0 : 1 ≤ n) (h1 : n ≤ 4503599627370496) : WGe (floatOfInt .f64 n) 0 := by
  have hz : floatOfInt .f64 n = double.nearest (decide (n < 0)) n.natAbs 0 := rfl
  have hs : decide (n < 0) = false := by rw [decide_eq_false_iff_not]; omega
  have hl52 : n.natAbs.log2 ≤ 52 := log_le_of (by omega) (by have a1 : (2 : Nat) ^ 52 = 4503599627370496 := rfl; omega)
  have e1 : double.leastPlace = -1074 := by decide
  have e2 : (double.fractionBits : Int) = 52 := rfl
  have e3 : (2 : Int) ^ double.exponentBits = 2048 := by decide
  obtain ⟨t, ht⟩ := nearest_exact double false n.natAbs 0 (by omega) (by have a1 : (2 : Nat) ^ (double.fractionBits + 1) = 9007199254740992 := rfl; omega) (by rw [e1]; omega) (by rw [e1, e2, e3]; omega) (by decide)
  refine ⟨_, _, by rw [hz, hs]; exact ht, t, ?_, by omega⟩
  exact Nat.le_mul_of_pos_left _ (by omega)

def Step1 (f g : Nat) : Prop := if (FloatKind.f64.format.order f 0 == some Ordering.lt) = true then FOp .add .f64 f 4607182418800017408 g else g = f
def halfB (f : Nat) : Bool := FloatKind.f64.format.order f 4602678819172646912 == some Ordering.gt || FloatKind.f64.format.order f 4602678819172646912 == some Ordering.eq
def Step2 (f g : Nat) : Prop := if halfB f = true then FOp .sub .f64 f 4602678819172646912 g else g = f
def Step3 (f g : Nat) : Prop := if (FloatKind.f64.format.order f 4598175219545276416 == some Ordering.gt) = true then FOp .sub .f64 4602678819172646912 f g else g = f

theorem Step1.le {f g : Nat} {k : Int} (h : Step1 f g) (hf : WLe f k) (h0 : 0 ≤ k) (h1 : k ≤ 1000) : WLe g (k + 1) := by
  unfold Step1 at h
  split at h
  · exact FOp.add_le h hf (one_le.mono h0) (by omega) (by omega)
  · rw [h]; exact hf.mono (by omega)
theorem Step2.le {f g : Nat} {k : Int} (h : Step2 f g) (hf : WLe f k) (h0 : 0 ≤ k) (h1 : k ≤ 1000) : WLe g (k + 1) := by
  unfold Step2 at h
  split at h
  · exact FOp.sub_le h hf (half_le.mono h0) (by omega) (by omega)
  · rw [h]; exact hf.mono (by omega)
theorem Step3.le {f g : Nat} {k : Int} (h : Step3 f g) (hf : WLe f k) (h0 : 0 ≤ k) (h1 : k ≤ 1000) : WLe g (k + 1) := by
  unfold Step3 at h
  split at h
  · exact FOp.sub_le h (half_le.mono h0) hf (by omega) (by omega)
  · rw [h]; exact hf.mono (by omega)
theorem Step1.det {f g g' : Nat} {k : Int} (h : Step1 f g) (h' : Step1 f g') (hg : WLe g k) : g' = g := by
  unfold Step1 at h h'
  split at h
  · rename_i hc; rw [if_pos hc] at h'; exact FOp.det h h' hg
  · rename_i hc; rw [if_neg hc] at h'; rw [h, h']
theorem Step2.det {f g g' : Nat} {k : Int} (h : Step2 f g) (h' : Step2 f g') (hg : WLe g k) : g' = g := by
  unfold Step2 at h h'
  split at h
  · rename_i hc; rw [if_pos hc] at h'; exact FOp.det h h' hg
  · rename_i hc; rw [if_neg hc] at h'; rw [h, h']
theorem Step3.det {f g g' : Nat} {k : Int} (h : Step3 f g) (h' : Step3 f g') (hg : WLe g k) : g' = g := by
  unfold Step3 at h h'
  split at h
  · rename_i hc; rw [if_pos hc] at h'; exact FOp.det h h' hg
  · rename_i hc; rw [if_neg hc] at h'; rw [h, h']

/-- The divisor of a round. -/
def cOf (k : Int) : Int := 2 * k * (2 * k + 1)
/-- The sum after some rounds, the last of which had the number k: from 8 down. -/
def Poly (u : Nat) : Nat → Nat → Prop
  | 0, p => p = 4607182418800017408
  | j + 1, p => ∃ q a d, Poly u j q ∧ FOp .mul .f64 u q a ∧ FOp .quo .f64 a (floatOfInt .f64 (cOf (8 - (j : Int)))) d ∧ FOp .sub .f64 4607182418800017408 d p

theorem cOf_bd {j : Nat} (h : j < 8) : 1 ≤ cOf (8 - (j : Int)) ∧ cOf (8 - (j : Int)) ≤ 4503599627370496 := by
  unfold cOf
  rcases (by omega : j = 0 ∨ j = 1 ∨ j = 2 ∨ j = 3 ∨ j = 4 ∨ j = 5 ∨ j = 6 ∨ j = 7) with h | h | h | h | h | h | h | h <;> subst h <;> decide

theorem Poly.one {u : Nat} (hu : WLe u 14) : ∀ {j p : Nat}, j ≤ 8 → Poly u j p → WLe p (15 * j) ∧ ∀ p', Poly u j p' → p' = p
  | 0, p, _, h => ⟨by rw [show p = 4607182418800017408 from h]; exact one_le, fun p' h' => (show p' = 4607182418800017408 from h').trans (show p = 4607182418800017408 from h).symm⟩
  | j + 1, p, hj, ⟨q, a, d, h1, h2, h3, h4⟩ => by
    obtain ⟨bq, dq⟩ := Poly.one hu (by omega) h1
    have ba := FOp.mul_le h2 hu bq (by omega) (by omega)
    obtain ⟨c0, c1⟩ := cOf_bd (j := j) (by omega)
    have bd := FOp.quo_le h3 ba (int_ge c0 c1) (by omega) (by omega)
    have bp := FOp.sub_le h4 (one_le.mono (show (0 : Int) ≤ 14 + 15 * (j : Int) - 0 by omega)) bd (by omega) (by omega)
    refine ⟨bp.mono (by omega), ?_⟩
    rintro p' ⟨q', a', d', g1, g2, g3, g4⟩
    have e1 := dq _ g1
    subst e1
    have e2 := FOp.det h2 g2 ba
    subst e2
    have e3 := FOp.det h3 g3 bd
    subst e3
    exact FOp.det h4 g4 bp

/-- What is left of y without its integer, from 0 up. -/
def PartR (y f : Nat) : Prop := ∃ n f0, floatToIntVal .f64 y .i64 = some n ∧ FOp .sub .f64 y (floatOfInt .f64 n) f0 ∧ Step1 f0 f
/-- The sine of such a number. -/
def SineF (f r : Nat) : Prop := ∃ g h z u p m, Step2 f g ∧ Step3 g h ∧ FOp .mul .f64 h 4618760256179416344 z ∧ FOp .mul .f64 z z u ∧ Poly u 8 p ∧ FOp .mul .f64 z p m ∧ r = if halfB f = true then Op.negFloat .f64 m else m
def SineR (y r : Nat) : Prop := ∃ f, PartR y f ∧ SineF f r

theorem PartR.le {y f : Nat} (hy : WLe y 52) (h : PartR y f) : WLe f 2 := by
  obtain ⟨n, f0, h1, h2, h3⟩ := h
  exact Step1.le h3 (frac_le hy h1 rfl h2) (by omega) (by omega)
theorem PartR.det {y f f' : Nat} (hy : WLe y 52) (h : PartR y f) (h' : PartR y f') : f' = f := by
  have hb := h.le hy
  obtain ⟨n, f0, h1, h2, h3⟩ := h
  obtain ⟨n', f0', g1, g2, g3⟩ := h'
  rw [h1] at g1
  cases g1
  have e := FOp.det h2 g2 (frac_le hy h1 rfl h2)
  subst e
  exact Step1.det h3 g3 hb
theorem SineF.le {f r : Nat} (hf : WLe f 2) (h : SineF f r) : WLe r 127 := by
  obtain ⟨g, i, z, u, p, m, h1, h2, h3, h4, h5, h6, h7⟩ := h
  have bg := Step2.le h1 hf (by omega) (by omega)
  have bi := Step3.le h2 bg (by omega) (by omega)
  have bz := FOp.mul_le h3 bi twopi_le (by omega) (by omega)
  have bu := FOp.mul_le h4 bz bz (by omega) (by omega)
  have bp := (Poly.one (bu.mono (by omega)) (Nat.le_refl _) h5).1
  have bm := FOp.mul_le h6 bz bp (by omega) (by omega)
  rw [h7]
  split
  · exact (neg_le bm).mono (by omega)
  · exact bm.mono (by omega)

theorem SineF.det {f r r' : Nat} (hf : WLe f 2) (h : SineF f r) (h' : SineF f r') : r' = r := by
  obtain ⟨g, i, z, u, p, m, h1, h2, h3, h4, h5, h6, h7⟩ := h
  obtain ⟨g', i', z', u', p', m', g1, g2, g3, g4, g5, g6, g7⟩ := h'
  have bg := Step2.le h1 hf (by omega) (by omega)
  have bi := Step3.le h2 bg (by omega) (by omega)
  have bz := FOp.mul_le h3 bi twopi_le (by omega) (by omega)
  have bu := FOp.mul_le h4 bz bz (by omega) (by omega)
  obtain ⟨bp, dp⟩ := Poly.one (bu.mono (by omega)) (Nat.le_refl _) h5
  have bm := FOp.mul_le h6 bz bp (by omega) (by omega)
  have e1 := Step2.det h1 g1 bg
  subst e1
  have e2 := Step3.det h2 g2 bi
  subst e2
  have e3 := FOp.det h3 g3 bz
  subst e3
  have e4 := FOp.det h4 g4 bu
  subst e4
  have e5 := dp _ g5
  subst e5
  have e6 := FOp.det h6 g6 bm
  subst e6
  rw [h7, g7]

theorem SineR.le {y r : Nat} (hy : WLe y 52) (h : SineR y r) : WLe r 127 := by
  obtain ⟨f, h1, h2⟩ := h
  exact h2.le (h1.le hy)
theorem SineR.det {y r r' : Nat} (hy : WLe y 52) (h : SineR y r) (h' : SineR y r') : r' = r := by
  obtain ⟨f, h1, h2⟩ := h
  obtain ⟨f', g1, g2⟩ := h'
  have e := h1.det hy g1
  subst e
  exact h2.det (h1.le hy) g2

/-! ### Which numbers of turns are too many -/

theorem read_c52 : double.read 4841369599423283200 = .number false 4503599627370496 0 := by decide +kernel
theorem read_n52 : double.read 14064741636278059008 = .number true 4503599627370496 0 := by decide +kernel

theorem cmp_neg (a b : Int) : compare (-a) (-b) = compare b a := by
  rcases Int.lt_trichotomy a b with h | h | h
  · rw [cmp_gt (by omega), cmp_gt h]
  · rw [h, compare_self, compare_self]
  · rw [cmp_lt (by omega), cmp_lt h]
theorem order_neg (m n : Nat) (i j : Int) : (Datum.number true m i).order (.number true n j) = (Datum.number false n j).order (.number false m i) := by
  unfold Datum.order
  simp only [signed, Bool.false_eq_true, if_false, if_true]
  rw [cmp_neg, Int.min_comm]
theorem order_np (m n : Nat) (i j : Int) (hn : n ≠ 0) : (Datum.number true m i).order (.number false n j) = some .lt := by
  unfold Datum.order
  simp only [signed, Bool.false_eq_true, if_false, if_true, shl_eq]
  rw [cmp_lt]
  have : 0 < n * 2 ^ (j - min i j).toNat := Nat.mul_pos (by omega) (pow_pos' _)
  omega
theorem order_pn (m n : Nat) (i j : Int) (hn : n ≠ 0) : (Datum.number false m i).order (.number true n j) = some .gt := by
  unfold Datum.order
  simp only [signed, Bool.false_eq_true, if_false, if_true, shl_eq]
  rw [cmp_gt]
  have : 0 < n * 2 ^ (j - min i j).toNat := Nat.mul_pos (by omega) (pow_pos' _)
  omega

/-- A finite y, few turns or too many: what the tests on both sides say. -/
theorem turns_few {y : Nat} (hf : fin .f64 y = true) (h : y % 9223372036854775808 < 4841369599423283200) :
    FloatKind.f64.format.order (y % 9223372036854775808) 4841369599423283200 = some .lt ∧ FloatKind.f64.format.order y 4841369599423283200 = some .lt ∧ FloatKind.f64.format.order y 14064741636278059008 = some .gt ∧ WLe y 52 := by
  have es : double.signWeight = 9223372036854775808 := by decide
  have ei : double.infRung = 9218868437227405312 := by decide
  have hff : FloatKind.f64.format = double := rfl
  have ha := read_abs double y
  rw [es] at ha
  have o1 : double.order (y % 9223372036854775808) 4841369599423283200 = some .lt := order_words_lt double h (by rw [ei]; omega)
  have hw : WLe y 52 := wle_of_rung (by omega) (by omega) (by omega)
  unfold fin at hf
  rw [hff] at hf ⊢
  cases hy : double.read y with
  | nan s t => rw [hy] at hf; cases hf
  | infinity s => rw [hy] at hf; cases hf
  | number s m p =>
    rw [hy] at ha
    have ho := o1
    unfold Format.order at ho
    rw [ha, read_c52] at ho
    refine ⟨o1, ?_, ?_, hw⟩
    · unfold Format.order
      rw [hy, read_c52]
      cases s
      · exact ho
      · exact order_np _ _ _ _ (by omega)
    · unfold Format.order
      rw [hy, read_n52]
      cases s
      · exact order_pn _ _ _ _ (by omega)
      · rw [order_neg]
        have h2 : (Datum.number false m p).order (.number false 4503599627370496 0) = some .lt := ho
        unfold Datum.order at h2 ⊢
        simp only [Option.some.injEq] at h2 ⊢
        have h3 : ∀ a b : Int, compare a b = .lt → compare b a = .gt := by
          intro a b hab
          rcases Int.lt_trichotomy a b with h | h | h
          · exact cmp_gt h
          · rw [h, compare_self] at hab; cases hab
          · rw [cmp_gt h] at hab; cases hab
        rw [Int.min_comm]
        exact h3 _ _ h2

theorem turns_many {y : Nat} (hf : fin .f64 y = true) (h : 4841369599423283200 ≤ y % 9223372036854775808) :
    (FloatKind.f64.format.order (y % 9223372036854775808) 4841369599423283200 = some .gt ∨ FloatKind.f64.format.order (y % 9223372036854775808) 4841369599423283200 = some .eq) ∧
    ((FloatKind.f64.format.order y 4841369599423283200 = some .gt ∨ FloatKind.f64.format.order y 4841369599423283200 = some .eq) ∨
      (FloatKind.f64.format.order y 4841369599423283200 = some .lt ∧ (FloatKind.f64.format.order y 14064741636278059008 = some .lt ∨ FloatKind.f64.format.order y 14064741636278059008 = some .eq))) := by
  have es : double.signWeight = 9223372036854775808 := by decide
  have ei : double.infRung = 9218868437227405312 := by decide
  have hff : FloatKind.f64.format = double := rfl
  have ha := read_abs double y
  rw [es] at ha
  unfold fin at hf
  rw [hff] at hf ⊢
  cases hy : double.read y with
  | nan s t => rw [hy] at hf; cases hf
  | infinity s => rw [hy] at hf; cases hf
  | number s m p =>
    rw [hy] at ha
    have hfin : y % 9223372036854775808 < 9218868437227405312 := by
      have hr := read_word double false (y % 9223372036854775808) (by rw [es]; exact Nat.mod_lt _ (by omega))
      have e : double.word false (y % 9223372036854775808) = y % 9223372036854775808 := rfl
      have eb : double.binade = 4503599627370496 := by decide
      rw [e, ha, ei, eb] at hr
      by_cases h9 : y % 9223372036854775808 < 9218868437227405312
      · exact h9
      · rw [if_neg (by omega), if_neg h9] at hr
        by_cases hq : y % 9223372036854775808 = 9218868437227405312
        · rw [if_pos hq] at hr; cases hr
        · rw [if_neg hq] at hr; cases hr
    have o1 : double.order (y % 9223372036854775808) 4841369599423283200 = some .gt ∨ double.order (y % 9223372036854775808) 4841369599423283200 = some .eq := by
      by_cases he : y % 9223372036854775808 = 4841369599423283200
      · right
        rw [he]
        unfold Format.order
        rw [read_c52]
        unfold Datum.order
        simp only [compare_self]
      · left
        exact order_words_gt double (by omega) (by rw [ei]; exact hfin)
    refine ⟨o1, ?_⟩
    have ho : (Datum.number false m p).order (.number false 4503599627370496 0) = some .gt ∨ (Datum.number false m p).order (.number false 4503599627370496 0) = some .eq := by
      unfold Format.order at o1
      rw [ha, read_c52] at o1
      exact o1
    cases s
    · left
      unfold Format.order
      rw [hy, read_c52]
      exact ho
    · right
      unfold Format.order
      rw [hy, read_c52, read_n52]
      refine ⟨order_np _ _ _ _ (by omega), ?_⟩
      rw [order_neg]
      unfold Datum.order at ho ⊢
      simp only [Option.some.injEq] at ho ⊢
      rw [Int.min_comm 0 p]
      rcases ho with ho | ho
      · left
        rcases Int.lt_trichotomy (signed false m (p - min p 0).toNat) (signed false 4503599627370496 (0 - min p 0).toNat) with h | h | h
        · rw [cmp_lt h] at ho; cases ho
        · rw [h, compare_self] at ho; cases ho
        · exact cmp_lt h
      · right
        rcases Int.lt_trichotomy (signed false m (p - min p 0).toNat) (signed false 4503599627370496 (0 - min p 0).toNat) with h | h | h
        · rw [cmp_lt h] at ho; cases ho
        · rw [h, compare_self]
        · rw [cmp_gt h] at ho; cases ho

end Fl
end Go.Proofs.Ytbdmmpkphiilkaa
