/-
  Tenths of decibels: sharper bounds of the logarithm, and the floor.
  Own work; imports nothing of the program.
-/
import Derived.Test.YtbdmmpkphiilkaaLg
namespace Go.Proofs.Ytbdmmpkphiilkaa
namespace Fl
open Ieee

theorem diff_le {d e : Datum} {a : Int} (hd : DPos d) (he : DPos e) (hd1 : DLe d a) (he1 : DLe e a) : ∃ r, d.sum e.opposite = some r ∧ DLe r a := by
  obtain ⟨m, p, rfl⟩ := hd
  obtain ⟨n, q, rfl⟩ := he
  obtain ⟨s', m', p', e1, h1⟩ := hd1
  cases e1
  obtain ⟨t', n', q', e2, h2⟩ := he1
  cases e2
  refine ⟨_, rfl, _, _, _, rfl, ?_⟩
  generalize hbase : min p q = base
  have hab : (signed false m (p - base).toNat + signed (!false) n (q - base).toNat).natAbs ≤ m * 2 ^ (p - base).toNat ∨
      (signed false m (p - base).toNat + signed (!false) n (q - base).toNat).natAbs ≤ n * 2 ^ (q - base).toNat := by
    rw [signed_val, signed_val]
    simp only [Bool.not_false, Bool.false_eq_true, if_false, if_true]
    generalize m * 2 ^ (p - base).toNat = X
    generalize n * 2 ^ (q - base).toNat = Y
    omega
  generalize (signed false m (p - base).toNat + signed (!false) n (q - base).toNat).natAbs = T at hab
  have f : m = 0 ∨ (base ≤ a ∧ m * 2 ^ (p - base).toNat ≤ 2 ^ (a - base).toNat) := by
    by_cases hm : m = 0
    · exact .inl hm
    · exact .inr (term_le hm (by omega) h1)
  have g : n = 0 ∨ (base ≤ a ∧ n * 2 ^ (q - base).toNat ≤ 2 ^ (a - base).toNat) := by
    by_cases hn : n = 0
    · exact .inl hn
    · exact .inr (term_le hn (by omega) h2)
  by_cases hT : T = 0
  · exact .inl hT
  · right
    rcases hab with h | h
    · rcases f with f | f
      · rw [f, Nat.zero_mul] at h; omega
      · exact ⟨(a - base).toNat, Nat.le_trans h f.2, by have := f.1; omega⟩
    · rcases g with g | g
      · rw [g, Nat.zero_mul] at h; omega
      · exact ⟨(a - base).toNat, Nat.le_trans h g.2, by have := g.1; omega⟩

theorem FOp.diff_le {x y r : Nat} {a : Int} (h : FOp .sub .f64 x y r) (px : WPos x) (py : WPos y) (hx : WLe x a) (hy : WLe y a) (h1 : -1022 ≤ a) (h2 : a ≤ 1023) : WLe r a := by
  obtain ⟨d, hd, hl⟩ := Fl.diff_le px py hx hy
  unfold FOp floatBits at h
  simp only at h
  unfold Format.sub at h
  have hf : FloatKind.f64.format = double := rfl
  rw [hf, hd] at h
  have h : r = double.write d := h
  subst h
  exact write_le hl h1 h2

/-- A difference from nothing is no greater. -/
theorem FOp.zero_sub_le {y r : Nat} {a : Int} (h : FOp .sub .f64 0 y r) (hy : WLe y a) (h1 : -1022 ≤ a) (h2 : a ≤ 1023) : WLe r a := by
  obtain ⟨s, n, q, e, hn⟩ := hy
  have hf : FloatKind.f64.format = double := rfl
  unfold FOp floatBits at h
  simp only at h
  unfold Format.sub at h
  rw [hf, zero64, e] at h
  have h : r = double.write ((Datum.number (if signed false 0 ((-1074 : Int) - min (-1074) q).toNat + signed (!s) n (q - min (-1074) q).toNat = 0 then false && !s else decide (signed false 0 ((-1074 : Int) - min (-1074) q).toNat + signed (!s) n (q - min (-1074) q).toNat < 0)) (signed false 0 ((-1074 : Int) - min (-1074) q).toNat + signed (!s) n (q - min (-1074) q).toNat).natAbs (min (-1074) q))) := h
  subst h
  refine write_le ⟨_, _, _, rfl, ?_⟩ h1 h2
  generalize hbase : min (-1074 : Int) q = base
  have h0 : signed false 0 ((-1074 : Int) - base).toNat = 0 := by rw [signed_val]; simp
  rw [h0, Int.zero_add, signed_abs]
  by_cases hn0 : n = 0
  · left; rw [hn0, Nat.zero_mul]
  · right
    obtain ⟨g1, g2⟩ := term_le hn0 (show base ≤ q by omega) hn
    exact ⟨(a - base).toNat, g2, by omega⟩

theorem sum_ge' {d e : Datum} {c : Int} (hd : DPos d) (he : DGe e c) : ∃ r, d.sum e = some r ∧ DGe r c := by
  obtain ⟨n, q, rfl⟩ := hd
  obtain ⟨m, p, rfl, j, h1, h2⟩ := he
  refine ⟨_, rfl, ?_⟩
  generalize hbase : min q p = base
  have e1 : signed false n (q - base).toNat + signed false m (p - base).toNat = ((m * 2 ^ (p - base).toNat + n * 2 ^ (q - base).toNat : Nat) : Int) := by
    rw [signed_val, signed_val]
    simp
    omega
  rw [e1]
  have hm : 2 ^ j * 2 ^ (p - base).toNat ≤ m * 2 ^ (p - base).toNat := Nat.mul_le_mul_right _ h1
  have hp := pow_pos' j
  have hp2 := pow_pos' (p - base).toNat
  have hpos : 0 < 2 ^ j * 2 ^ (p - base).toNat := Nat.mul_pos hp hp2
  generalize hT : m * 2 ^ (p - base).toNat + n * 2 ^ (q - base).toNat = T
  have hT0 : 2 ^ j * 2 ^ (p - base).toNat ≤ T := by omega
  have hne : ¬ ((T : Nat) : Int) = 0 := by omega
  have hnl : ¬ ((T : Nat) : Int) < 0 := by omega
  rw [if_neg hne]
  refine ⟨T, base, by simp, j + (p - base).toNat, by rw [Nat.pow_add]; exact hT0, by omega⟩

theorem FOp.add_ge' {x y r : Nat} {a c : Int} (h : FOp .add .f64 x y r) (hx : WLe x a) (hy : WLe y a) (gx : WPos x) (gy : WGe y c) (h1 : -1022 ≤ c) (h2 : c ≤ a + 1) (h3 : a + 1 ≤ 1023) : WGe r c := by
  obtain ⟨d, hd, hl⟩ := sum_le hx hy
  obtain ⟨d', hd', hg⟩ := sum_ge' gx gy
  rw [hd] at hd'
  cases hd'
  unfold FOp floatBits at h
  simp only at h
  unfold Format.add at h
  have hf : FloatKind.f64.format = double := rfl
  rw [hf, hd] at h
  have h : r = double.write d := h
  subst h
  exact write_ge hg hl h1 h2 h3

theorem PolyL.le2 {u : Nat} (hu : WLe u 2) : ∀ {j p : Nat}, j ≤ 13 → PolyL u j p → WLe p (3 * j)
  | 0, p, _, h => by rw [show p = 0 from h]; exact zero_le'.mono (by omega)
  | j + 1, p, hj, ⟨q, d, m, h1, h2, h3, h4⟩ => by
    have bq := PolyL.le2 hu (by omega) h1
    have bd := FOp.quo_le h2 one_le (int_ge (n := 25 - 2 * (j : Int)) (by omega) (by omega)) (by omega) (by omega)
    have bm := FOp.mul_le h3 hu bq (by omega) (by omega)
    have bp := FOp.add_le h4 (bd.mono (show (0 : Int) - 0 ≤ 2 + 3 * (j : Int) by omega)) bm (by omega) (by omega)
    exact bp.mono (by omega)

theorem LogT.le2 {e : Int} {x r : Nat} (he : -256 ≤ e ∧ e ≤ 256) (hx : WLe x 1) (gx : WGe x (-1)) (h : LogT e x r) : WLe r 42 := by
  obtain ⟨a, b, s, u, q, m1, m2, m3, h1, h2, h3, h4, h5, h6, h7, h8, h9⟩ := h
  have one1 := one_le.mono (show (0 : Int) ≤ 1 by omega)
  have ba := FOp.diff_le h1 (DGe.pos gx) (DGe.pos one_ge) hx one1 (by omega) (by omega)
  have gb := FOp.add_ge' h2 hx one1 (DGe.pos gx) one_ge (by omega) (by omega) (by omega)
  have bs := FOp.quo_le h3 ba gb (by omega) (by omega)
  have bu := FOp.mul_le h4 bs bs (by omega) (by omega)
  have bq := PolyL.le2 (bu.mono (by omega)) (Nat.le_refl _) h5
  have b1 := FOp.mul_le h6 bs bq (by omega) (by omega)
  have b2 := FOp.mul_le h7 two_le b1 (by omega) (by omega)
  have b3 := FOp.mul_le h8 (int_le he.1 he.2) ln2_le (by omega) (by omega)
  have br := FOp.add_le h9 (b2.mono (show _ ≤ (41 : Int) by omega)) (b3.mono (show _ ≤ (41 : Int) by omega)) (by omega) (by omega)
  exact br.mono (by omega)

theorem LogR.le2 {y r : Nat} (h1 : WGe y (-149)) (h2 : WLe y 128) (h : LogR y r) : WLe r 42 := by
  obtain ⟨j, x1, i, x, k1, k2, k3, k4, k5⟩ := h
  obtain ⟨⟨c1, c2, c3⟩, _⟩ := Down.one h1 h2 k1
  have c4 := geB_no (DGe.pos c1) k2
  obtain ⟨⟨d1, d2, d3⟩, _⟩ := Up.one c1 c4 k3
  have d4 := ltB_no (DGe.pos d1) k4
  exact LogT.le2 (by omega) d2 d4 k5

/-! ### The floor -/

def floorW (x : Nat) : Nat := double.write ((double.read x).integral .down)

theorem cut_down_le (neg : Bool) (n d : Nat) : Toward.down.cut neg n d ≤ n / 2 ^ d + 1 := by
  unfold Toward.cut
  simp only [Nat.one_shiftLeft]
  have hc : ∀ b : Bool, b.toNat ≤ 1 := by intro b; cases b <;> decide
  have h1 := hc (neg && n % 2 ^ min d (n.log2 + 2) != 0)
  have h2 : n / 2 ^ min d (n.log2 + 2) = n / 2 ^ d := by
    by_cases h : d ≤ n.log2 + 2
    · rw [Nat.min_eq_left h]
    · rw [Nat.min_eq_right (by omega)]
      by_cases hn : n = 0
      · subst hn; simp
      · have l2 := (two_pow_log n hn).2
        rw [Nat.div_eq_of_lt (Nat.lt_trans l2 (pow_lt_iff.2 (by omega))), Nat.div_eq_of_lt (Nat.lt_trans l2 (pow_lt_iff.2 (by omega)))]
  rw [h2]
  omega

theorem whole_le' {s : Bool} {m : Nat} {e : Int} {k : Nat} (h : DLe (.number s m e) k) : m * 2 ^ e.toNat / 2 ^ (-e).toNat ≤ 2 ^ k := by
  obtain ⟨s', m', e', he, h⟩ := h
  cases he
  rcases h with h | ⟨j, h1, h2⟩
  · rw [h, Nat.zero_mul, Nat.zero_div]; exact Nat.zero_le _
  · have : m * 2 ^ e.toNat ≤ 2 ^ k * 2 ^ (-e).toNat := by
      rw [← Nat.pow_add]
      refine Nat.le_trans (Nat.mul_le_mul_right _ h1) ?_
      rw [← Nat.pow_add]
      exact pow_le_iff.2 (by omega)
    have h3 := Nat.div_le_div_right (c := 2 ^ (-e).toNat) this
    rwa [Nat.mul_div_cancel _ (pow_pos' _)] at h3

theorem floor_le {x k : Nat} (h : WLe x k) (hk : k + 1 ≤ 1023) : WLe (floorW x) ((k + 1 : Nat) : Int) := by
  have h0 := h
  obtain ⟨s, m, e, he, _⟩ := h
  unfold WLe at h0
  rw [he] at h0
  have hw := whole_le' h0
  have hc := cut_down_le s (m <<< e.toNat) (-e).toNat
  rw [shl_eq] at hc
  unfold floorW
  rw [he]
  refine write_le ⟨_, _, _, rfl, .inr ⟨k + 1, ?_, by omega⟩⟩ (by omega) (by omega)
  rw [shl_eq, Nat.pow_succ]
  have := pow_pos' k
  omega

theorem c43_le : WLe 4631308968768463603 6 := wle_of_rung (by omega) (by omega) (by omega)

/-- The tenths of a positive number. -/
def TenV (b : Nat) (n : Int) : Prop := ∃ y q p s, FCv .f32 .f64 b y ∧ WGe y (-149) ∧ WLe y 128 ∧ LogR y q ∧ FOp .mul .f64 q 4631308968768463603 p ∧ FOp .add .f64 p 4602678819172646912 s ∧ floatToIntVal .f64 (floorW s) .i64 = some n

theorem ten_told {y q p s : Nat} (h1 : WGe y (-149)) (h2 : WLe y 128) (h3 : LogR y q) (h4 : FOp .mul .f64 q 4631308968768463603 p) (h5 : FOp .add .f64 p 4602678819172646912 s) : WLe q 42 ∧ WLe p 48 ∧ WLe s 49 ∧ ∃ n, floatToIntVal .f64 (floorW s) .i64 = some n := by
  have bq := LogR.le2 h1 h2 h3
  have bp := FOp.mul_le h4 bq c43_le (by omega) (by omega)
  have bs := FOp.add_le h5 bp (half_le.mono (show (0 : Int) ≤ 42 + 6 by omega)) (by omega) (by omega)
  have bs' : WLe s ((49 : Nat) : Int) := bs.mono (by omega)
  obtain ⟨_, _, _, _, hv⟩ := int_told ((floor_le bs' (by omega)).mono (by omega))
  exact ⟨bq, bp.mono (by omega), bs.mono (by omega), _, hv⟩

theorem TenV.det {b : Nat} {n n' : Int} (h : TenV b n) (h' : TenV b n') : n' = n := by
  obtain ⟨y, q, p, s, k1, k2, k3, k4, k5, k6, k7⟩ := h
  obtain ⟨y', q', p', s', g1, g2, g3, g4, g5, g6, g7⟩ := h'
  have e := k3.eq (wide_same (FSame.refl _ _) k1 g1)
  subst e
  obtain ⟨bq, bp, bs, _⟩ := ten_told k2 k3 k4 k5 k6
  have e := (LogR.one k2 k3 k4).2 _ g4
  subst e
  have e := FOp.det k5 g5 bp
  subst e
  have e := FOp.det k6 g6 bs
  subst e
  rw [k7] at g7
  cases g7
  rfl

end Fl
end Go.Proofs.Ytbdmmpkphiilkaa
