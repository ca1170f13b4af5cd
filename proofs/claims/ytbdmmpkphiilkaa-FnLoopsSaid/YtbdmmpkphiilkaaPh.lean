/-
  The phasor: quarters taken away one by one, and that the answer is one up to not-a-numbers.
  Own work; imports nothing of the program.
-/
import Derived.Test.YtbdmmpkphiilkaaTn
namespace Go.Proofs.Ytbdmmpkphiilkaa
namespace Fl
open Ieee

theorem log2_shift (m s : Nat) (hm : m ≠ 0) : (m * 2 ^ s).log2 = m.log2 + s := by
  obtain ⟨l1, l2⟩ := two_pow_log m hm
  have hp := pow_pos' s
  have hne : m * 2 ^ s ≠ 0 := by
    intro h
    rcases Nat.mul_eq_zero.1 h with h | h
    · exact hm h
    · omega
  obtain ⟨k1, k2⟩ := two_pow_log (m * 2 ^ s) hne
  have a1 : 2 ^ (m.log2 + s) ≤ m * 2 ^ s := by rw [Nat.pow_add]; exact Nat.mul_le_mul_right _ l1
  have a2 : m * 2 ^ s < 2 ^ (m.log2 + s + 1) := by
    have : 2 ^ (m.log2 + s + 1) = 2 ^ (m.log2 + 1) * 2 ^ s := by rw [← Nat.pow_add]; congr 1; omega
    rw [this]
    exact Nat.mul_lt_mul_of_pos_right l2 hp
  have b1 := pow_lt_iff.1 (Nat.lt_of_le_of_lt a1 k2)
  have b2 := pow_lt_iff.1 (Nat.lt_of_le_of_lt k1 a2)
  omega

theorem nearest_shift (neg : Bool) (m s : Nat) (p : Int) (hm : m ≠ 0) (h1 : m < 9007199254740992) (h2 : -1074 ≤ p) : double.nearest neg (m * 2 ^ s) p = double.nearest neg m (p + s) := by
  have hp := pow_pos' s
  have hne : m * 2 ^ s ≠ 0 := by
    intro h
    rcases Nat.mul_eq_zero.1 h with h | h
    · exact hm h
    · omega
  have hL : m.log2 ≤ 52 := by
    have a := (two_pow_log m hm).1
    have : (2 : Nat) ^ m.log2 < 2 ^ 53 := Nat.lt_of_le_of_lt a h1
    have := pow_lt_iff.1 this
    omega
  unfold Format.nearest
  rw [if_neg hne, if_neg hm, log2_shift m s hm]
  dsimp only
  rw [dl, dfr]
  have e0 : p + ((m.log2 + s : Nat) : Int) - 52 = p + (s : Int) + (m.log2 : Int) - 52 := by omega
  rw [e0]
  generalize hlast : max (p + (s : Int) + (m.log2 : Int) - 52) (-1074) = last
  have hle : last ≤ p + s := by omega
  have e1 : (last - (p + (s : Int))).toNat = 0 := by omega
  rw [e1, cut_zero]
  congr 2
  congr 1
  by_cases hc : last ≤ p
  · have e2 : (last - p).toNat = 0 := by omega
    rw [e2, cut_zero, shl_eq, shl_eq, Nat.mul_assoc, ← Nat.pow_add]
    congr 2
    omega
  · have e2 : (p - last).toNat = 0 := by omega
    obtain ⟨d, hd⟩ : ∃ d, (last - p).toNat = d := ⟨_, rfl⟩
    obtain ⟨k, hk⟩ : ∃ k, (p + (s : Int) - last).toNat = k := ⟨_, rfl⟩
    rw [e2, hd, hk, shl_eq, shl_eq, Nat.pow_zero, Nat.mul_one]
    have es : s = k + d := by omega
    rw [es, Nat.pow_add, ← Nat.mul_assoc, cut_exact]

def gqB (x : Nat) : Bool := FloatKind.f64.format.order x 4598175219545276416 == some Ordering.gt || FloatKind.f64.format.order x 4598175219545276416 == some Ordering.eq
theorem read_q : double.read 4598175219545276416 = .number false 4503599627370496 (-54) := by decide +kernel

/-- The number x has the value v, in units of 2^-54. -/
def UV (x v : Nat) : Prop := (∃ p, double.read x = .number false 0 p ∧ v = 0) ∨ ∃ M t s : Nat, double.read x = .number false (M * 2 ^ t) ((s : Int) - 54 - t) ∧ v = M * 2 ^ s

theorem gq_val {x : Nat} (hx : WLe x 2) (hg : gqB x = true) : ∃ s a : Nat, s ≤ 4 ∧ 4503599627370496 ≤ a ∧ a < 9007199254740992 ∧ double.read x = .number false a ((s : Int) - 54) ∧ a * 2 ^ s ≤ 72057594037927936 := by
  have hf : FloatKind.f64.format = double := rfl
  have ei : double.infRung = 9218868437227405312 := by decide
  obtain ⟨sg, m, p, hr, hb⟩ := hx
  have hs : sg = false := by
    cases sg
    · rfl
    · unfold gqB at hg
      rw [hf] at hg
      unfold Format.order at hg
      rw [hr, read_q, order_np _ _ _ _ (by omega)] at hg
      cases hg
  subst hs
  have hpos : WPos x := ⟨_, _, hr⟩
  have hw : 4598175219545276416 ≤ x % 9223372036854775808 := by
    rcases Nat.lt_or_ge (x % 9223372036854775808) 4598175219545276416 with h | h
    · unfold gqB at hg
      rw [pos_order hpos, hf, order_words_lt double h (by rw [ei]; omega)] at hg
      cases hg
    · exact h
  have hrd := pos_read hpos
  have hfin := fin_rung (pos_fin hpos)
  generalize x % 9223372036854775808 = r at hw hrd hfin
  have e0 : double.word false r = r := rfl
  have h0 := read_word double false r (by rw [dsw]; omega)
  rw [e0, hrd, hr, dbin, dinf, dl, if_neg (by omega), if_pos hfin] at h0
  obtain ⟨e, he⟩ : ∃ e, r / 4503599627370496 - 1 = e := ⟨_, rfl⟩
  have he1 : 1020 ≤ e := by omega
  obtain ⟨s, hs⟩ : ∃ s, e = 1020 + s := ⟨e - 1020, by omega⟩
  rw [he] at h0
  obtain ⟨hm, hp⟩ : m = 4503599627370496 + r % 4503599627370496 ∧ p = -1074 + (e : Int) := by cases h0; exact ⟨rfl, rfl⟩
  have hmod : r % 4503599627370496 < 4503599627370496 := Nat.mod_lt _ (by omega)
  obtain ⟨j, j1, j2⟩ := hb.resolve_left (by omega)
  have hj : 52 ≤ j := by
    have : (2 : Nat) ^ 52 ≤ 2 ^ j := Nat.le_trans (by rw [p52]; omega) j1
    exact pow_le_iff.1 this
  have hs4 : s ≤ 4 := by omega
  refine ⟨s, m, hs4, by omega, by omega, ?_, ?_⟩
  · rw [hr]; congr 1; omega
  · have h1 : m * 2 ^ s ≤ 2 ^ j * 2 ^ s := Nat.mul_le_mul_right _ j1
    rw [← Nat.pow_add] at h1
    have h2 : (2 : Nat) ^ (j + s) ≤ 2 ^ 56 := pow_le_iff.2 (by omega)
    have h3 : (2 : Nat) ^ 56 = 72057594037927936 := rfl
    omega

theorem q_step {x z : Nat} (hx : WLe x 2) (hg : gqB x = true) (h : FOp .sub .f64 x 4598175219545276416 z) :
    ∃ s a v : Nat, double.read x = .number false a ((s : Int) - 54) ∧ s ≤ 4 ∧ 4503599627370496 ≤ a ∧ a * 2 ^ s = v + 4503599627370496 ∧ v + 4503599627370496 ≤ 72057594037927936 ∧ UV z v ∧ WLe z 2 := by
  have hf : FloatKind.f64.format = double := rfl
  obtain ⟨s, a, hs, h1, h2, hr, h3⟩ := gq_val hx hg
  have hp := pow_pos' s
  have hge : 4503599627370496 ≤ a * 2 ^ s := Nat.le_trans h1 (Nat.le_mul_of_pos_right _ hp)
  obtain ⟨v, hv⟩ : ∃ v, a * 2 ^ s = v + 4503599627370496 := ⟨a * 2 ^ s - 4503599627370496, by omega⟩
  refine ⟨s, a, v, hr, hs, h1, hv, by omega, ?_⟩
  have hz : z = double.nearest false v (-54) := by
    unfold FOp floatBits at h
    simp only at h
    unfold Format.sub at h
    rw [hf, hr, read_q] at h
    have hb : min ((s : Int) - 54) (-54) = -54 := by omega
    have hsum : (Datum.number false a ((s : Int) - 54)).sum (Datum.number false 4503599627370496 (-54)).opposite = some (.number false v (-54)) := by
      show some (Datum.number _ _ _) = _
      rw [hb]
      have e1 : ((s : Int) - 54 - -54).toNat = s := by omega
      have e2 : ((-54 : Int) - -54).toNat = 0 := by omega
      rw [e1, e2, signed_val, signed_val]
      simp only [Bool.not_false, Bool.false_eq_true, if_false, if_true, Nat.pow_zero, Nat.mul_one]
      have e3 : ((a * 2 ^ s : Nat) : Int) + -((4503599627370496 : Nat) : Int) = (v : Int) := by rw [hv]; omega
      rw [e3]
      congr 2
      by_cases h0 : v = 0
      · subst h0; rfl
      · rw [if_neg (by omega)]
        simp
    rw [hsum] at h
    exact h
  by_cases h0 : v = 0
  · have hzr : double.read z = .number false 0 (-1074) := by rw [hz, h0]; exact read_zero double false _ (by decide)
    exact ⟨.inl ⟨_, hzr, h0⟩, ⟨_, _, _, hzr, .inl rfl⟩⟩
  · obtain ⟨M, hM, hM53⟩ : ∃ M, v = M * 2 ^ s ∧ M < 9007199254740992 := by
      refine ⟨a - 2 ^ (52 - s), ?_, Nat.lt_of_le_of_lt (Nat.sub_le _ _) h2⟩
      rw [Nat.sub_mul, ← Nat.pow_add]
      have : 52 - s + s = 52 := by omega
      rw [this, p52]
      omega
    have hM0 : M ≠ 0 := by intro e; rw [e, Nat.zero_mul] at hM; exact h0 hM
    have hL : M.log2 ≤ 52 := by
      have b := (two_pow_log M hM0).1
      have : (2 : Nat) ^ M.log2 < 2 ^ 53 := Nat.lt_of_le_of_lt b hM53
      have := pow_lt_iff.1 this
      omega
    rw [hM, nearest_shift false M s (-54) hM0 hM53 (by omega)] at hz
    have e3 : (2 : Int) ^ double.exponentBits = 2048 := by decide
    obtain ⟨t, ht⟩ := nearest_exact double false M (-54 + (s : Int)) hM0 hM53 (by rw [dl]; omega) (by rw [dl, dfr, e3]; omega) (by decide)
    rw [← hz] at ht
    refine ⟨.inr ⟨M, t, s, by rw [ht]; congr 1 <;> omega, hM⟩, ⟨_, _, _, ht, .inr ⟨56 - s + t, ?_, by omega⟩⟩⟩
    rw [Nat.pow_add]
    refine Nat.mul_le_mul_right _ ?_
    have h5 : M * 2 ^ s ≤ 2 ^ (56 - s) * 2 ^ s := by
      rw [← Nat.pow_add, ← hM]
      have : 56 - s + s = 56 := by omega
      rw [this]
      have h3 : (2 : Nat) ^ 56 = 72057594037927936 := rfl
      omega
    exact Nat.le_of_mul_le_mul_right h5 hp

theorem uv_gq {x v s a : Nat} (hu : UV x v) (hr : double.read x = .number false a ((s : Int) - 54)) (ha : 4503599627370496 ≤ a) : v = a * 2 ^ s := by
  rcases hu with ⟨p, h, _⟩ | ⟨M, t, s', h, hv⟩
  · rw [hr] at h
    injection h with _ e1 _
    omega
  · rw [hr] at h
    injection h with _ e1 e2
    have e3 : s' = t + s := by omega
    rw [hv, e1, e3, Nat.pow_add, Nat.mul_assoc]

def Quart (f j x : Nat) : Prop := Iter gqB (fun z x => FOp .sub .f64 z 4598175219545276416 x) f j x
theorem Quart.one {f : Nat} (hf : WLe f 2) : ∀ {j x : Nat}, Quart f j x → (WLe x 2 ∧ (j = 0 ∨ ∃ v, UV x v ∧ v + j * 4503599627370496 ≤ 72057594037927936)) ∧ ∀ x', Quart f j x' → x' = x
  | 0, x, h => by
    have e : x = f := h
    subst e
    exact ⟨⟨hf, .inl rfl⟩, fun x' h' => h'⟩
  | j + 1, x, ⟨z, g1, g2, g3⟩ => by
    obtain ⟨⟨b1, b2⟩, d⟩ := Quart.one hf g1
    obtain ⟨s, a, v, hr, hs, ha, hv, hv2, hu, hw⟩ := q_step b1 g2 g3
    refine ⟨⟨hw, .inr ⟨v, hu, ?_⟩⟩, ?_⟩
    · rcases b2 with b2 | ⟨v', hu', b2⟩
      · subst b2; omega
      · have := uv_gq hu' hr ha
        omega
    · rintro x' ⟨z', k1, k2, k3⟩
      have e := d _ k1
      subst e
      exact FOp.det g3 k3 hw
theorem Quart.few {f : Nat} (hf : WLe f 2) {j x : Nat} (h : Quart f j x) (hg : gqB x = true) : j < 16 := by
  obtain ⟨⟨b1, b2⟩, _⟩ := Quart.one hf h
  rcases b2 with b2 | ⟨v, hu, b2⟩
  · omega
  · obtain ⟨s, a, hs, h1, h2, hr, h3⟩ := gq_val b1 hg
    have := uv_gq hu hr h1
    have hp := pow_pos' s
    have hge : 4503599627370496 ≤ a * 2 ^ s := Nat.le_trans h1 (Nat.le_mul_of_pos_right _ hp)
    omega

/-- Which parts the phasor has, behind j quarters. -/
def Pick (j c s a b : Nat) : Prop :=
  if j = 1 then FOp .sub .f64 0 s a ∧ b = c else if j = 2 then FOp .sub .f64 0 c a ∧ FOp .sub .f64 0 s b else if j = 3 then a = s ∧ FOp .sub .f64 0 c b else a = c ∧ b = s
theorem Pick.one {j c s a b : Nat} (hc : WLe c 127) (hs : WLe s 127) (h : Pick j c s a b) : WLe a 127 ∧ WLe b 127 ∧ ∀ a' b', Pick j c s a' b' → a' = a ∧ b' = b := by
  unfold Pick at h ⊢
  split at h
  · rename_i hj
    obtain ⟨h1, h2⟩ := h
    have ba := FOp.zero_sub_le h1 hs (by omega) (by omega)
    refine ⟨ba, by rw [h2]; exact hc, fun a' b' h' => ?_⟩
    rw [if_pos hj] at h'
    exact ⟨FOp.det h1 h'.1 ba, by rw [h2, h'.2]⟩
  · rename_i hj
    split at h
    · rename_i hj2
      obtain ⟨h1, h2⟩ := h
      have ba := FOp.zero_sub_le h1 hc (by omega) (by omega)
      have bb := FOp.zero_sub_le h2 hs (by omega) (by omega)
      refine ⟨ba, bb, fun a' b' h' => ?_⟩
      rw [if_neg hj, if_pos hj2] at h'
      exact ⟨FOp.det h1 h'.1 ba, FOp.det h2 h'.2 bb⟩
    · rename_i hj2
      split at h
      · rename_i hj3
        obtain ⟨h1, h2⟩ := h
        have bb := FOp.zero_sub_le h2 hc (by omega) (by omega)
        refine ⟨by rw [h1]; exact hs, bb, fun a' b' h' => ?_⟩
        rw [if_neg hj, if_neg hj2, if_pos hj3] at h'
        exact ⟨by rw [h1, h'.1], FOp.det h2 h'.2 bb⟩
      · rename_i hj3
        obtain ⟨h1, h2⟩ := h
        refine ⟨by rw [h1]; exact hc, by rw [h2]; exact hs, fun a' b' h' => ?_⟩
        rw [if_neg hj, if_neg hj2, if_neg hj3] at h'
        exact ⟨by rw [h1, h'.1], by rw [h2, h'.2]⟩

/-- What a phasor of y may be, where y is finite and near enough to nothing. -/
def PhasR (y re im : Nat) : Prop := ∃ f j x g c s a b, PartR y f ∧ Quart f j x ∧ gqB x = false ∧ FOp .sub .f64 4598175219545276416 x g ∧ SineR g c ∧ SineR x s ∧ Pick j c s a b ∧ FCv .f64 .f32 a re ∧ FCv .f64 .f32 b im
theorem PhasR.same {y re im re' im' : Nat} (hy : WLe y 52) (h : PhasR y re im) (h' : PhasR y re' im') : FSame .f32 re re' ∧ FSame .f32 im im' := by
  obtain ⟨f, j, x, g, c, s, a, b, k1, k2, k3, k4, k5, k6, k7, k8, k9⟩ := h
  obtain ⟨f', j', x', g', c', s', a', b', l1, l2, l3, l4, l5, l6, l7, l8, l9⟩ := h'
  have hf := PartR.le hy k1
  have e := PartR.det hy k1 l1
  subst e
  obtain ⟨e1, e2⟩ := Iter.stop (fun a b c hb hc => (Quart.one hf hb).2 c hc) k2 k3 l2 l3
  subst e1
  subst e2
  obtain ⟨⟨bx, _⟩, _⟩ := Quart.one hf k2
  have bg := FOp.sub_le k4 (quarter_le.mono (show (0 : Int) ≤ 2 by omega)) bx (by omega) (by omega)
  have e := FOp.det k4 l4 bg
  subst e
  have bg2 : WLe g' 52 := bg.mono (by omega)
  have bx2 : WLe x' 52 := bx.mono (by omega)
  have e := SineR.det bg2 k5 l5
  subst e
  have e := SineR.det bx2 k6 l6
  subst e
  obtain ⟨ba, bb, hd⟩ := Pick.one (SineR.le bg2 k5) (SineR.le bx2 k6) k7
  obtain ⟨e1, e2⟩ := hd _ _ l7
  subst e1
  subst e2
  exact ⟨told_same (FSame.refl _ _) (ba.told (by omega)) k8 l8, told_same (FSame.refl _ _) (bb.told (by omega)) k9 l9⟩

end Fl
end Go.Proofs.Ytbdmmpkphiilkaa
