/-
  A 32-bit number made wide and narrowed again is itself, up to not-a-numbers.
-/
import Derived.Test.YtbdmmpkphiilkaaBd
namespace Go.Proofs.Ytbdmmpkphiilkaa
namespace Fl
open Ieee

theorem word_of {b : Nat} (hb : b < 4294967296) : single.word (b / 2147483648 % 2 == 1) (b % 2147483648) = b := by
  have e1 : single.signWeight = 2147483648 := by decide
  unfold Format.word
  rw [e1]
  by_cases h : b / 2147483648 % 2 = 1
  · rw [show (b / 2147483648 % 2 == 1) = true by rw [h]; rfl]
    simp
    omega
  · rw [show (b / 2147483648 % 2 == 1) = false by rw [beq_eq_false_iff_ne]; exact h]
    simp
    omega

theorem cut_even_exact (neg : Bool) (m t : Nat) : Toward.even.cut neg (m * 2 ^ t) t = m := by
  by_cases hm : m = 0
  · subst hm
    simp [Toward.cut]
  · have hlog : t ≤ (m * 2 ^ t).log2 := by
      have h1 : 2 ^ t ≤ m * 2 ^ t := Nat.le_mul_of_pos_left _ (Nat.pos_of_ne_zero hm)
      exact (Nat.le_log2 (Nat.ne_of_gt (Nat.mul_pos (Nat.pos_of_ne_zero hm) (Nat.two_pow_pos _)))).2 h1
    have hg : (1 : Nat) <<< min t ((m * 2 ^ t).log2 + 2) = 2 ^ t := by
      rw [Nat.min_eq_left (by omega), Nat.one_shiftLeft]
    have hp : 0 < 2 ^ t := Nat.two_pow_pos _
    unfold Toward.cut
    simp only [hg, Nat.mul_div_cancel _ hp, Nat.mul_mod_left]
    simp

theorem rung_sum {e : Int} {m g : Nat} (h3 : -149 ≤ e) (h4 : (g : Int) = (e + 149) * 8388608 + m) : (e - -149).toNat * 8388608 + m = g := by omega
theorem near_back {s : Bool} {m t : Nat} {e : Int} {g : Nat} (hm : m ≠ 0) (h : (m < 8388608 ∧ e = -149 ∧ g = m) ∨ (8388608 ≤ m ∧ m < 16777216 ∧ -149 ≤ e ∧ (g : Int) = (e + 149) * 8388608 + m)) (hg : g < 2139095040) :
    single.nearest s (m * 2 ^ t) (e - t) = single.word s g := by
  have e2 : single.binade = 8388608 := by decide
  have e3 : single.infRung = 2139095040 := by decide
  have e4 : single.leastPlace = -149 := by decide
  have e5 : (single.fractionBits : Int) = 23 := rfl
  have hne : m * 2 ^ t ≠ 0 := Nat.ne_of_gt (Nat.mul_pos (Nat.pos_of_ne_zero hm) (Nat.two_pow_pos _))
  have hlog : (m * 2 ^ t).log2 = m.log2 + t := by
    rw [Nat.log2_eq_iff hne]
    obtain ⟨a1, a2⟩ := two_pow_log m hm
    refine ⟨?_, ?_⟩
    · rw [Nat.pow_add]; exact Nat.mul_le_mul_right _ a1
    · rw [show m.log2 + t + 1 = (m.log2 + 1) + t by omega, Nat.pow_add]
      exact Nat.mul_lt_mul_of_pos_right a2 (Nat.two_pow_pos _)
  have hlast : max (e - (t : Int) + ((m * 2 ^ t).log2 : Int) - 23) (-149) = e := by
    rw [hlog]
    push_cast
    rcases h with ⟨h1, h2, _⟩ | ⟨h1, h2, h3, _⟩
    · have : m.log2 < 23 := (Nat.log2_lt hm).2 (by omega)
      omega
    · have a1 : 23 ≤ m.log2 := (Nat.le_log2 hm).2 (by omega)
      have a2 : m.log2 < 24 := (Nat.log2_lt hm).2 (by omega)
      omega
  unfold Format.nearest
  rw [if_neg hne]
  simp only [e2, e3, e4, e5, hlast]
  rw [show (e - (t : Int) - e).toNat = 0 by omega, show (e - (e - (t : Int))).toNat = t by omega, Nat.shiftLeft_zero, cut_even_exact]
  congr 1
  rcases h with ⟨h1, h2, h3⟩ | ⟨h1, h2, h3, h4⟩
  · subst h2 h3
    rw [show ((-149 : Int) - -149).toNat = 0 from rfl, Nat.zero_mul, Nat.zero_add]
    exact Nat.min_eq_left (Nat.le_of_lt hg)
  · rw [rung_sum h3 h4]
    exact Nat.min_eq_left (Nat.le_of_lt hg)

theorem rung_low (g : Nat) (h : g < 8388608) : (g = 0 → g = 0) ∧ ((g < 8388608 ∧ (-149 : Int) = -149 ∧ g = g) ∨ (8388608 ≤ g ∧ g < 16777216 ∧ (-149 : Int) ≤ -149 ∧ ((g : Nat) : Int) = (-149 + 149) * 8388608 + g)) := ⟨fun h => h, .inl ⟨h, rfl, rfl⟩⟩
theorem rung_high (g : Nat) (h : ¬ g < 8388608) : (8388608 + g % 8388608 = 0 → g = 0) ∧ ((8388608 + g % 8388608 < 8388608 ∧ (-149 : Int) + ((g / 8388608 - 1 : Nat) : Int) = -149 ∧ g = 8388608 + g % 8388608) ∨ (8388608 ≤ 8388608 + g % 8388608 ∧ 8388608 + g % 8388608 < 16777216 ∧ (-149 : Int) ≤ -149 + ((g / 8388608 - 1 : Nat) : Int) ∧ ((g : Nat) : Int) = (-149 + ((g / 8388608 - 1 : Nat) : Int) + 149) * 8388608 + ((8388608 + g % 8388608 : Nat) : Int))) := by
  refine ⟨fun h => by omega, .inr ⟨by omega, by omega, by omega, ?_⟩⟩
  omega
theorem rung_cases {b : Nat} {s : Bool} {m : Nat} {e : Int} (hr : single.read b = .number s m e) : (b / 2147483648 % 2 == 1) = s ∧ b % 2147483648 < 2139095040 ∧ (m = 0 → b % 2147483648 = 0) ∧ ((m < 8388608 ∧ e = -149 ∧ b % 2147483648 = m) ∨ (8388608 ≤ m ∧ m < 16777216 ∧ -149 ≤ e ∧ ((b % 2147483648 : Nat) : Int) = (e + 149) * 8388608 + m)) := by
  have e1 : single.signWeight = 2147483648 := by decide
  have e2 : single.binade = 8388608 := by decide
  have e3 : single.infRung = 2139095040 := by decide
  have e4 : single.leastPlace = -149 := by decide
  unfold Format.read at hr
  simp only [e1, e2, e3, e4] at hr
  generalize b % 2147483648 = g at hr ⊢
  by_cases c1 : g < 8388608
  · rw [if_pos c1] at hr
    injection hr with a1 a2 a3
    subst a1 a2 a3
    exact ⟨rfl, Nat.lt_trans c1 (by decide), rung_low g c1⟩
  · rw [if_neg c1] at hr
    by_cases c2 : g < 2139095040
    · rw [if_pos c2] at hr
      injection hr with a1 a2 a3
      subst a1 a2 a3
      exact ⟨rfl, c2, rung_high g c1⟩
    · rw [if_neg c2] at hr
      split at hr <;> cases hr

theorem back_number {b y : Nat} (hb : b < 4294967296) {s : Bool} {m : Nat} {e : Int} (hr : single.read b = .number s m e) (h : FCv .f32 .f64 b y) {r : Nat} (h' : FCv .f64 .f32 y r) : r = b := by
  have e1 : single.signWeight = 2147483648 := by decide
  have e2 : single.binade = 8388608 := by decide
  have e3 : single.infRung = 2139095040 := by decide
  have e4 : single.leastPlace = -149 := by decide
  have hw := word_of hb
  rcases wide_read h with ⟨h1, _⟩ | ⟨s', h1, _⟩ | ⟨s', m', e', h1, _, _, _, t, p, h2, hp⟩
  · unfold isNan FloatKind.decode at h1
    have hr' : FloatKind.f32.format.read b = .number s m e := hr
    rw [hr'] at h1
    simp [Datum.isNaN] at h1
  · rw [hr] at h1; cases h1
  · rw [hr] at h1
    cases h1
    obtain ⟨hs, hg, h0, hcase⟩ := rung_cases hr
    rw [hs] at hw
    have henc : FloatKind.f32.encode (.number s (m * 2 ^ t) p) = b := by
      show single.nearest s (m * 2 ^ t) p = b
      by_cases hm : m = 0
      · subst hm
        rw [Nat.zero_mul]
        unfold Format.nearest
        rw [if_pos rfl, ← h0 rfl]
        exact hw
      · rw [hp hm, near_back hm hcase hg]
        exact hw
    unfold FCv floatToFloatBits at h'
    rw [if_neg (by decide)] at h'
    unfold FloatKind.decode at h'
    have h2' : FloatKind.f64.format.read y = .number s (m * 2 ^ t) p := h2
    rw [h2'] at h'
    dsimp only at h'
    rw [henc] at h'
    have hr' : FloatKind.f32.format.read b = .number s m e := hr
    rw [hr'] at h'
    exact h'

theorem narrow_wide {b y r : Nat} (hb : b < 4294967296) (h : FCv .f32 .f64 b y) (h' : FCv .f64 .f32 y r) : FSame .f32 r b := by
  rcases wide_read h with ⟨h1, h2⟩ | ⟨s, h1, h2⟩ | ⟨s, m, e, h1, _⟩
  · refine .inr ⟨?_, h1⟩
    unfold FCv at h'
    rw [conv_nan (by decide) h2] at h'
    exact h' h2
  · left
    have e1 : single.signWeight = 2147483648 := by decide
    have e2 : single.binade = 8388608 := by decide
    have e3 : single.infRung = 2139095040 := by decide
    have hw := word_of hb
    have hg : b % 2147483648 = 2139095040 ∧ (b / 2147483648 % 2 == 1) = s := by
      unfold Format.read at h1
      simp only [e1, e2, e3] at h1
      split at h1
      · cases h1
      · split at h1
        · cases h1
        · split at h1
          · rename_i hh
            cases h1
            exact ⟨hh, rfl⟩
          · cases h1
    rw [hg.1, hg.2] at hw
    unfold FCv floatToFloatBits at h'
    rw [if_neg (by decide)] at h'
    unfold FloatKind.decode at h'
    have h2' : FloatKind.f64.format.read y = .infinity s := h2
    rw [h2'] at h'
    dsimp only at h'
    have h'' : r = single.word s single.infRung := h'
    rw [h'', e3, hw]
  · exact .inl (back_number hb h1 h h')

end Fl
end Go.Proofs.Ytbdmmpkphiilkaa
