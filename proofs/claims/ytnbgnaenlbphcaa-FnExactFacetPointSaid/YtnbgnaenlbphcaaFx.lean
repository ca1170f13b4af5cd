/-
  Numbers that a format holds are written and read back exactly; a 32-bit number made wide is the same number.
  Own work; imports nothing of the program.
-/
import Derived.Test.YtnbgnaenlbphcaaFl
namespace Go.Proofs.Ytnbgnaenlbphcaa
namespace Fl
open Ieee

theorem cut_zero (neg : Bool) (n : Nat) : Toward.even.cut neg n 0 = n := by
  simp [Toward.cut, Nat.mod_one]

theorem read_word (f : Format) (neg : Bool) (rung : Nat) (h : rung < f.signWeight) :
    f.read (f.word neg rung) = (if rung < f.binade then .number neg rung f.leastPlace
      else if rung < f.infRung then .number neg (f.binade + rung % f.binade) (f.leastPlace + (rung / f.binade - 1 : Nat))
      else if rung = f.infRung then .infinity neg else .nan neg (rung - f.infRung)) := by
  have hs : 0 < f.signWeight := Nat.two_pow_pos _
  cases neg
  · have e1 : rung / f.signWeight = 0 := Nat.div_eq_of_lt h
    have e2 : rung % f.signWeight = rung := Nat.mod_eq_of_lt h
    simp [Format.read, Format.word, e1, e2]
  · have e1 : (f.signWeight + rung) / f.signWeight = 1 := by
      rw [Nat.add_div_left _ hs, Nat.div_eq_of_lt h]
    have e2 : (f.signWeight + rung) % f.signWeight = rung := by
      rw [Nat.add_mod_left, Nat.mod_eq_of_lt h]
    simp [Format.read, Format.word, e1, e2]

theorem two_pow_log (m : Nat) (h : m ≠ 0) : 2 ^ m.log2 ≤ m ∧ m < 2 ^ (m.log2 + 1) := ⟨Nat.log2_self_le h, Nat.lt_log2_self⟩

theorem shl_eq (m t : Nat) : m <<< t = m * 2 ^ t := Nat.shiftLeft_eq m t

/-- A number with no more digits than the format has, and not too small or great, is written and read exactly. -/
theorem nearest_exact (f : Format) (neg : Bool) (mag : Nat) (place : Int) (hm : mag ≠ 0) (h1 : mag < 2 ^ (f.fractionBits + 1)) (h2 : f.leastPlace ≤ place)
    (h3 : place + mag.log2 - f.fractionBits - f.leastPlace ≤ (2 ^ f.exponentBits - 3 : Int)) (he : 2 ≤ f.exponentBits) :
    ∃ t : Nat, f.read (f.nearest neg mag place) = .number neg (mag * 2 ^ t) (place - t) := by
  obtain ⟨l1, l2⟩ := two_pow_log mag hm
  generalize hL : mag.log2 = L at l1 l2 h3
  have hLf : L ≤ f.fractionBits := by
    have : (2 : Nat) ^ L < 2 ^ (f.fractionBits + 1) := Nat.lt_of_le_of_lt l1 h1
    have := (Nat.pow_lt_pow_iff_right (by omega : 1 < 2)).1 this
    omega
  have hB : 0 < f.binade := Nat.two_pow_pos _
  have h4 : (4 : Nat) ≤ 2 ^ f.exponentBits := by
    have : (2 : Nat) ^ 2 ≤ 2 ^ f.exponentBits := Nat.pow_le_pow_right (by omega) he
    simpa using this
  have hcast : ((2 ^ f.exponentBits : Nat) : Int) = (2 : Int) ^ f.exponentBits := by simp
  unfold Format.nearest
  rw [if_neg hm]
  dsimp only
  rw [hL]
  generalize hlast : max (place + (L : Int) - (f.fractionBits : Int)) f.leastPlace = last
  have hlp : last ≤ place := by omega
  have hll : f.leastPlace ≤ last := by omega
  have e0 : (last - place).toNat = 0 := by omega
  rw [e0, cut_zero, shl_eq]
  obtain ⟨t, ht⟩ : ∃ t : Nat, (place - last).toNat = t := ⟨_, rfl⟩
  obtain ⟨d, hd⟩ : ∃ d : Nat, (last - f.leastPlace).toNat = d := ⟨_, rfl⟩
  rw [ht, hd]
  have htl : t ≤ f.fractionBits - L := by omega
  have hk2 : mag * 2 ^ t < 2 * f.binade := by
    have a1 : mag * 2 ^ t < 2 ^ (L + 1) * 2 ^ t := Nat.mul_lt_mul_of_pos_right l2 (Nat.two_pow_pos _)
    have a2 : 2 ^ (L + 1) * 2 ^ t = 2 ^ (L + 1 + t) := (Nat.pow_add ..).symm
    have a3 : (2 : Nat) ^ (L + 1 + t) ≤ 2 ^ (f.fractionBits + 1) := Nat.pow_le_pow_right (by omega) (by omega)
    have a4 : 2 * f.binade = 2 ^ (f.fractionBits + 1) := by unfold Format.binade; rw [Nat.pow_succ]; omega
    omega
  have hk1 : last ≠ f.leastPlace → f.binade ≤ mag * 2 ^ t := by
    intro hne
    have : t = f.fractionBits - L := by omega
    have a1 : 2 ^ L * 2 ^ t ≤ mag * 2 ^ t := Nat.mul_le_mul_right _ l1
    have a2 : 2 ^ L * 2 ^ t = 2 ^ (L + t) := (Nat.pow_add ..).symm
    have a3 : L + t = f.fractionBits := by omega
    rw [a2, a3] at a1
    exact a1
  have hd3 : d + 2 ≤ 2 ^ f.exponentBits - 1 := by omega
  have hrung : d * f.binade + mag * 2 ^ t < f.infRung := by
    have a1 : (d + 2) * f.binade ≤ (2 ^ f.exponentBits - 1) * f.binade := Nat.mul_le_mul_right _ hd3
    rw [Nat.add_mul] at a1
    unfold Format.infRung
    omega
  refine ⟨t, ?_⟩
  rw [Nat.min_eq_left (Nat.le_of_lt hrung), read_word f neg _ (Nat.lt_trans hrung f.infRung_lt)]
  have hpl : place - (t : Int) = last := by omega
  rw [hpl]
  by_cases hkB : mag * 2 ^ t < f.binade
  · have hle : last = f.leastPlace := by
      by_cases h : last = f.leastPlace
      · exact h
      · exact absurd (hk1 h) (by omega)
    have hd0 : d = 0 := by omega
    subst hd0
    rw [Nat.zero_mul, Nat.zero_add, if_pos hkB, hle]
  · have e1 : (d * f.binade + mag * 2 ^ t) / f.binade = d + 1 := by
      rw [Nat.div_eq_of_lt_le]
      · rw [Nat.add_mul]; omega
      · rw [Nat.add_mul, Nat.add_mul]; omega
    have e2 : (d * f.binade + mag * 2 ^ t) % f.binade = mag * 2 ^ t - f.binade := by
      have := Nat.div_add_mod (d * f.binade + mag * 2 ^ t) f.binade
      rw [e1, Nat.mul_add, Nat.mul_comm f.binade d] at this
      omega
    rw [if_neg (by omega), if_pos hrung, e1, e2]
    congr 1
    · omega
    · omega

theorem read_zero (f : Format) (neg : Bool) (place : Int) (hb : 0 < f.binade) : f.read (f.nearest neg 0 place) = .number neg 0 f.leastPlace := by
  unfold Format.nearest
  rw [if_pos rfl, read_word f neg 0 (Nat.two_pow_pos _), if_pos hb]

/-- What a 32-bit word can stand for. -/
theorem read_single (b : Nat) : (∃ s t, single.read b = .nan s t) ∨ (∃ s, single.read b = .infinity s) ∨ (∃ s m e, single.read b = .number s m e ∧ m < 16777216 ∧ -149 ≤ e ∧ e ≤ 104) := by
  have e1 : single.signWeight = 2147483648 := by decide
  have e2 : single.binade = 8388608 := by decide
  have e3 : single.infRung = 2139095040 := by decide
  have e4 : single.leastPlace = -149 := by decide
  unfold Format.read
  simp only [e1, e2, e3, e4]
  split
  · exact .inr (.inr ⟨_, _, _, rfl, by omega, by omega, by omega⟩)
  · split
    · exact .inr (.inr ⟨_, _, _, rfl, by omega, by omega, by omega⟩)
    · split
      · exact .inr (.inl ⟨_, rfl⟩)
      · exact .inl ⟨_, _, rfl⟩

theorem log_le {m : Nat} (hm : m ≠ 0) (h : m < 16777216) : m.log2 ≤ 23 := by
  have a := (two_pow_log m hm).1
  have : (2 : Nat) ^ m.log2 < 2 ^ 24 := Nat.lt_of_le_of_lt a (by simpa using h)
  have := (Nat.pow_lt_pow_iff_right (by omega : 1 < 2)).1 this
  omega

/-- A finite 32-bit number, written as a 64-bit one, is the same number. -/
theorem wide_number (s : Bool) (m : Nat) (e : Int) (h1 : m < 16777216) (h2 : -149 ≤ e) (h3 : e ≤ 104) :
    ∃ t : Nat, ∃ p : Int, double.read (double.nearest s m e) = .number s (m * 2 ^ t) p ∧ (m ≠ 0 → p = e - t) := by
  by_cases hm : m = 0
  · subst hm
    exact ⟨0, _, by rw [read_zero double s e (by decide)], fun h => absurd rfl h⟩
  · have hl := log_le hm h1
    have e1 : double.leastPlace = -1074 := by decide
    have e2 : (double.fractionBits : Int) = 52 := rfl
    have e3 : (2 : Int) ^ double.exponentBits = 2048 := by decide
    obtain ⟨t, ht⟩ := nearest_exact double s m e hm (Nat.lt_of_lt_of_le h1 (by decide)) (by rw [e1]; omega) (by rw [e1, e2, e3]; omega) (by decide)
    exact ⟨t, _, ht, fun _ => rfl⟩

theorem inf_read (f : Format) (s : Bool) (h : f.binade ≤ f.infRung) : f.read (f.word s f.infRung) = .infinity s := by
  rw [read_word f s _ f.infRung_lt, if_neg (Nat.not_lt.2 h), if_neg (Nat.lt_irrefl _), if_pos rfl]

/-- 'float64(x)' of a 32-bit number that is none of the not-a-numbers is told. -/
theorem wide_told (b : Nat) (h : isNan .f32 b = false) : ∃ q, floatToFloatBits .f32 b .f64 = some q := by
  unfold isNan at h
  unfold floatToFloatBits
  rw [if_neg (by decide)]
  unfold FloatKind.decode at h ⊢
  rcases read_single b with ⟨s, t, hr⟩ | ⟨s, hr⟩ | ⟨s, m, e, hr, h1, h2, h3⟩
  · have hr' : FloatKind.f32.format.read b = .nan s t := hr
    rw [hr'] at h; simp [Datum.isNaN] at h
  · have hr' : FloatKind.f32.format.read b = .infinity s := hr
    rw [hr']; exact ⟨_, rfl⟩
  · have hr' : FloatKind.f32.format.read b = .number s m e := hr
    obtain ⟨t, p, hw, _⟩ := wide_number s m e h1 h2 h3
    rw [hr']
    dsimp only
    have hw' : FloatKind.f64.format.read (FloatKind.f64.encode (.number s m e)) = .number s (m * 2 ^ t) p := hw
    rw [hw']
    exact ⟨_, rfl⟩

/-- A 32-bit number made wide is one 64-bit number, whichever run. -/
theorem wide_same {b b' r r' : Nat} (hb : FSame .f32 b b') (h : FCv .f32 .f64 b r) (h' : FCv .f32 .f64 b' r') : FSame .f64 r r' := by
  refine FCv.same (by decide) hb ?_ h h'
  cases hn : isNan .f32 b
  · exact .inr (wide_told b hn)
  · exact .inl rfl

/-- What a 32-bit word made wide stands for. -/
theorem wide_read {b r : Nat} (h : FCv .f32 .f64 b r) :
    (isNan .f32 b = true ∧ isNan .f64 r = true) ∨ (∃ s, single.read b = .infinity s ∧ double.read r = .infinity s) ∨
      (∃ s m e, single.read b = .number s m e ∧ m < 16777216 ∧ -149 ≤ e ∧ e ≤ 104 ∧ ∃ t : Nat, ∃ p : Int, double.read r = .number s (m * 2 ^ t) p ∧ (m ≠ 0 → p = e - t)) := by
  cases hn : isNan .f32 b
  · right
    unfold isNan FloatKind.decode at hn
    unfold FCv floatToFloatBits at h
    rw [if_neg (by decide)] at h
    unfold FloatKind.decode at h
    rcases read_single b with ⟨s, t, hr⟩ | ⟨s, hr⟩ | ⟨s, m, e, hr, h1, h2, h3⟩
    · have hr' : FloatKind.f32.format.read b = .nan s t := hr
      rw [hr'] at hn; simp [Datum.isNaN] at hn
    · have hr' : FloatKind.f32.format.read b = .infinity s := hr
      rw [hr'] at h
      dsimp only at h
      subst h
      exact .inl ⟨s, hr, inf_read double s (by decide)⟩
    · have hr' : FloatKind.f32.format.read b = .number s m e := hr
      obtain ⟨t, p, hw, hp⟩ := wide_number s m e h1 h2 h3
      have hw' : FloatKind.f64.format.read (FloatKind.f64.encode (.number s m e)) = .number s (m * 2 ^ t) p := hw
      rw [hr'] at h
      dsimp only at h
      rw [hw'] at h
      have h : r = FloatKind.f64.encode (.number s m e) := h
      subst h
      exact .inr ⟨s, m, e, hr, h1, h2, h3, t, p, hw, hp⟩
  · refine .inl ⟨rfl, ?_⟩
    unfold FCv at h
    rw [conv_nan (by decide) hn] at h
    exact h hn

end Fl
end Go.Proofs.Ytnbgnaenlbphcaa
