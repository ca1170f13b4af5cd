/-
  A half: the quotient of any 32-bit number and 2 is its product with 0.5, to the last bit.
  Own work; imports nothing of the program.
-/
import Derived.Test.YtfkdkdocbecjmaaBd
namespace Go.Proofs.Ytfkdkdocbecjmaa
namespace Fl
open Ieee

theorem hv_log2 {m : Nat} (hm : m ≠ 0) (s : Nat) : (m * 2 ^ s).log2 = m.log2 + s := by
  have hp := pow_pos' s
  have hne : m * 2 ^ s ≠ 0 := Nat.ne_of_gt (Nat.mul_pos (Nat.pos_of_ne_zero hm) hp)
  rw [Nat.log2_eq_iff hne]
  obtain ⟨a1, a2⟩ := two_pow_log m hm
  refine ⟨?_, ?_⟩
  · rw [Nat.pow_add]; exact Nat.mul_le_mul_right _ a1
  · rw [show m.log2 + s + 1 = (m.log2 + 1) + s by omega, Nat.pow_add]
    exact Nat.mul_lt_mul_of_pos_right a2 hp

theorem cut_shift (neg : Bool) {m : Nat} (hm : m ≠ 0) (s d : Nat) : Toward.even.cut neg (m * 2 ^ s) (d + s) = Toward.even.cut neg m d := by
  have hp := pow_pos' s
  unfold Toward.cut
  rw [hv_log2 hm s]
  have hg : min (d + s) (m.log2 + s + 2) = min d (m.log2 + 2) + s := by omega
  rw [hg]
  generalize min d (m.log2 + 2) = a
  rw [shl_eq, shl_eq, Nat.one_mul, Nat.one_mul, Nat.pow_add]
  generalize 2 ^ a = g
  generalize 2 ^ s = q at hp
  dsimp only
  have e1 : m * q / (g * q) = m / g := Nat.mul_div_mul_right _ _ hp
  have e2 : m * q % (g * q) = m % g * q := Nat.mul_mod_mul_right _ _ _
  rw [e1, e2]
  have e3 : 2 * (m % g * q) = 2 * (m % g) * q := by rw [Nat.mul_assoc]
  rw [e3]
  have e4 : decide (g * q < 2 * (m % g) * q) = decide (g < 2 * (m % g)) := by
    rw [decide_eq_decide]
    exact Nat.mul_lt_mul_right hp
  have e5 : (g * q == 2 * (m % g) * q) = (g == 2 * (m % g)) := by
    rw [Bool.eq_iff_iff]
    simp only [beq_iff_eq]
    exact Nat.mul_left_inj (Nat.ne_of_gt hp)
  rw [e4, e5]

theorem near_any (f : Format) (neg : Bool) (m s : Nat) (p : Int) : f.nearest neg (m * 2 ^ s) p = f.nearest neg m (p + s) := by
  have hp := pow_pos' s
  by_cases hm : m = 0
  · subst hm
    unfold Format.nearest
    rw [if_pos (by simp), if_pos rfl]
  have hne : m * 2 ^ s ≠ 0 := Nat.ne_of_gt (Nat.mul_pos (Nat.pos_of_ne_zero hm) hp)
  unfold Format.nearest
  rw [if_neg hne, if_neg hm, hv_log2 hm s]
  dsimp only
  generalize f.fractionBits = fr at *
  generalize f.leastPlace = lp at *
  have e0 : p + ((m.log2 + s : Nat) : Int) - fr = p + (s : Int) + (m.log2 : Int) - fr := by omega
  rw [e0]
  generalize max (p + (s : Int) + (m.log2 : Int) - fr) lp = last
  congr 2
  congr 1
  by_cases hc : last ≤ p
  · have e1 : (last - p).toNat = 0 := by omega
    have e2 : (last - (p + (s : Int))).toNat = 0 := by omega
    rw [e1, e2, cut_zero, cut_zero, shl_eq, shl_eq, Nat.mul_assoc, ← Nat.pow_add]
    congr 2
    omega
  · by_cases hd : last ≤ p + s
    · have e1 : (p - last).toNat = 0 := by omega
      have e2 : (last - (p + (s : Int))).toNat = 0 := by omega
      obtain ⟨d, hd'⟩ : ∃ d, (last - p).toNat = d := ⟨_, rfl⟩
      obtain ⟨k, hk⟩ : ∃ k, (p + (s : Int) - last).toNat = k := ⟨_, rfl⟩
      rw [e1, e2, hd', hk, shl_eq, shl_eq, Nat.pow_zero, Nat.mul_one, cut_zero]
      have es : s = k + d := by omega
      rw [es, Nat.pow_add, ← Nat.mul_assoc, cut_exact]
    · have e1 : (p - last).toNat = 0 := by omega
      have e2 : (p + (s : Int) - last).toNat = 0 := by omega
      obtain ⟨d, hd'⟩ : ∃ d, (last - (p + (s : Int))).toNat = d := ⟨_, rfl⟩
      have e3 : (last - p).toNat = d + s := by omega
      rw [e1, e2, e3, hd', shl_eq, shl_eq, Nat.pow_zero, Nat.mul_one, Nat.mul_one, cut_shift neg hm]

theorem near_two (f : Format) (neg : Bool) (m a b : Nat) (p q : Int) (h : p + a = q + b) : f.nearest neg (m * 2 ^ a) p = f.nearest neg (m * 2 ^ b) q := by
  rw [near_any, near_any, h]

theorem half_num (s : Bool) (m : Nat) (i : Int) (hm : m < 16777216) : ((Datum.number s m i).quotient 25 (single.read 1073741824)).map single.write = ((single.read 1056964608).product (.number s m i)).map single.write := by
  have r2 : single.read 1073741824 = .number false 8388608 (-22) := by decide +kernel
  have rh : single.read 1056964608 = .number false 8388608 (-24) := by decide +kernel
  rw [r2, rh]
  unfold Datum.quotient Datum.product
  dsimp only
  rw [if_neg (by decide)]
  have hl : Nat.log2 8388608 = 23 := by decide +kernel
  rw [hl]
  have hml : m.log2 ≤ 23 := by
    by_cases h0 : m = 0
    · subst h0; decide
    · have := (two_pow_log m h0).1
      by_cases h : m.log2 ≤ 23
      · exact h
      · exfalso
        have h24 : (2 : Nat) ^ 24 ≤ 2 ^ m.log2 := Nat.pow_le_pow_right (by decide) (by omega)
        have : (2 : Nat) ^ 24 = 16777216 := by decide
        omega
  obtain ⟨e, he⟩ : ∃ e, 25 + 23 - m.log2 = e + 23 := ⟨25 - m.log2, by omega⟩
  rw [he, shl_eq, Nat.pow_add, ← Nat.mul_assoc, show (2 : Nat) ^ 23 = 8388608 by decide, Nat.mul_div_cancel _ (by decide), Nat.mul_mod_left]
  simp only [Option.map_some, Format.write]
  congr 1
  rw [show (2 * (m * 2 ^ e) + ((0 : Nat) != 0).toNat) = m * 2 ^ (e + 1) by rw [Nat.pow_succ]; simp; grind]
  rw [show 8388608 * m = m * 2 ^ 23 by rw [Nat.mul_comm]]
  rw [show (s ^^ false) = (false ^^ s) by cases s <;> rfl]
  exact near_two _ _ _ _ _ _ _ (by omega)

theorem read_small {x : Nat} {s : Bool} {m : Nat} {i : Int} (h : single.read x = .number s m i) : m < 16777216 := by
  have eb : single.binade = 8388608 := by decide
  unfold Format.read at h
  rw [eb] at h
  dsimp only at h
  split at h
  · injection h with _ h _; omega
  · split at h
    · injection h with _ h _; omega
    · split at h <;> cases h

theorem half_same {x r r' : Nat} (h : FOp .quo .f32 x 1073741824 r) (h' : FOp .mul .f32 1056964608 x r') : FSame .f32 r r' := by
  have e : FloatKind.f32.format.div x 1073741824 = FloatKind.f32.format.mul 1056964608 x := by
    show ((single.read x).quotient 25 (single.read 1073741824)).map single.write = ((single.read 1056964608).product (single.read x)).map single.write
    cases hx : single.read x with
    | number s m i => exact half_num s m i (read_small hx)
    | infinity s =>
      have r2 : single.read 1073741824 = .number false 8388608 (-22) := by decide +kernel
      have rh : single.read 1056964608 = .number false 8388608 (-24) := by decide +kernel
      rw [r2, rh]
      unfold Datum.quotient Datum.product
      simp
    | nan s t =>
      have rh : single.read 1056964608 = .number false 8388608 (-24) := by decide +kernel
      rw [rh]
      unfold Datum.quotient Datum.product
      simp
  have e2 : floatBits .quo .f32 x 1073741824 = floatBits .mul .f32 1056964608 x := e
  unfold FOp at h h'
  rw [e2] at h
  cases hb : floatBits .mul .f32 1056964608 x with
  | some b => rw [hb] at h h'; exact .inl (h.trans h'.symm)
  | none => rw [hb] at h h'; exact .inr ⟨h, h'⟩

end Fl
end Go.Proofs.Ytfkdkdocbecjmaa
