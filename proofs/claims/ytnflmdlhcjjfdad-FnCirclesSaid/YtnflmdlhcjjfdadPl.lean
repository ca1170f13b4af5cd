/-
  Floats that are a small natural number times a power of two: products, whole quotients, conversions and order.
  Own work; imports nothing of the program.
-/
import Derived.Test.YtnflmdlhcjjfdadIv
import Derived.Test.YtnflmdlhcjjfdadPw
namespace Go.Proofs.Ytnflmdlhcjjfdad
namespace Fl
open Ieee

/-- The number n times 2^p is well inside both formats. -/
def Rg (f : Format) (n : Nat) (p : Int) : Prop := n ≠ 0 ∧ n.log2 ≤ f.fractionBits ∧ -140 ≤ p ∧ p + (n.log2 : Int) ≤ 100

theorem pl_read {k : FloatKind} {n : Nat} {p : Int} (h : Rg k.format n p) : ∃ t : Nat, k.format.read (k.format.nearest false n p) = .number false (n * 2 ^ t) (p - (t : Int)) := by
  obtain ⟨f1, f2, f3, f4, f5⟩ := (kfmt k).facts
  obtain ⟨h0, h1, h2, h3⟩ := h
  have hlt : n < 2 ^ (k.format.fractionBits + 1) := Nat.lt_of_lt_of_le (two_pow_log n h0).2 (Nat.pow_le_pow_right (by omega) (by omega))
  refine nearest_exact k.format false n p h0 hlt (by cases k <;> (have : FloatKind.f32.format.leastPlace = -149 := by decide) <;> (have : FloatKind.f64.format.leastPlace = -1074 := by decide) <;> omega) ?_ f5
  cases k
  · have e1 : FloatKind.f32.format.leastPlace = -149 := by decide
    have e2 : (FloatKind.f32.format.fractionBits : Int) = 23 := rfl
    have e3 : (2 : Int) ^ FloatKind.f32.format.exponentBits = 256 := by decide
    rw [e1, e2, e3]; omega
  · have e1 : FloatKind.f64.format.leastPlace = -1074 := by decide
    have e2 : (FloatKind.f64.format.fractionBits : Int) = 52 := rfl
    have e3 : (2 : Int) ^ FloatKind.f64.format.exponentBits = 2048 := by decide
    rw [e1, e2, e3]; omega
theorem pl_near {k : FloatKind} {n : Nat} {p : Int} (h : Rg k.format n p) (s : Nat) : k.format.nearest false (n * 2 ^ s) (p - (s : Int)) = k.format.nearest false n p := by
  obtain ⟨h0, h1, h2, h3⟩ := h
  have hl : k.format.leastPlace ≤ p - s + s := by
    have := (kfmt k).facts.1
    omega
  rw [near_shift k.format false n s (p - s) h0 h1 hl, show p - (s : Int) + s = p by omega]
theorem pl_mul {k : FloatKind} {n m : Nat} {p q : Int} (hn : Rg k.format n p) (hm : Rg k.format m q) (hnm : Rg k.format (n * m) (p + q)) : floatBits .mul k (k.format.nearest false n p) (k.format.nearest false m q) = some (k.format.nearest false (n * m) (p + q)) := by
  obtain ⟨t, h1⟩ := pl_read hn
  obtain ⟨t', g1⟩ := pl_read hm
  have e : floatBits .mul k (k.format.nearest false n p) (k.format.nearest false m q) = some (k.format.nearest false (n * m * 2 ^ (t + t')) (p + q - ((t + t' : Nat) : Int))) := by
    show k.format.mul _ _ = _
    unfold Format.mul
    rw [h1, g1]
    show some (k.format.nearest (false ^^ false) (n * 2 ^ t * (m * 2 ^ t')) (p - (t : Int) + (q - (t' : Int)))) = _
    rw [show n * 2 ^ t * (m * 2 ^ t') = n * m * 2 ^ (t + t') by rw [Nat.pow_add, Nat.mul_assoc, Nat.mul_assoc, Nat.mul_left_comm (2 ^ t)], show p - (t : Int) + (q - (t' : Int)) = p + q - ((t + t' : Nat) : Int) by omega]
    rfl
  rw [e, pl_near hnm]
theorem pl_conv {q k : FloatKind} (hne : q ≠ k) {n : Nat} {p : Int} (hn : Rg q.format n p) (hk : Rg k.format n p) : floatToFloatBits q (q.format.nearest false n p) k = some (k.format.nearest false n p) := by
  obtain ⟨t, h1⟩ := pl_read hn
  obtain ⟨t', k1⟩ := pl_read hk
  have e : floatToFloatBits q (q.format.nearest false n p) k = some (k.format.nearest false (n * 2 ^ t) (p - (t : Int))) := by
    unfold floatToFloatBits
    rw [if_neg hne]
    unfold FloatKind.decode
    rw [h1]
    show (if (k.format.read (k.format.nearest false (n * 2 ^ t) (p - (t : Int)))).isInfinity = true then none else some _) = _
    rw [pl_near hk, k1, if_neg (by simp [Datum.isInfinity])]
    rw [← pl_near hk t]
    rfl
  rw [e, pl_near hk]
theorem pl_quo {k : FloatKind} {n P : Nat} {p q : Int} (hnP : Rg k.format (n * P) p) (hP : Rg k.format P q) (hn : Rg k.format n (p - q)) : floatBits .quo k (k.format.nearest false (n * P) p) (k.format.nearest false P q) = some (k.format.nearest false n (p - q)) := by
  obtain ⟨t, h1⟩ := pl_read hnP
  obtain ⟨t', g1⟩ := pl_read hP
  have hn0 : P * 2 ^ t' ≠ 0 := Nat.ne_of_gt (Nat.mul_pos (Nat.pos_of_ne_zero hP.1) (Nat.two_pow_pos _))
  obtain ⟨more, hmore⟩ : ∃ more, more = k.format.fractionBits + 2 + (P * 2 ^ t').log2 - (n * P * 2 ^ t).log2 := ⟨_, rfl⟩
  have hdiv : floatBits .quo k (k.format.nearest false (n * P) p) (k.format.nearest false P q) = (some (Datum.number (false ^^ false) (2 * ((n * P * 2 ^ t) <<< more / (P * 2 ^ t')) + ((n * P * 2 ^ t) <<< more % (P * 2 ^ t') != 0).toNat) (p - (t : Int) - (q - (t' : Int)) - (more : Int) - 1))).map k.format.write := by
    rw [hmore]
    show k.format.div _ _ = _
    unfold Format.div
    rw [h1, g1]
    unfold Datum.quotient
    dsimp only
    rw [if_neg hn0]
  have hl1 : (P * 2 ^ t').log2 = P.log2 + t' := log2_mul_pow hP.1 t'
  have hl2 : (n * P * 2 ^ t).log2 = (n * P).log2 + t := log2_mul_pow hnP.1 t
  have hge : t' ≤ t + more := by
    have := hnP.2.1
    omega
  obtain ⟨u, hu⟩ : ∃ u, t + more = u + t' := ⟨t + more - t', by omega⟩
  have hexp : (n * P * 2 ^ t) <<< more = n * 2 ^ u * (P * 2 ^ t') := by
    rw [shl_eq, Nat.mul_assoc, ← Nat.pow_add, hu, Nat.pow_add, Nat.mul_assoc, Nat.mul_assoc, Nat.mul_left_comm P]
  rw [hexp, Nat.mul_div_cancel _ (Nat.pos_of_ne_zero hn0), Nat.mul_mod_left] at hdiv
  have e : floatBits .quo k (k.format.nearest false (n * P) p) (k.format.nearest false P q) = some (k.format.nearest false (n * 2 ^ (u + 1)) (p - q - ((u + 1 : Nat) : Int))) := by
    rw [hdiv]
    show some (k.format.nearest (false ^^ false) (2 * (n * 2 ^ u) + ((0 : Nat) != 0).toNat) _) = _
    rw [show ((0 : Nat) != 0).toNat = 0 from rfl, Nat.add_zero, show 2 * (n * 2 ^ u) = n * 2 ^ (u + 1) by rw [Nat.pow_succ, Nat.mul_comm 2, Nat.mul_assoc], show p - (t : Int) - (q - (t' : Int)) - (more : Int) - 1 = p - q - ((u + 1 : Nat) : Int) by omega]
    rfl
  rw [e, pl_near hn]

theorem pl_of_int (k : FloatKind) (n : Nat) : floatOfInt k (n : Int) = k.format.nearest false n 0 := by
  have h : floatOfInt k (n : Int) = k.format.nearest (decide ((n : Int) < 0)) (n : Int).natAbs 0 := rfl
  rw [h, decide_eq_false (by omega), Int.natAbs_natCast]

/-- How two of them stand to each other: a common unit of 2^-T. -/
theorem pl_order {k : FloatKind} {n m : Nat} {p q : Int} (hn : Rg k.format n p) (hm : Rg k.format m q) (T : Nat) (h1 : 0 ≤ p + T) (h2 : 0 ≤ q + T) :
    k.format.order (k.format.nearest false n p) (k.format.nearest false m q) = some (compare ((n * 2 ^ (p + T).toNat : Nat) : Int) ((m * 2 ^ (q + T).toNat : Nat) : Int)) := by
  obtain ⟨t, r1⟩ := pl_read hn
  obtain ⟨t', r2⟩ := pl_read hm
  unfold Format.order
  rw [r1, r2]
  unfold Datum.order
  dsimp only
  obtain ⟨e, he⟩ : ∃ e, e = min (p - (t : Int)) (q - (t' : Int)) := ⟨_, rfl⟩
  have s1 : signed false (n * 2 ^ t) (p - (t : Int) - e).toNat = ((n * 2 ^ (p - e).toNat : Nat) : Int) := by
    unfold signed
    rw [shl_eq, Nat.mul_assoc, ← Nat.pow_add, show t + (p - (t : Int) - e).toNat = (p - e).toNat by omega]
    rfl
  have s2 : signed false (m * 2 ^ t') (q - (t' : Int) - e).toNat = ((m * 2 ^ (q - e).toNat : Nat) : Int) := by
    unfold signed
    rw [shl_eq, Nat.mul_assoc, ← Nat.pow_add, show t' + (q - (t' : Int) - e).toNat = (q - e).toNat by omega]
    rfl
  rw [← he, s1, s2]
  congr 1
  have key : ∀ a b : Nat, ∀ u : Nat, compare ((a * 2 ^ u : Nat) : Int) ((b * 2 ^ u : Nat) : Int) = compare (a : Int) (b : Int) := fun a b u => by
    have hp := Nat.two_pow_pos u
    simp only [compare, compareOfLessAndEq]
    by_cases c1 : (a : Int) < (b : Int)
    · rw [if_pos c1, if_pos (Int.ofNat_lt.2 (Nat.mul_lt_mul_of_pos_right (Int.ofNat_lt.1 c1) hp))]
    · rw [if_neg c1, if_neg (fun h => c1 (Int.ofNat_lt.2 (Nat.lt_of_mul_lt_mul_right (Int.ofNat_lt.1 h))))]
      by_cases c2 : (a : Int) = (b : Int)
      · rw [if_pos c2, if_pos (by rw [Int.ofNat_inj.1 c2])]
      · rw [if_neg c2, if_neg (fun h => c2 (by rw [Nat.eq_of_mul_eq_mul_right hp (Int.ofNat_inj.1 h)]))]
  rcases Int.le_total (-(T : Int)) e with hle | hle
  · have h := key (n * 2 ^ (p - e).toNat) (m * 2 ^ (q - e).toNat) (e + T).toNat
    rw [Nat.mul_assoc, Nat.mul_assoc, ← Nat.pow_add, ← Nat.pow_add, show (p - e).toNat + (e + T).toNat = (p + T).toNat by omega, show (q - e).toNat + (e + T).toNat = (q + T).toNat by omega] at h
    exact h.symm
  · have h := key (n * 2 ^ (p + T).toNat) (m * 2 ^ (q + T).toNat) (-(T : Int) - e).toNat
    rw [Nat.mul_assoc, Nat.mul_assoc, ← Nat.pow_add, ← Nat.pow_add, show (p + T).toNat + (-(T : Int) - e).toNat = (p - e).toNat by omega, show (q + T).toNat + (-(T : Int) - e).toNat = (q - e).toNat by omega] at h
    exact h

end Fl
end Go.Proofs.Ytnflmdlhcjjfdad
