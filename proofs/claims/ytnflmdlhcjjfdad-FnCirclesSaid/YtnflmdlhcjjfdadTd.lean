/-
  Tenths of decibels of n/64, reckoned: halving and doubling without the kernel.
  Own work; imports nothing of the program.
-/
import Derived.Test.YtnflmdlhcjjfdadTb
namespace Go.Proofs.Ytnflmdlhcjjfdad
namespace Fl
open Ieee

/-- The 64-bit word of n times 2^p. -/
def nw (n : Nat) (p : Int) : Nat := FloatKind.f64.format.nearest false n p
theorem nw_half : (4609434218613702656 : Nat) = nw 3 (-1) ∧ (4604930618986332160 : Nat) = nw 3 (-2) ∧ (4611686018427387904 : Nat) = nw 1 1 := by decide +kernel
theorem rg_of {n : Nat} {p : Int} (h0 : n ≠ 0) (hn : n ≤ 40000) (h1 : -100 ≤ p) (h2 : p ≤ 50) : Rg FloatKind.f64.format n p := by
  have hl : n.log2 < 16 := (Nat.log2_lt h0).2 (by have e : (2 : Nat) ^ 16 = 65536 := by decide
                                                  omega)
  have e : FloatKind.f64.format.fractionBits = 52 := rfl
  exact ⟨h0, by omega, by omega, by omega⟩
theorem geB_pl {n : Nat} {p : Int} (h0 : n ≠ 0) (hn : n ≤ 40000) (h1 : -30 ≤ p) (h2 : p ≤ 50) : geB (nw n p) = decide (1610612736 ≤ n * 2 ^ (p + 30).toNat) := by
  have h := pl_order (k := .f64) (rg_of h0 hn (by omega) h2) (rg_of (n := 3) (p := -1) (by omega) (by omega) (by omega) (by omega)) 30 (by omega) (by omega)
  have h : FloatKind.f64.format.order (nw n p) (nw 3 (-1)) = _ := h
  unfold geB
  rw [nw_half.1, h, show (3 * 2 ^ (-1 + ((30 : Nat) : Int)).toNat : Nat) = 1610612736 from rfl, show (p + ((30 : Nat) : Int)).toNat = (p + 30).toNat from rfl]
  generalize n * 2 ^ (p + 30).toNat = v
  simp only [compare, compareOfLessAndEq]
  by_cases c1 : (v : Int) < ((1610612736 : Nat) : Int)
  · rw [if_pos c1, decide_eq_false (by omega)]; rfl
  · rw [if_neg c1, decide_eq_true (by omega)]
    by_cases c2 : (v : Int) = ((1610612736 : Nat) : Int)
    · rw [if_pos c2]; rfl
    · rw [if_neg c2]; rfl
theorem ltB_pl {n : Nat} {p : Int} (h0 : n ≠ 0) (hn : n ≤ 40000) (h1 : -30 ≤ p) (h2 : p ≤ 50) : ltB (nw n p) = decide (n * 2 ^ (p + 30).toNat < 805306368) := by
  have h := pl_order (k := .f64) (rg_of h0 hn (by omega) h2) (rg_of (n := 3) (p := -2) (by omega) (by omega) (by omega) (by omega)) 30 (by omega) (by omega)
  have h : FloatKind.f64.format.order (nw n p) (nw 3 (-2)) = _ := h
  unfold ltB
  rw [nw_half.2.1, h, show (3 * 2 ^ (-2 + ((30 : Nat) : Int)).toNat : Nat) = 805306368 from rfl, show (p + ((30 : Nat) : Int)).toNat = (p + 30).toNat from rfl]
  generalize n * 2 ^ (p + 30).toNat = v
  simp only [compare, compareOfLessAndEq]
  by_cases c1 : (v : Int) < ((805306368 : Nat) : Int)
  · rw [if_pos c1, decide_eq_true (by omega)]; rfl
  · rw [if_neg c1, decide_eq_false (by omega)]
    by_cases c2 : (v : Int) = ((805306368 : Nat) : Int)
    · rw [if_pos c2]; rfl
    · rw [if_neg c2]; rfl
theorem halve_pl {n : Nat} {p : Int} (h0 : n ≠ 0) (hn : n ≤ 40000) (h1 : -30 ≤ p) (h2 : p ≤ 50) : floatBits .quo .f64 (nw n p) 4611686018427387904 = some (nw n (p - 1)) := by
  have h := pl_quo (k := .f64) (n := n) (P := 1) (p := p) (q := 1) (by rw [Nat.mul_one]; exact rg_of h0 hn (by omega) h2) (rg_of (by omega) (by omega) (by omega) (by omega)) (rg_of h0 hn (by omega) (by omega))
  rw [Nat.mul_one] at h
  rw [nw_half.2.2]
  exact h
theorem double_pl {n : Nat} {p : Int} (h0 : n ≠ 0) (hn : n ≤ 40000) (h1 : -30 ≤ p) (h2 : p ≤ 40) : floatBits .mul .f64 (nw n p) 4611686018427387904 = some (nw n (p + 1)) := by
  have h := pl_mul (k := .f64) (n := n) (m := 1) (p := p) (q := 1) (rg_of h0 hn (by omega) (by omega)) (rg_of (by omega) (by omega) (by omega) (by omega)) (by rw [Nat.mul_one]; exact rg_of h0 hn (by omega) (by omega))
  rw [Nat.mul_one] at h
  rw [nw_half.2.2]
  exact h
theorem down_pl {n : Nat} (h0 : n ≠ 0) (hn : n ≤ 40000) (p : Int) (h1 : -6 ≤ p) (h2 : p ≤ 0) : ∀ j : Nat, j ≤ 20 → (j = 0 ∨ 805306368 ≤ n * 2 ^ (p - j + 30).toNat) → Down (nw n p) j (nw n (p - j))
  | 0, _, _ => by rw [show p - ((0 : Nat) : Int) = p by omega]; rfl
  | j + 1, hj, hx => by
    have hx : 805306368 ≤ n * 2 ^ (p - ((j + 1 : Nat) : Int) + 30).toNat := by
      rcases hx with h | h
      · omega
      · exact h
    have e : (p - (j : Int) + 30).toNat = (p - ((j + 1 : Nat) : Int) + 30).toNat + 1 := by omega
    have hg : 1610612736 ≤ n * 2 ^ (p - (j : Int) + 30).toNat := by
      rw [e, Nat.pow_succ, ← Nat.mul_assoc]
      omega
    refine ⟨nw n (p - j), down_pl h0 hn p h1 h2 j (by omega) (.inr (by omega)), ?_, fop_mk ?_⟩
    · rw [geB_pl h0 hn (by omega) (by omega)]; exact decide_eq_true hg
    · rw [show p - ((j + 1 : Nat) : Int) = p - (j : Int) - 1 by omega]
      exact halve_pl h0 hn (by omega) (by omega)
theorem up_pl {n : Nat} (h0 : n ≠ 0) (hn : n ≤ 40000) (p : Int) (h1 : -6 ≤ p) (h2 : p ≤ 0) : ∀ i : Nat, i ≤ 20 → (i = 0 ∨ n * 2 ^ (p + i + 30).toNat < 1610612736) → Up (nw n p) i (nw n (p + i))
  | 0, _, _ => by rw [show p + ((0 : Nat) : Int) = p by omega]; rfl
  | i + 1, hi, hx => by
    have hx : n * 2 ^ (p + ((i + 1 : Nat) : Int) + 30).toNat < 1610612736 := by
      rcases hx with h | h
      · omega
      · exact h
    have e : (p + ((i + 1 : Nat) : Int) + 30).toNat = (p + (i : Int) + 30).toNat + 1 := by omega
    have hg : n * 2 ^ (p + (i : Int) + 30).toNat < 805306368 := by
      rw [e, Nat.pow_succ, ← Nat.mul_assoc] at hx
      omega
    refine ⟨nw n (p + i), up_pl h0 hn p h1 h2 i (by omega) (.inr (by omega)), ?_, fop_mk ?_⟩
    · rw [ltB_pl h0 hn (by omega) (by omega)]; exact decide_eq_true hg
    · rw [show p + ((i + 1 : Nat) : Int) = p + (i : Int) + 1 by omega]
      exact double_pl h0 hn (by omega) (by omega)

end Fl
end Go.Proofs.Ytnflmdlhcjjfdad
