/-
  Texts of numbers are read back: what a text of numbers is cut into, and what is read of it; numbers up to their bits.
-/
import Derived.Test.YtnflmdlhcjjfdadGreatDoorNt
import Derived.Test.YtnflmdlhcjjfdadGreatDoorHz
import Derived.Test.YtnflmdlhcjjfdadGreatDoorSb
namespace Go.Proofs.YtnflmdlhcjjfdadGreatDoor
open Go.RowKit Go.Lib Rd Go.WideShapes Fl

theorem hexc_ne : ∀ d : Fin 16, hexc d.val ≠ 44 := by decide
theorem low_ne (n : Nat) : ∀ j, (44 : UInt8) ∉ low n j
  | 0 => by simp [low]
  | j + 1 => by
    rw [low, List.mem_cons, not_or]
    exact ⟨fun e => hexc_ne ⟨n / 16 ^ j % 16, Nat.mod_lt _ (by omega)⟩ e.symm, low_ne n j⟩
theorem hex8_ne (b : Nat) : (44 : UInt8) ∉ hex8 b := low_ne _ _
theorem joinX_cons (x y : Nat) (ys : List Nat) : joinX (x :: y :: ys) = hex8 x ++ 44 :: joinX (y :: ys) := by
  unfold joinX
  rw [List.map_cons, join_cons, List.map_cons, join_cons]
  unfold joinTail
  rw [List.map_cons, List.flatten_cons]
  simp
theorem cut_joinX : ∀ xs : List Nat, xs ≠ [] → Ct.cut 44 (joinX xs) = xs.map hex8
  | [], h => absurd rfl h
  | [x], _ => by rw [joinX_one, Ct.cut_miss (hex8_ne _)]; rfl
  | x :: y :: ys, _ => by rw [joinX_cons, Ct.cut_hit _ (hex8_ne _), cut_joinX (y :: ys) (by simp)]; rfl

/-- The one number of the same bits that texts know. -/
def canon (b : Nat) : Nat := (bitsV b).toNat
theorem nan_one : isNan .f32 2143289344 = true := by decide +kernel
theorem bits_canon {b : Nat} : bitsV (canon b) = bitsV b := by
  unfold canon
  cases h : isNan .f32 b
  · rw [bitsV_num h, Int.toNat_natCast, bitsV_num h]
  · rw [bitsV_nan h]
    exact bitsV_nan nan_one
theorem canon_nat (b : Nat) : bitsV (canon b) = (canon b : Int) := by
  rw [bits_canon]
  unfold canon
  have : 0 ≤ bitsV b := by unfold bitsV; split <;> omega
  omega
theorem want_canon {b : Nat} (hb : (b : Int) < 4294967296) : WantF (hex8 b) (canon b) := by
  obtain ⟨h0, h1⟩ := bitsV_range hb
  refine ⟨hex8_len b, ?_, canon_nat b⟩
  unfold hex8
  refine low_read _ 8 0 ?_
  have h2 : (bitsV b).toNat < 16 ^ 8 := by have e : (16 : Nat) ^ 8 = 4294967296 := rfl; omega
  exact (Nat.div_eq_of_lt h2).symm

theorem ok_text {xs : List Nat} (hl : xs.length ≤ 256) (hb : ∀ x ∈ xs, (x : Int) < 4294967296) : OkF (textX xs) (xs.map canon) := by
  by_cases h : xs = []
  · subst h
    exact .inl ⟨rfl, rfl⟩
  · have ht : textX xs = joinX xs := by unfold textX; rw [if_neg h]
    refine .inr ⟨?_, by rw [List.length_map]; exact hl, ?_, ?_⟩
    · rw [ht]
      intro e
      have h1 := congrArg (Ct.cut 44) e
      rw [cut_joinX xs h] at h1
      have h2 : Ct.cut 44 noneT = [noneT] := by decide
      rw [h2] at h1
      cases xs with
      | nil => exact h rfl
      | cons x l =>
        rw [List.map_cons] at h1
        injection h1 with h3 _
        have := congrArg List.length h3
        rw [hex8_len] at this
        exact absurd this (by decide)
    · rw [ht, cut_joinX xs h, List.length_map, List.length_map]
    · intro j x hx
      rw [List.getElem?_map] at hx
      cases hj : xs[j]? with
      | none => rw [hj] at hx; cases hx
      | some y =>
        rw [hj] at hx
        injection hx with hx
        subst hx
        exact ⟨hex8 y, by rw [ht, cut_joinX xs h, List.getElem?_map, hj]; rfl, want_canon (hb y (List.mem_of_getElem? hj))⟩

theorem bits_same {a b : Nat} (h : FSame .f32 a b) : bitsV a = bitsV b := by
  rcases h with rfl | ⟨h1, h2⟩
  · rfl
  · rw [bitsV_nan h1, bitsV_nan h2]
theorem low_num {b : Nat} (h : b % 2147483648 < 8388608) : isNan .f32 b = false := by
  rcases kinds b with ⟨_, s, h1⟩ | ⟨_, s, h1⟩ | ⟨h1, _⟩
  · exact num_not_nan h1
  · exact num_not_nan h1
  · omega
theorem flush_not_sub (b : Nat) : subV (flushV b) = false := by
  by_cases h : b % 2147483648 < 8388608
  · rw [flushV_low h]
    apply subV_no
    left
    unfold zeroV
    omega
  · rw [flushV_high (by omega)]
    apply subV_no
    right
    omega
theorem flush_differs (b : Nat) : (subV b == (bitsV b == bitsV (flushV b))) = false := by
  by_cases h : b % 2147483648 < 8388608
  · by_cases h0 : b % 2147483648 = 0
    · rw [flushV_zero h0, subV_no (.inl h0)]
      simp
    · rw [subV_yes (by omega) h, flushV_low h]
      have hz : zeroV b % 2147483648 < 8388608 := by unfold zeroV; omega
      rw [bitsV_num (low_num h), bitsV_num (low_num hz)]
      have hne : (b : Int) ≠ (zeroV b : Int) := by unfold zeroV; omega
      rw [beq_eq_false_iff_ne.2 hne]
      rfl
  · rw [flushV_high (by omega), subV_no (.inr (by omega))]
    simp

end Go.Proofs.YtnflmdlhcjjfdadGreatDoor
