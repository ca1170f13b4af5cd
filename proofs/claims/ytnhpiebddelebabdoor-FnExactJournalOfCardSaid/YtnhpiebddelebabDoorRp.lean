/-
  Decimal texts that are read: which number a text is of.
  Own work; imports nothing of the program.
-/
import Derived.Lib.ItoaMem
import Derived.Lib.ItoaLen
import Derived.Lib.ParseIntB
namespace Go.Proofs.YtnhpiebddelebabDoor
namespace Rd
open Go.Lib

theorem dig_toNat {d : Nat} (h : d < 10) : (UInt8.ofNat (48 + d)).toNat = 48 + d := by
  rw [UInt8.toNat_ofNat']
  exact Nat.mod_eq_of_lt (by omega)

def vStep (n : Nat) (c : UInt8) : Nat := if 48 ≤ c.toNat ∧ c.toNat ≤ 57 then 10 * n + (c.toNat - 48) else n
def vFrom (n : Nat) (l : List UInt8) : Nat := l.foldl vStep n
def sVal (l : List UInt8) : Int := if l.head? = some 45 then -(vFrom 0 l : Int) else (vFrom 0 l : Int)

theorem vFrom_snoc (n : Nat) (l : List UInt8) (c : UInt8) : vFrom n (l ++ [c]) = vStep (vFrom n l) c := by
  unfold vFrom; rw [List.foldl_append]; rfl
theorem vStep_lt {n k : Nat} (c : UInt8) (h : n < 10 ^ k) : vStep n c < 10 ^ (k + 1) := by
  rw [Nat.pow_succ]
  unfold vStep
  split <;> omega
theorem vFrom_lt : ∀ (l : List UInt8) (n k : Nat), n < 10 ^ k → vFrom n l < 10 ^ (k + l.length)
  | [], n, k, h => h
  | c :: l, n, k, h => by
    have := vFrom_lt l (vStep n c) (k + 1) (vStep_lt c h)
    have e : k + 1 + l.length = k + (c :: l).length := by simp; omega
    rw [e] at this
    exact this

theorem dec_digits (u : Nat) : ∀ c ∈ decDigits u, 48 ≤ c.toNat ∧ c.toNat ≤ 57 := by
  induction u using Nat.strongRecOn with
  | _ u ih =>
    intro c hc
    by_cases h : u < 10
    · rw [decDigits_one h] at hc
      simp only [List.mem_cons, List.not_mem_nil, or_false] at hc
      subst hc
      rw [dig_toNat h]
      omega
    · rw [decDigits, dif_neg h, List.mem_append] at hc
      rcases hc with hc | hc
      · exact ih (u / 10) (by omega) c hc
      · simp only [List.mem_cons, List.not_mem_nil, or_false] at hc
        subst hc
        have hm : u % 10 < 10 := Nat.mod_lt _ (by omega)
        rw [dig_toNat hm]
        omega
theorem dec_ne (u : Nat) : decDigits u ≠ [] := by
  by_cases h : u < 10
  · rw [decDigits_one h]; exact List.cons_ne_nil _ _
  · rw [decDigits, dif_neg h]
    intro e
    have := congrArg List.length e
    simp at this
theorem dec_val (u : Nat) : vFrom 0 (decDigits u) = u := by
  induction u using Nat.strongRecOn with
  | _ u ih =>
    by_cases h : u < 10
    · rw [decDigits_one h]
      show vStep 0 _ = u
      unfold vStep
      rw [dig_toNat h, if_pos (by omega)]
      omega
    · rw [decDigits, dif_neg h, vFrom_snoc, ih (u / 10) (by omega)]
      unfold vStep
      have hm : u % 10 < 10 := Nat.mod_lt _ (by omega)
      rw [dig_toNat hm, if_pos (by omega)]
      omega
theorem dec_length {u : Nat} : ∀ {k : Nat}, u < 10 ^ (k + 1) → (decDigits u).length ≤ k + 1 := by
  induction u using Nat.strongRecOn with
  | _ u ih =>
    intro k hk
    by_cases h : u < 10
    · rw [decDigits_one h]; simp
    · rw [decDigits, dif_neg h, List.length_append]
      cases k with
      | zero => simp at hk; omega
      | succ k =>
        have := ih (u / 10) (by omega) (k := k) (by rw [Nat.pow_succ] at hk; omega)
        simp
        omega

theorem sVal_itoa (n : Int) : sVal (itoa n) = n := by
  by_cases hn : n < 0
  · obtain ⟨u, rfl⟩ : ∃ u : Nat, n = -(u : Int) := ⟨n.natAbs, by omega⟩
    rw [itoa_neg u (by omega)]
    unfold sVal
    rw [if_pos (show (45 :: decDigits u).head? = some 45 from rfl)]
    have e : vFrom 0 (45 :: decDigits u) = vFrom 0 (decDigits u) := rfl
    rw [e, dec_val]
  · obtain ⟨u, rfl⟩ : ∃ u : Nat, n = u := ⟨n.toNat, by omega⟩
    rw [itoa_nonneg]
    unfold sVal
    rw [if_neg, dec_val]
    intro h
    have hm : (45 : UInt8) ∈ decDigits u := List.mem_of_head? h
    have := (dec_digits u _ hm).1
    have e : (45 : UInt8).toNat = 45 := rfl
    omega
theorem itoa_ne (n : Int) : 1 ≤ (itoa n).length := by
  by_cases hn : n < 0
  · obtain ⟨u, rfl⟩ : ∃ u : Nat, n = -(u : Int) := ⟨n.natAbs, by omega⟩
    rw [itoa_neg u (by omega)]; simp
  · obtain ⟨u, rfl⟩ : ∃ u : Nat, n = u := ⟨n.toNat, by omega⟩
    rw [itoa_nonneg]
    have := dec_ne u
    exact List.length_pos_iff.2 this
theorem itoa_short {n : Int} (h0 : -1000000000000000 ≤ n) (h1 : n ≤ 1000000000000000) : (itoa n).length ≤ 17 := by
  by_cases hn : n < 0
  · obtain ⟨u, rfl⟩ : ∃ u : Nat, n = -(u : Int) := ⟨n.natAbs, by omega⟩
    rw [itoa_neg u (by omega), List.length_cons]
    have := dec_length (u := u) (k := 15) (by have e : (10 : Nat) ^ (15 + 1) = 10000000000000000 := rfl; omega)
    omega
  · obtain ⟨u, rfl⟩ : ∃ u : Nat, n = u := ⟨n.toNat, by omega⟩
    rw [itoa_nonneg]
    have := dec_length (u := u) (k := 15) (by have e : (10 : Nat) ^ (15 + 1) = 10000000000000000 := rfl; omega)
    omega

theorem vStep_ge (n : Nat) (c : UInt8) : n ≤ vStep n c := by unfold vStep; split <;> omega
theorem vFrom_ge : ∀ (l : List UInt8) (n : Nat), n ≤ vFrom n l
  | [], _ => Nat.le_refl _
  | c :: l, n => Nat.le_trans (vStep_ge n c) (vFrom_ge l (vStep n c))
theorem parse_digits {M : Nat} (hM : 10000000000000000 ≤ M) : ∀ (l : List UInt8) (acc : Nat), (∀ c ∈ l, 48 ≤ c.toNat ∧ c.toNat ≤ 57) → vFrom acc l ≤ 10000000000000000 → parseUintM M acc l = .ok (vFrom acc l)
  | [], acc, _, _ => rfl
  | c :: l, acc, hd, hv => by
    have hc := hd c (by simp)
    have hs : vStep acc c = acc * 10 + (c.toNat - 48) := by unfold vStep; rw [if_pos hc, Nat.mul_comm]
    have hle : vStep acc c ≤ 10000000000000000 := Nat.le_trans (vFrom_ge l _) hv
    unfold parseUintM
    rw [if_pos hc, if_neg (by omega), if_neg (by omega), ← hs]
    exact parse_digits hM l _ (fun c' h => hd c' (by simp [h])) hv
theorem parse_dec {u : Nat} (h : u ≤ 1000000000000000) : parseUintB 64 (decDigits u) = .ok u := by
  unfold parseUintB
  rw [if_neg (dec_ne u), parse_digits (by decide) _ _ (dec_digits u) (by rw [dec_val]; omega), dec_val]
theorem parse_itoa {n : Int} (h0 : -1000000000000000 ≤ n) (h1 : n ≤ 1000000000000000) : parseIntB 64 (itoa n) = .ok n := by
  have e63 : (2 : Nat) ^ (64 - 1) = 9223372036854775808 := rfl
  by_cases hn : n < 0
  · obtain ⟨u, rfl⟩ : ∃ u : Nat, n = -(u : Int) := ⟨n.natAbs, by omega⟩
    rw [itoa_neg u (by omega)]
    unfold parseIntB
    have e : ((45 : UInt8).toNat = 45) := rfl
    simp only [e, or_true, if_true, parse_dec (show u ≤ 1000000000000000 by omega), not_true_eq_false, false_and, if_false, true_and, e63]
    rw [if_neg (by omega)]
  · obtain ⟨u, rfl⟩ : ∃ u : Nat, n = u := ⟨n.toNat, by omega⟩
    rw [itoa_nonneg]
    have hd := dec_digits u
    have hp := parse_dec (show u ≤ 1000000000000000 by omega)
    unfold parseIntB
    cases hl : decDigits u with
    | nil => exact absurd hl (dec_ne u)
    | cons c r =>
      rw [hl] at hd hp
      have hc := hd c (by simp)
      have hne : ¬ (c.toNat = 43 ∨ c.toNat = 45) := by omega
      have hn45 : ¬ c.toNat = 45 := by omega
      have hsel : (if c.toNat = 43 ∨ c.toNat = 45 then r else c :: r) = c :: r := if_neg hne
      simp only [hsel]
      rw [hp]
      simp only [hn45, not_false_eq_true, true_and, e63, false_and, if_false]
      show (if 9223372036854775808 ≤ u then NumEnd.range else NumEnd.ok (u : Int)) = _
      rw [if_neg (by omega)]

/-! ### What both sides answer -/

def Want (l : List UInt8) (n : Int) : Prop := -1000000000000000 ≤ n ∧ n ≤ 1000000000000000 ∧ itoa n = l
def Ans (l : List UInt8) (r : Int) (t : Bool) : Prop := (t = true ∧ Want l r) ∨ (t = false ∧ r = 0 ∧ ∀ n, ¬ Want l n)
theorem Want.one {l : List UInt8} {n m : Int} (h : Want l n) (g : Want l m) : m = n := by
  have a := sVal_itoa n
  have b := sVal_itoa m
  rw [h.2.2] at a
  rw [g.2.2] at b
  omega
theorem Ans.same {l : List UInt8} {r r' : Int} {t t' : Bool} (h : Ans l r t) (g : Ans l r' t') : r' = r ∧ t' = t := by
  rcases h with ⟨h1, h2⟩ | ⟨h1, h2, h3⟩ <;> rcases g with ⟨g1, g2⟩ | ⟨g1, g2, g3⟩
  · exact ⟨h2.one g2, by rw [h1, g1]⟩
  · exact absurd h2 (g3 _)
  · exact absurd g2 (h3 _)
  · exact ⟨by rw [h2, g2], by rw [h1, g1]⟩
theorem no_long {l : List UInt8} (h : ¬ (1 ≤ l.length ∧ l.length ≤ 17)) (n : Int) : ¬ Want l n := by
  rintro ⟨h0, h1, rfl⟩
  exact h ⟨itoa_ne n, itoa_short h0 h1⟩
theorem no_val {l : List UInt8} (h : ¬ (-1000000000000000 ≤ sVal l ∧ sVal l ≤ 1000000000000000 ∧ itoa (sVal l) = l)) (n : Int) : ¬ Want l n := by
  rintro ⟨h0, h1, rfl⟩
  rw [sVal_itoa] at h
  exact h ⟨h0, h1, rfl⟩
theorem no_parse {l : List UInt8} (h : ∀ v, parseIntB 64 l = .ok v → ¬ (-1000000000000000 ≤ v ∧ v ≤ 1000000000000000 ∧ itoa v = l)) (n : Int) : ¬ Want l n := by
  rintro ⟨h0, h1, rfl⟩
  exact h n (parse_itoa h0 h1) ⟨h0, h1, rfl⟩

end Rd
end Go.Proofs.YtnhpiebddelebabDoor
