/-
  A call of the library's decimal writer, as the kit's shelf proves it over any program, at this program's numbers.
-/
/-
  Decimal texts that are read: which number a text is of.
  Own work; imports nothing of the program.
-/
/-
  Decimal, walked: the program's side, and the digits of the specification.
-/
/-
  Decimal: the digits of numbers below nothing, the program's side and the law.
-/
/-
  Decimal: the program's side and the law, walked.
-/
/-
  ReadDecimal, walked: the program's side.
-/
/-
  ReadDecimal: the specification and the law, walked.
-/
import Derived.Shelf.LaysM
import Derived.Shelf.Strconv.Itoa4
import Derived.Test.YtnflmdlhcjjfdadGreatDoorProg
import Derived.Lib.ItoaMem
import Derived.Lib.ItoaLen
import Derived.Lib.ParseIntB
import Derived.Test.YtnflmdlhcjjfdadGreatDoorFrame
import Derived.OwnWalk
import Derived.Laws.AppendOwn
import Derived.Laws.OwnMore
import Derived.Laws.IdiomStrings
import Derived.Lib.UnsafeStr
import Derived.WalkKit
import Derived.BigCall
import Derived.Lib.AppendIntMem
import Derived.LaidSub
import Derived.Lib.LaidTab


namespace Go.Proofs
open Go.Shelf
def Tryz.laysM173_ren : Go.Shelf.Ren := ⟨fun | 173 => 67 | 246 => 74 | 283 => 84 | 284 => 85 | 285 => 86 | 286 => 87 | 129 => 98 | 317 => 97 | 318 => 99 | 319 => 100 | 320 => 101 | 337 => 107 | 338 => 108 | n => n, fun | 2 => 2 | 3 => 3 | 9 => 9 | 4 => 4 | 171 => 111 | 0 => 0 | 53 => 72 | 37 => 22 | 5 => 5 | 173 => 114 | 212 => 128 | 51 => 68 | 20 => 20 | 213 => 129 | 46 => 84 | 232 => 138 | 233 => 139 | n => n, fun | 17 => 2 | 18 => 5 | 19 => 6 | n => n⟩
theorem Tryz.laysM173 : Go.Proofs.LaysM.n173 Tryz.prog Tryz.laysM173_ren := {
  mixed := by kernel_rfl
  f129 := Tryz.func98.trans (congrArg some (by kernel_rfl))
  f173 := Tryz.func67.trans (congrArg some (by kernel_rfl))
  f246 := Tryz.func74.trans (congrArg some (by kernel_rfl))
  f283 := Tryz.func84.trans (congrArg some (by kernel_rfl))
  f284 := Tryz.func85.trans (congrArg some (by kernel_rfl))
  f285 := Tryz.func86.trans (congrArg some (by kernel_rfl))
  f286 := Tryz.func87.trans (congrArg some (by kernel_rfl))
  f317 := Tryz.func97.trans (congrArg some (by kernel_rfl))
  f318 := Tryz.func99.trans (congrArg some (by kernel_rfl))
  f319 := Tryz.func100.trans (congrArg some (by kernel_rfl))
  f320 := Tryz.func101.trans (congrArg some (by kernel_rfl))
  f337 := Tryz.func107.trans (congrArg some (by kernel_rfl))
  f338 := Tryz.func108.trans (congrArg some (by kernel_rfl))
  t0 := Tryz.underlying0
  a0 := Tryz.isAgg0
  z0 := Tryz.sizeOf0
  v0 := Tryz.zeroValue0
  t2 := Tryz.underlying2
  a2 := Tryz.isAgg2
  z2 := Tryz.sizeOf2
  v2 := Tryz.zeroValue2
  t3 := Tryz.underlying3
  a3 := Tryz.isAgg3
  z3 := Tryz.sizeOf3
  v3 := Tryz.zeroValue3
  t4 := Tryz.underlying4
  a4 := Tryz.isAgg4
  z4 := Tryz.sizeOf4
  v4 := Tryz.zeroValue4
  t5 := Tryz.underlying5
  a5 := Tryz.isAgg5
  z5 := Tryz.sizeOf5
  v5 := Tryz.zeroValue5
  t9 := Tryz.underlying9
  a9 := Tryz.isAgg9
  z9 := Tryz.sizeOf9
  v9 := Tryz.zeroValue9
  t20 := Tryz.underlying20
  a20 := Tryz.isAgg20
  z20 := Tryz.sizeOf20
  v20 := Tryz.zeroValue20
  t37 := Tryz.underlying22
  a37 := Tryz.isAgg22
  z37 := Tryz.sizeOf22
  v37 := Tryz.zeroValue22
  t46 := Tryz.underlying84
  a46 := Tryz.isAgg84
  z46 := Tryz.sizeOf84
  v46 := Tryz.zeroValue84
  t51 := Tryz.underlying68
  a51 := Tryz.isAgg68
  z51 := Tryz.sizeOf68
  v51 := Tryz.zeroValue68
  t53 := Tryz.underlying72
  a53 := Tryz.isAgg72
  z53 := Tryz.sizeOf72
  v53 := Tryz.zeroValue72
  t171 := Tryz.underlying111
  a171 := Tryz.isAgg111
  z171 := Tryz.sizeOf111
  v171 := Tryz.zeroValue111
  t173 := Tryz.underlying114
  a173 := Tryz.isAgg114
  z173 := Tryz.sizeOf114
  v173 := Tryz.zeroValue114
  t212 := Tryz.underlying128
  a212 := Tryz.isAgg128
  z212 := Tryz.sizeOf128
  v212 := Tryz.zeroValue128
  t213 := Tryz.underlying129
  a213 := Tryz.isAgg129
  z213 := Tryz.sizeOf129
  t232 := Tryz.underlying138
  a232 := Tryz.isAgg138
  z232 := Tryz.sizeOf138
  v232 := Tryz.zeroValue138
  t233 := Tryz.underlying139
  a233 := Tryz.isAgg139
  z233 := Tryz.sizeOf139
  v233 := Tryz.zeroValue139
  g17 := by kernel_rfl
  g18 := by kernel_rfl
  g19 := by kernel_rfl
  i0 := by kernel_rfl
  i2 := by kernel_rfl
  i3 := by kernel_rfl
  i4 := by kernel_rfl
  i5 := by kernel_rfl
  i9 := by kernel_rfl
  i20 := by kernel_rfl
  i37 := by kernel_rfl
  i46 := by kernel_rfl
  i51 := by kernel_rfl
  i53 := by kernel_rfl
  i171 := by kernel_rfl
  i173 := by kernel_rfl
  i212 := by kernel_rfl
  i232 := by kernel_rfl
  i233 := by kernel_rfl
  m17 := by kernel_rfl
  m18 := by kernel_rfl
  m19 := by kernel_rfl }
open Go.RowKit Go.Sort Go.Lib in
theorem Tryz.strconv_FormatInt_10 (n : Int) (h0 : -9223372036854775808 ≤ n) (h1 : n ≤ 9223372036854775807) (w : World) (htab : Lib.TabIs Tryz.prog w "internal/strconv.uint64pow10" .u64 Lib.pow10Tab) :
    Calls Tryz.prog 67 #[.int .i64 n, .int .i64 10] w fun e w' => e = .returned (.string ⟨(Lib.itoa n).toArray⟩) ∧ ∃ k os, w' = grow (w.drewN k) os := Any.strconv_FormatInt_10 Tryz.laysM173 n h0 h1 w htab
end Go.Proofs

namespace Go.Proofs.YtnflmdlhcjjfdadGreatDoor
namespace Rd
open Go.Lib

theorem dig_toNat {d : Nat} (h : d < 10) : (UInt8.ofNat (48 + d)).toNat = 48 + d := by
  rw [UInt8.toNat_ofNat']
  exact Nat.mod_eq_of_lt (by omega)

def vStep (n : Nat) (c : UInt8) : Nat := if 48 ≤ c.toNat ∧ c.toNat ≤ 57 then 10 * n + (c.toNat - 48) else n
def vFrom (n : Nat) (l : List UInt8) : Nat := l.foldl vStep n
def sVal (l : List UInt8) : Int := if l.head? = some 45 then -(vFrom 0 l : Int) else (vFrom 0 l : Int)

theorem vFrom_snoc (n : Nat) (l : List UInt8) (c : UInt8) : vFrom n (l ++ [c]) = vStep (vFrom n l) c := by
  unfold vFrom; rw [List.foldl_append]; rfl
theorem vStep_lt {n k : Nat} (c : UInt8) (h : n < 10 ^ k) : vStep n c < 10 ^ (k + 1) := by
  rw [Nat.pow_succ]
  unfold vStep
  split <;> omega
theorem vFrom_lt : ∀ (l : List UInt8) (n k : Nat), n < 10 ^ k → vFrom n l < 10 ^ (k + l.length)
  | [], n, k, h => h
  | c :: l, n, k, h => by
    have := vFrom_lt l (vStep n c) (k + 1) (vStep_lt c h)
    have e : k + 1 + l.length = k + (c :: l).length := by simp; omega
    rw [e] at this
    exact this

theorem dec_digits (u : Nat) : ∀ c ∈ decDigits u, 48 ≤ c.toNat ∧ c.toNat ≤ 57 := by
  induction u using Nat.strongRecOn with
  | _ u ih =>
    intro c hc
    by_cases h : u < 10
    · rw [decDigits_one h] at hc
      simp only [List.mem_cons, List.not_mem_nil, or_false] at hc
      subst hc
      rw [dig_toNat h]
      omega
    · rw [decDigits, dif_neg h, List.mem_append] at hc
      rcases hc with hc | hc
      · exact ih (u / 10) (by omega) c hc
      · simp only [List.mem_cons, List.not_mem_nil, or_false] at hc
        subst hc
        have hm : u % 10 < 10 := Nat.mod_lt _ (by omega)
        rw [dig_toNat hm]
        omega
theorem dec_ne (u : Nat) : decDigits u ≠ [] := by
  by_cases h : u < 10
  · rw [decDigits_one h]; exact List.cons_ne_nil _ _
  · rw [decDigits, dif_neg h]
    intro e
    have := congrArg List.length e
    simp at this
theorem dec_val (u : Nat) : vFrom 0 (decDigits u) = u := by
  induction u using Nat.strongRecOn with
  | _ u ih =>
    by_cases h : u < 10
    · rw [decDigits_one h]
      show vStep 0 _ = u
      unfold vStep
      rw [dig_toNat h, if_pos (by omega)]
      omega
    · rw [decDigits, dif_neg h, vFrom_snoc, ih (u / 10) (by omega)]
      unfold vStep
      have hm : u % 10 < 10 := Nat.mod_lt _ (by omega)
      rw [dig_toNat hm, if_pos (by omega)]
      omega
theorem dec_length {u : Nat} : ∀ {k : Nat}, u < 10 ^ (k + 1) → (decDigits u).length ≤ k + 1 := by
  induction u using Nat.strongRecOn with
  | _ u ih =>
    intro k hk
    by_cases h : u < 10
    · rw [decDigits_one h]; simp
    · rw [decDigits, dif_neg h, List.length_append]
      cases k with
      | zero => simp at hk; omega
      | succ k =>
        have := ih (u / 10) (by omega) (k := k) (by rw [Nat.pow_succ] at hk; omega)
        simp
        omega

theorem sVal_itoa (n : Int) : sVal (itoa n) = n := by
  by_cases hn : n < 0
  · obtain ⟨u, rfl⟩ : ∃ u : Nat, n = -(u : Int) := ⟨n.natAbs, by omega⟩
    rw [itoa_neg u (by omega)]
    unfold sVal
    rw [if_pos (show (45 :: decDigits u).head? = some 45 from rfl)]
    have e : vFrom 0 (45 :: decDigits u) = vFrom 0 (decDigits u) := rfl
    rw [e, dec_val]
  · obtain ⟨u, rfl⟩ : ∃ u : Nat, n = u := ⟨n.toNat, by omega⟩
    rw [itoa_nonneg]
    unfold sVal
    rw [if_neg, dec_val]
    intro h
    have hm : (45 : UInt8) ∈ decDigits u := List.mem_of_head? h
    have := (dec_digits u _ hm).1
    have e : (45 : UInt8).toNat = 45 := rfl
    omega
theorem itoa_ne (n : Int) : 1 ≤ (itoa n).length := by
  by_cases hn : n < 0
  · obtain ⟨u, rfl⟩ : ∃ u : Nat, n = -(u : Int) := ⟨n.natAbs, by omega⟩
    rw [itoa_neg u (by omega)]; simp
  · obtain ⟨u, rfl⟩ : ∃ u : Nat, n = u := ⟨n.toNat, by omega⟩
    rw [itoa_nonneg]
    have := dec_ne u
    exact List.length_pos_iff.2 this
theorem itoa_short {n : Int} (h0 : -1000000000000000 ≤ n) (h1 : n ≤ 1000000000000000) : (itoa n).length ≤ 17 := by
  by_cases hn : n < 0
  · obtain ⟨u, rfl⟩ : ∃ u : Nat, n = -(u : Int) := ⟨n.natAbs, by omega⟩
    rw [itoa_neg u (by omega), List.length_cons]
    have := dec_length (u := u) (k := 15) (by have e : (10 : Nat) ^ (15 + 1) = 10000000000000000 := rfl; omega)
    omega
  · obtain ⟨u, rfl⟩ : ∃ u : Nat, n = u := ⟨n.toNat, by omega⟩
    rw [itoa_nonneg]
    have := dec_length (u := u) (k := 15) (by have e : (10 : Nat) ^ (15 + 1) = 10000000000000000 := rfl; omega)
    omega

theorem vStep_ge (n : Nat) (c : UInt8) : n ≤ vStep n c := by unfold vStep; split <;> omega
theorem vFrom_ge : ∀ (l : List UInt8) (n : Nat), n ≤ vFrom n l
  | [], _ => Nat.le_refl _
  | c :: l, n => Nat.le_trans (vStep_ge n c) (vFrom_ge l (vStep n c))
theorem parse_digits {M : Nat} (hM : 10000000000000000 ≤ M) : ∀ (l : List UInt8) (acc : Nat), (∀ c ∈ l, 48 ≤ c.toNat ∧ c.toNat ≤ 57) → vFrom acc l ≤ 10000000000000000 → parseUintM M acc l = .ok (vFrom acc l)
  | [], acc, _, _ => rfl
  | c :: l, acc, hd, hv => by
    have hc := hd c (by simp)
    have hs : vStep acc c = acc * 10 + (c.toNat - 48) := by unfold vStep; rw [if_pos hc, Nat.mul_comm]
    have hle : vStep acc c ≤ 10000000000000000 := Nat.le_trans (vFrom_ge l _) hv
    unfold parseUintM
    rw [if_pos hc, if_neg (by omega), if_neg (by omega), ← hs]
    exact parse_digits hM l _ (fun c' h => hd c' (by simp [h])) hv
theorem parse_dec {u : Nat} (h : u ≤ 1000000000000000) : parseUintB 64 (decDigits u) = .ok u := by
  unfold parseUintB
  rw [if_neg (dec_ne u), parse_digits (by decide) _ _ (dec_digits u) (by rw [dec_val]; omega), dec_val]
theorem parse_itoa {n : Int} (h0 : -1000000000000000 ≤ n) (h1 : n ≤ 1000000000000000) : parseIntB 64 (itoa n) = .ok n := by
  have e63 : (2 : Nat) ^ (64 - 1) = 9223372036854775808 := rfl
  by_cases hn : n < 0
  · obtain ⟨u, rfl⟩ : ∃ u : Nat, n = -(u : Int) := ⟨n.natAbs, by omega⟩
    rw [itoa_neg u (by omega)]
    unfold parseIntB
    have e : ((45 : UInt8).toNat = 45) := rfl
    simp only [e, or_true, if_true, parse_dec (show u ≤ 1000000000000000 by omega), not_true_eq_false, false_and, if_false, true_and, e63]
    rw [if_neg (by omega)]
  · obtain ⟨u, rfl⟩ : ∃ u : Nat, n = u := ⟨n.toNat, by omega⟩
    rw [itoa_nonneg]
    have hd := dec_digits u
    have hp := parse_dec (show u ≤ 1000000000000000 by omega)
    unfold parseIntB
    cases hl : decDigits u with
    | nil => exact absurd hl (dec_ne u)
    | cons c r =>
      rw [hl] at hd hp
      have hc := hd c (by simp)
      have hne : ¬ (c.toNat = 43 ∨ c.toNat = 45) := by omega
      have hn45 : ¬ c.toNat = 45 := by omega
      have hsel : (if c.toNat = 43 ∨ c.toNat = 45 then r else c :: r) = c :: r := if_neg hne
      simp only [hsel]
      rw [hp]
      simp only [hn45, not_false_eq_true, true_and, e63, false_and, if_false]
      show (if 9223372036854775808 ≤ u then NumEnd.range else NumEnd.ok (u : Int)) = _
      rw [if_neg (by omega)]

/-! ### What both sides answer -/

def Want (l : List UInt8) (n : Int) : Prop := -1000000000000000 ≤ n ∧ n ≤ 1000000000000000 ∧ itoa n = l
def Ans (l : List UInt8) (r : Int) (t : Bool) : Prop := (t = true ∧ Want l r) ∨ (t = false ∧ r = 0 ∧ ∀ n, ¬ Want l n)
theorem Want.one {l : List UInt8} {n m : Int} (h : Want l n) (g : Want l m) : m = n := by
  have a := sVal_itoa n
  have b := sVal_itoa m
  rw [h.2.2] at a
  rw [g.2.2] at b
  omega
theorem Ans.same {l : List UInt8} {r r' : Int} {t t' : Bool} (h : Ans l r t) (g : Ans l r' t') : r' = r ∧ t' = t := by
  rcases h with ⟨h1, h2⟩ | ⟨h1, h2, h3⟩ <;> rcases g with ⟨g1, g2⟩ | ⟨g1, g2, g3⟩
  · exact ⟨h2.one g2, by rw [h1, g1]⟩
  · exact absurd h2 (g3 _)
  · exact absurd g2 (h3 _)
  · exact ⟨by rw [h2, g2], by rw [h1, g1]⟩
theorem no_long {l : List UInt8} (h : ¬ (1 ≤ l.length ∧ l.length ≤ 17)) (n : Int) : ¬ Want l n := by
  rintro ⟨h0, h1, rfl⟩
  exact h ⟨itoa_ne n, itoa_short h0 h1⟩
theorem no_val {l : List UInt8} (h : ¬ (-1000000000000000 ≤ sVal l ∧ sVal l ≤ 1000000000000000 ∧ itoa (sVal l) = l)) (n : Int) : ¬ Want l n := by
  rintro ⟨h0, h1, rfl⟩
  rw [sVal_itoa] at h
  exact h ⟨h0, h1, rfl⟩
theorem no_parse {l : List UInt8} (h : ∀ v, parseIntB 64 l = .ok v → ¬ (-1000000000000000 ≤ v ∧ v ≤ 1000000000000000 ∧ itoa v = l)) (n : Int) : ¬ Want l n := by
  rintro ⟨h0, h1, rfl⟩
  exact h n (parse_itoa h0 h1) ⟨h0, h1, rfl⟩

end Rd
end Go.Proofs.YtnflmdlhcjjfdadGreatDoor

namespace Go.Proofs.YtnflmdlhcjjfdadGreatDoor
open Go.RowKit Go.Lib

theorem infoB : (Tryz.prog.info? 5).map (fun i => (i.zero, i.size, i.bytes)) = some (some (.int .u8 0), 1, 1) := by kernel_rfl

/-- The digits so far, and what is left. -/
def DecR (u r : Nat) (out : List UInt8) : Prop :=
  (out = [] ∧ r = u) ∨ (out ≠ [] ∧ r ≠ 0 ∧ decDigits u = decDigits r ++ out) ∨ (out ≠ [] ∧ r = 0 ∧ decDigits u = out)
theorem dec_step {u r : Nat} {out : List UInt8} (h : DecR u r out) (hc : out = [] ∨ r ≠ 0) : DecR u (r / 10) (UInt8.ofNat (48 + r % 10) :: out) := by
  have key : decDigits u = decDigits r ++ out := by
    rcases h with ⟨h1, h2⟩ | ⟨_, _, h3⟩ | ⟨h1, h2, _⟩
    · rw [h1, h2, List.append_nil]
    · exact h3
    · rcases hc with hc | hc
      · exact absurd hc h1
      · exact absurd h2 hc
  by_cases hr : r < 10
  · refine .inr (.inr ⟨by simp, by omega, ?_⟩)
    rw [key, decDigits_one hr, Nat.mod_eq_of_lt hr]
    rfl
  · refine .inr (.inl ⟨by simp, by omega, ?_⟩)
    rw [key]
    conv => lhs; rw [decDigits, dif_neg hr]
    rw [List.append_assoc]
    rfl
theorem dec_end {u : Nat} {out : List UInt8} (h : DecR u 0 out) (hne : out ≠ []) : decDigits u = out := by
  rcases h with ⟨h1, _⟩ | ⟨_, h2, _⟩ | ⟨_, _, h3⟩
  · exact absurd h1 hne
  · exact absurd rfl h2
  · exact h3
theorem dec_len {u r : Nat} {out : List UInt8} (h : DecR u r out) : out.length ≤ (decDigits u).length := by
  rcases h with ⟨h1, _⟩ | ⟨_, _, h3⟩ | ⟨_, _, h3⟩
  · rw [h1]; exact Nat.zero_le _
  · rw [h3, List.length_append]; omega
  · rw [h3]; exact Nat.le_refl _

theorem bytes_one (bs : List UInt8) : ∀ u ∈ byteCells bs, u.oneCell' = true := by
  intro u hu
  obtain ⟨_, _, rfl⟩ := List.mem_map.1 hu
  rfl

/-- A slice of bytes of the call's own. -/
def OwnB (w : World) (base : Nat) (v : Value) (bs : List UInt8) : Prop := w.ownsRow base 5 1 v bs.length (byteCells bs)
theorem none_lit (w : World) : OwnB (w.alloc (.cells #[] 5)) w.heap.size (.slice (some ⟨w.heap.size, 0, none⟩) 0 0) [] :=
  World.ownsRow_lit w #[] 0 (Nat.le_refl _) (by unfold maxLen; omega) rfl

theorem dig_cell (m : Nat) : Value.int .u8 (48 + (m : Int) % 10) = .int .u8 ((UInt8.ofNat (48 + m % 10)).toNat : Int) := by
  have h : (UInt8.ofNat (48 + m % 10)).toNat = 48 + m % 10 := by
    rw [UInt8.toNat_ofNat']
    exact Nat.mod_eq_of_lt (by have := Nat.mod_lt m (show 0 < 10 by omega); omega)
  rw [h]
  congr 1
theorem own_cons {w3 : World} {B k m : Nat} {v' : Value} {out : List UInt8} (hk : k = out.length) (h : w3.ownsRow B 5 1 v' (1 + k) ([.int .u8 (48 + (m : Int) % 10)] ++ byteCells out)) :
    ∃ g cap, v' = .slice (some ⟨g, 0, none⟩) (k + 1) cap ∧ OwnB w3 B v' (UInt8.ofNat (48 + m % 10) :: out) := by
  rw [dig_cell, Nat.add_comm 1 k] at h
  have h2 : OwnB w3 B v' (UInt8.ofNat (48 + m % 10) :: out) := by
    unfold OwnB
    rw [List.length_cons, ← hk]
    exact h
  rcases h.2 with ⟨_, h0⟩ | ⟨g, cap, cur, hv, _⟩
  · omega
  · exact ⟨g, cap, hv, h2⟩

def lenV : Value → Nat | .slice _ n _ => n | _ => 0
def DecAtP (u : Nat) (w : World) (v r : Value) (wr : World) : Prop :=
  ∃ m k g cap out, m ≤ u ∧ r = .int .i64 (m : Int) ∧ v = .slice (some ⟨g, 0, none⟩) k cap ∧ k = out.length ∧ DecR u m out ∧ OwnB wr w.heap.size v out ∧ Below w.heap.size w wr

end Go.Proofs.YtnflmdlhcjjfdadGreatDoor

namespace Go.Proofs.YtnflmdlhcjjfdadGreatDoor
open Go.RowKit Go.Lib

theorem dig_cell0 {m : Nat} (h : m % 10 = 0) : Value.int .u8 48 = .int .u8 ((UInt8.ofNat (48 + m % 10)).toNat : Int) := by rw [h]; rfl
theorem own_cons' {w3 : World} {B k : Nat} {x v' : Value} {b : UInt8} {out : List UInt8} (hk : k = out.length) (hx : x = .int .u8 (b.toNat : Int)) (h : w3.ownsRow B 5 1 v' (1 + k) ([x] ++ byteCells out)) :
    ∃ g cap, v' = .slice (some ⟨g, 0, none⟩) (k + 1) cap ∧ OwnB w3 B v' (b :: out) := by
  rw [hx, Nat.add_comm 1 k] at h
  have h2 : OwnB w3 B v' (b :: out) := by
    unfold OwnB
    rw [List.length_cons, ← hk]
    exact h
  rcases h.2 with ⟨_, h0⟩ | ⟨g, cap, cur, hv, _⟩
  · omega
  · exact ⟨g, cap, hv, h2⟩

def DecAtN (u : Nat) (w : World) (v r : Value) (wr : World) : Prop :=
  ∃ m k g cap out, m ≤ u ∧ r = .int .i64 (-(m : Int)) ∧ v = .slice (some ⟨g, 0, none⟩) k cap ∧ k = out.length ∧ DecR u m out ∧ OwnB wr w.heap.size v out ∧ Below w.heap.size w wr

end Go.Proofs.YtnflmdlhcjjfdadGreatDoor

namespace Go.Proofs.YtnflmdlhcjjfdadGreatDoor
open Go.RowKit Go.Lib

end Go.Proofs.YtnflmdlhcjjfdadGreatDoor

namespace Go.Proofs.YtnflmdlhcjjfdadGreatDoor
open Go.RowKit Go.Lib Rd

theorem bytes_toList (s : ByteArray) : s.toList = s.data.toList := ByteArray.toList_eq s

def RdV (s : ByteArray) (w : World) (e : Ending) (w' : World) : Prop := ∃ r t, e = .returned (.tuple #[.int .i64 r, .bool t]) ∧ Ans s.data.toList r t ∧ Below w.heap.size w w'

end Go.Proofs.YtnflmdlhcjjfdadGreatDoor

namespace Go.Proofs.YtnflmdlhcjjfdadGreatDoor
open Go.RowKit Go.Lib Rd

theorem take_snoc (s : ByteArray) (k : Nat) (h : k < s.size) : s.data.toList.take (k + 1) = s.data.toList.take k ++ [s[k]] := by
  rw [List.take_succ_eq_append_getElem (by simpa using h)]; rfl
theorem v_snoc (s : ByteArray) (k : Nat) (h : k < s.size) : vFrom 0 (s.data.toList.take (k + 1)) = vStep (vFrom 0 (s.data.toList.take k)) s[k] := by
  rw [take_snoc s k h, vFrom_snoc]
theorem v_lt (s : ByteArray) (k : Nat) (h : k ≤ 17) : vFrom 0 (s.data.toList.take k) < 100000000000000000 := by
  have h1 := vFrom_lt (s.data.toList.take k) 0 0 (by omega)
  rw [Nat.zero_add] at h1
  have h2 : (s.data.toList.take k).length ≤ 17 := by rw [List.length_take]; omega
  have h3 : (10 : Nat) ^ (s.data.toList.take k).length ≤ 10 ^ 17 := Nat.pow_le_pow_right (by omega) h2
  have e : (10 : Nat) ^ 17 = 100000000000000000 := rfl
  omega
theorem v_lt2 (s : ByteArray) (k : Nat) (h : k ≤ 16) : vFrom 0 (s.data.toList.take k) < 10000000000000000 := by
  have h1 := vFrom_lt (s.data.toList.take k) 0 0 (by omega)
  rw [Nat.zero_add] at h1
  have h2 : (s.data.toList.take k).length ≤ 16 := by rw [List.length_take]; omega
  have h3 : (10 : Nat) ^ (s.data.toList.take k).length ≤ 10 ^ 16 := Nat.pow_le_pow_right (by omega) h2
  have e : (10 : Nat) ^ 16 = 10000000000000000 := rfl
  omega

def RdAt (s : ByteArray) (w : World) (n i : Value) (wr : World) : Prop := ∃ k : Nat, k ≤ s.size ∧ i = .int .i64 k ∧ n = .int .i64 (vFrom 0 (s.data.toList.take k) : Nat) ∧ wr = w

theorem size_list (s : ByteArray) : s.data.toList.length = s.size := by rw [Array.length_toList]; rfl

theorem head_byte (s : ByteArray) (h : 1 ≤ s.size) : s.data.toList.head? = some (s[0]'h) := by
  rw [List.head?_eq_getElem?, List.getElem?_eq_getElem (by rw [size_list]; exact h)]
  rfl
theorem byte_45 {b : UInt8} (h : b.toNat = 45) : b = 45 := by
  apply UInt8.toNat_inj.1
  exact h

theorem var_below {w w' : World} {name : String} {cs : Array Value} (h : w.var? Tryz.prog name = some cs) (hb : Below w.heap.size w w') : w'.var? Tryz.prog name = some cs := by
  unfold World.var? at h ⊢
  cases hg : Tryz.prog.globalNamed name with
  | none => rw [hg] at h; cases h
  | some g =>
    rw [hg] at h
    simp only [Option.bind_some] at h ⊢
    cases hh : w.heap[g]? with
    | none => rw [hh] at h; cases h
    | some o =>
      rw [hb.block g (Array.getElem?_eq_some_iff.1 hh).1]
      exact h

end Go.Proofs.YtnflmdlhcjjfdadGreatDoor
