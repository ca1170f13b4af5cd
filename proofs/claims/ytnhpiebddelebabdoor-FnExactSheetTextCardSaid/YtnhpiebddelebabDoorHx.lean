/-
  Eight hexadecimal digits and the number with these bits; ReadNumbers: one number, on the program's side.
-/
import Derived.Test.YtnhpiebddelebabDoorRl
import Derived.Test.YtnhpiebddelebabDoorEf
import Derived.Laws.RangeAny
import Derived.Laws.RangeString
namespace Go.Proofs.YtnhpiebddelebabDoor
open Go.RowKit Go.Lib Rd Go.WideShapes Fl

def hxV (c : UInt8) : Option Nat := if 48 ≤ c.toNat ∧ c.toNat ≤ 57 then some (c.toNat - 48) else if 97 ≤ c.toNat ∧ c.toNat ≤ 102 then some (c.toNat - 87) else none
def hxAll : List UInt8 → Nat → Option Nat
  | [], n => some n
  | c :: l, n => match hxV c with
    | none => none
    | some d => hxAll l (16 * n + d)
theorem hxV_lt {c : UInt8} {d : Nat} (h : hxV c = some d) : d < 16 := by
  unfold hxV at h
  split at h
  · injection h with h; omega
  · split at h
    · injection h with h; omega
    · cases h
theorem hxAll_snoc : ∀ (l : List UInt8) (n m d : Nat) (c : UInt8), hxAll l n = some m → hxV c = some d → hxAll (l ++ [c]) n = some (16 * m + d)
  | [], n, m, d, c, h, hc => by
    simp only [hxAll, Option.some.injEq] at h
    subst h
    simp only [List.nil_append, hxAll, hc]
  | b :: l, n, m, d, c, h, hc => by
    rw [List.cons_append, hxAll]
    rw [hxAll] at h
    cases hb : hxV b with
    | none => rw [hb] at h; cases h
    | some e =>
      rw [hb] at h
      exact hxAll_snoc l _ m d c h hc
theorem hxAll_bad : ∀ (l r : List UInt8) (n : Nat) (c : UInt8), hxV c = none → hxAll (l ++ c :: r) n = none
  | [], r, n, c, hc => by rw [List.nil_append, hxAll, hc]
  | b :: l, r, n, c, hc => by
    rw [List.cons_append, hxAll]
    cases hxV b with
    | none => rfl
    | some e => exact hxAll_bad l r _ c hc
theorem hxAll_lt : ∀ (l : List UInt8) (n m k : Nat), n < 16 ^ k → hxAll l n = some m → m < 16 ^ (k + l.length)
  | [], n, m, k, hn, h => by
    simp only [hxAll, Option.some.injEq] at h
    subst h
    exact hn
  | b :: l, n, m, k, hn, h => by
    rw [hxAll] at h
    cases hb : hxV b with
    | none => rw [hb] at h; cases h
    | some e =>
      rw [hb] at h
      have he := hxV_lt hb
      have h1 : 16 * n + e < 16 ^ (k + 1) := by rw [Nat.pow_succ]; omega
      have := hxAll_lt l _ m (k + 1) h1 h
      rwa [Nat.add_assoc, Nat.add_comm 1] at this
theorem hx_take {s : ByteArray} {k m d : Nat} (hk : k < s.size) (h : hxAll (s.data.toList.take k) 0 = some m) (hd : hxV s[k] = some d) : hxAll (s.data.toList.take (k + 1)) 0 = some (16 * m + d) := by
  rw [take_snoc s k hk]
  exact hxAll_snoc _ _ _ _ _ h hd
theorem hx_stop {s : ByteArray} {k : Nat} (hk : k < s.size) (hd : hxV s[k] = none) : hxAll s.data.toList 0 = none := by
  have e : s.data.toList = s.data.toList.take k ++ s[k] :: s.data.toList.drop (k + 1) := by
    have h1 := (List.take_append_drop k s.data.toList).symm
    have h2 : s.data.toList.drop k = s[k] :: s.data.toList.drop (k + 1) := by
      have hk' : k < s.data.toList.length := by rw [size_list]; exact hk
      rw [List.drop_eq_getElem_cons hk']
      rfl
    rw [h2] at h1
    exact h1
  rw [e]
  exact hxAll_bad _ _ _ _ hd
theorem hx_bound {s : ByteArray} {k m : Nat} (h8 : k ≤ 8) (h : hxAll (s.data.toList.take k) 0 = some m) : m < 4294967296 := by
  have h1 := hxAll_lt _ 0 m 0 (by decide) h
  have h2 : (s.data.toList.take k).length ≤ 8 := by rw [List.length_take]; omega
  have h3 : (16 : Nat) ^ (0 + (s.data.toList.take k).length) ≤ 16 ^ 8 := Nat.pow_le_pow_right (by omega) (by omega)
  have e : (16 : Nat) ^ 8 = 4294967296 := rfl
  omega
theorem hx_bound7 {s : ByteArray} {k m : Nat} (h8 : k ≤ 7) (h : hxAll (s.data.toList.take k) 0 = some m) : m < 268435456 := by
  have h1 := hxAll_lt _ 0 m 0 (by decide) h
  have h2 : (s.data.toList.take k).length ≤ 7 := by rw [List.length_take]; omega
  have h3 : (16 : Nat) ^ (0 + (s.data.toList.take k).length) ≤ 16 ^ 7 := Nat.pow_le_pow_right (by omega) (by omega)
  have e : (16 : Nat) ^ 7 = 268435456 := rfl
  omega

/-- The digits l are those of the number with the bits b. -/
def WantF (l : List UInt8) (b : Nat) : Prop := l.length = 8 ∧ hxAll l 0 = some b ∧ bitsV b = (b : Int)
def AnsF (l : List UInt8) (r : Nat) (t : Bool) : Prop := (t = true ∧ WantF l r) ∨ (t = false ∧ r = 0 ∧ ∀ n, ¬ WantF l n)
theorem WantF.one {l : List UInt8} {n m : Nat} (h : WantF l n) (g : WantF l m) : m = n := by
  have e := h.2.1
  rw [g.2.1] at e
  injection e
theorem noF_stop {s : ByteArray} {k : Nat} (hk : k < s.size) (hd : hxV s[k] = none) (n : Nat) : ¬ WantF s.data.toList n := fun h => by
  have := h.2.1
  rw [hx_stop hk hd] at this
  cases this
theorem noF_len {s : ByteArray} (h : s.size ≠ 8) (n : Nat) : ¬ WantF s.data.toList n := fun g => by
  have := g.1
  rw [size_list] at this
  exact h this
theorem noF_bits {s : ByteArray} {b : Nat} (h : hxAll s.data.toList 0 = some b) (hb : bitsV b ≠ (b : Int)) (n : Nat) : ¬ WantF s.data.toList n := fun g => by
  have := g.2.1
  rw [h] at this
  injection this with this
  subst this
  exact hb g.2.2
theorem hx_whole {s : ByteArray} {k b : Nat} (hk : s.size ≤ k) (h : hxAll (s.data.toList.take k) 0 = some b) : hxAll s.data.toList 0 = some b := by
  rwa [List.take_of_length_le (by rw [size_list]; exact hk)] at h

theorem below_iter (w : World) (s : ByteArray) (pos : Nat) : Below w.heap.size w (w.iter s pos) := (Below.refl _ _).alloc (Nat.le_refl _) _

def RdNV (s : ByteArray) (w : World) (e : Ending) (w' : World) : Prop := ∃ r t, e = .returned (.tuple #[.float .f32 r, .bool t]) ∧ AnsF s.data.toList r t ∧ Below w.heap.size w w'

def HexAt (s : ByteArray) (w : World) (v : Value) (wr : World) : Prop :=
  ∃ pos n, pos ≤ s.size ∧ wr = w.iter s pos ∧ v = .int .i64 ((n : Nat) : Int) ∧ hxAll (s.data.toList.take pos) 0 = some n

end Go.Proofs.YtnhpiebddelebabDoor
