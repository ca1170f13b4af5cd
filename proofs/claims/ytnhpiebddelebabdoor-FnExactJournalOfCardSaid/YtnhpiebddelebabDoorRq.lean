/-
  ReadDecimal: the specification and the law, walked.
-/
import Derived.Test.YtnhpiebddelebabDoorRo
namespace Go.Proofs.YtnhpiebddelebabDoor
open Go.RowKit Go.Lib Rd

theorem l00In_b (n a b : Int) (w : World) : Calls Tryd.prog 75 #[.int .i64 n, .int .i64 a, .int .i64 b] w fun e w' => e = .returned (.bool (decide (a ≤ n) && decide (n ≤ b))) ∧ w = w' := by
  by_cases h1 : a ≤ n <;> by_cases h2 : n ≤ b
  all_goals
    go_enter Tryd.func75, Tryd.ntmps75
    go_wp2
    go_ret
    exact ⟨by simp [h1, h2], rfl⟩

theorem take_snoc (s : ByteArray) (k : Nat) (h : k < s.size) : s.data.toList.take (k + 1) = s.data.toList.take k ++ [s[k]] := by
  rw [List.take_succ_eq_append_getElem (by simpa using h)]; rfl
theorem v_snoc (s : ByteArray) (k : Nat) (h : k < s.size) : vFrom 0 (s.data.toList.take (k + 1)) = vStep (vFrom 0 (s.data.toList.take k)) s[k] := by
  rw [take_snoc s k h, vFrom_snoc]
theorem v_lt (s : ByteArray) (k : Nat) (h : k ≤ 17) : vFrom 0 (s.data.toList.take k) < 100000000000000000 := by
  have h1 := vFrom_lt (s.data.toList.take k) 0 0 (by omega)
  rw [Nat.zero_add] at h1
  have h2 : (s.data.toList.take k).length ≤ 17 := by rw [List.length_take]; omega
  have h3 : (10 : Nat) ^ (s.data.toList.take k).length ≤ 10 ^ 17 := Nat.pow_le_pow_right (by omega) h2
  have e : (10 : Nat) ^ 17 = 100000000000000000 := rfl
  omega
theorem v_lt2 (s : ByteArray) (k : Nat) (h : k ≤ 16) : vFrom 0 (s.data.toList.take k) < 10000000000000000 := by
  have h1 := vFrom_lt (s.data.toList.take k) 0 0 (by omega)
  rw [Nat.zero_add] at h1
  have h2 : (s.data.toList.take k).length ≤ 16 := by rw [List.length_take]; omega
  have h3 : (10 : Nat) ^ (s.data.toList.take k).length ≤ 10 ^ 16 := Nat.pow_le_pow_right (by omega) h2
  have e : (10 : Nat) ^ 16 = 10000000000000000 := rfl
  omega

def RdAt (s : ByteArray) (w : World) (n i : Value) (wr : World) : Prop := ∃ k : Nat, k ≤ s.size ∧ i = .int .i64 k ∧ n = .int .i64 (vFrom 0 (s.data.toList.take k) : Nat) ∧ wr = w

theorem size_list (s : ByteArray) : s.data.toList.length = s.size := by rw [Array.length_toList]; rfl

theorem head_byte (s : ByteArray) (h : 1 ≤ s.size) : s.data.toList.head? = some (s[0]'h) := by
  rw [List.head?_eq_getElem?, List.getElem?_eq_getElem (by rw [size_list]; exact h)]
  rfl
theorem byte_45 {b : UInt8} (h : b.toNat = 45) : b = 45 := by
  apply UInt8.toNat_inj.1
  exact h

theorem var_below {w w' : World} {name : String} {cs : Array Value} (h : w.var? Tryd.prog name = some cs) (hb : Below w.heap.size w w') : w'.var? Tryd.prog name = some cs := by
  unfold World.var? at h ⊢
  cases hg : Tryd.prog.globalNamed name with
  | none => rw [hg] at h; cases h
  | some g =>
    rw [hg] at h
    simp only [Option.bind_some] at h ⊢
    cases hh : w.heap[g]? with
    | none => rw [hh] at h; cases h
    | some o =>
      rw [hb.block g (Array.getElem?_eq_some_iff.1 hh).1]
      exact h

end Go.Proofs.YtnhpiebddelebabDoor
