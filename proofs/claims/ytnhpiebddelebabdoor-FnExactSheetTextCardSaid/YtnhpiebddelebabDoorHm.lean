/-
  Hexadecimal digits of a number: all eight, and as many as there are.
-/
import Derived.Test.YtnhpiebddelebabDoorHx
namespace Go.Proofs.YtnhpiebddelebabDoor
open Go.RowKit Go.Lib Rd Go.WideShapes Fl

def hexc (d : Nat) : UInt8 := if d < 10 then UInt8.ofNat (48 + d) else UInt8.ofNat (87 + d)
/-- The last j digits. -/
def low (n : Nat) : Nat → List UInt8
  | 0 => []
  | j + 1 => hexc (n / 16 ^ j % 16) :: low n j
theorem low_len (n j : Nat) : (low n j).length = j := by
  induction j with
  | zero => rfl
  | succ j ih => simp [low, ih]
theorem hexc_zero : hexc 0 = 48 := rfl
theorem low_pad (n k j : Nat) (h : n < 16 ^ j) : low n (k + j) = List.replicate k 48 ++ low n j := by
  induction k with
  | zero => simp
  | succ k ih =>
    have e : k + 1 + j = (k + j) + 1 := by omega
    have hz : n / 16 ^ (k + j) = 0 := Nat.div_eq_of_lt (Nat.lt_of_lt_of_le h (Nat.pow_le_pow_right (by omega) (by omega)))
    rw [e, low, hz, ih]
    rfl
/-- What the library's loop has left and what it has written. -/
theorem low_step (n j : Nat) : hexc (n / 16 ^ j % 16) :: low n j = low n (j + 1) := rfl
theorem div_step (n j : Nat) : n / 16 ^ j / 16 = n / 16 ^ (j + 1) := by rw [Nat.div_div_eq_div_mul, Nat.pow_succ]
theorem hexc_tab : ∀ d : Fin 16, (hexc d.val) = (⟨#[48, 49, 50, 51, 52, 53, 54, 55, 56, 57, 97, 98, 99, 100, 101, 102]⟩ : ByteArray).data.toList.getD d.val 0 := by decide
theorem hxV_hexc : ∀ d : Fin 16, hxV (hexc d.val) = some d.val := by decide
theorem low_read (n : Nat) : ∀ (j m : Nat), m = n / 16 ^ j → hxAll (low n j) m = some n
  | 0, m, h => by rw [h]; simp [low, hxAll]
  | j + 1, m, h => by
    rw [low, hxAll, show hxV (hexc (n / 16 ^ j % 16)) = some (n / 16 ^ j % 16) from hxV_hexc ⟨n / 16 ^ j % 16, Nat.mod_lt _ (by omega)⟩]
    refine low_read n j _ ?_
    rw [h, ← div_step]
    omega
/-- The text of a number. -/
def hex8 (b : Nat) : List UInt8 := low (bitsV b).toNat 8
theorem hex8_len (b : Nat) : (hex8 b).length = 8 := low_len _ _
theorem bitsV_range {b : Nat} (hb : (b : Int) < 4294967296) : 0 ≤ bitsV b ∧ bitsV b < 4294967296 := by
  unfold bitsV
  split <;> omega
theorem digs_ex (n : Nat) (h : n < 4294967296) : ∃ j, j < 8 ∧ n < 16 ^ (j + 1) ∧ (j = 0 ∨ 16 ^ j ≤ n) := by
  by_cases h0 : n < 16
  · exact ⟨0, by omega, by omega, .inl rfl⟩
  by_cases h1 : n < 256
  · exact ⟨1, by omega, by omega, .inr (by omega)⟩
  by_cases h2 : n < 4096
  · exact ⟨2, by omega, by omega, .inr (by omega)⟩
  by_cases h3 : n < 65536
  · exact ⟨3, by omega, by omega, .inr (by omega)⟩
  by_cases h4 : n < 1048576
  · exact ⟨4, by omega, by omega, .inr (by omega)⟩
  by_cases h5 : n < 16777216
  · exact ⟨5, by omega, by omega, .inr (by omega)⟩
  by_cases h6 : n < 268435456
  · exact ⟨6, by omega, by omega, .inr (by omega)⟩
  · exact ⟨7, by omega, by omega, .inr (by omega)⟩

end Go.Proofs.YtnhpiebddelebabDoor
