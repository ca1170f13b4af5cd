/-
  The text of a number on the specification's side, walked.
-/
import Derived.Test.YtnflmdlhcjjfdadGreatDoorHm
import Derived.Test.YtnflmdlhcjjfdadGreatDoorRq
import Derived.Laws.BitsAllLaws
namespace Go.Proofs.YtnflmdlhcjjfdadGreatDoor
open Go.RowKit Go.Lib Rd Go.WideShapes Fl

theorem own_appB {w3 : World} {B k : Nat} {x : UInt8} {v' : Value} {out : List UInt8} (hk : k = out.length) (h : w3.ownsRow B 5 1 v' (k + 1) (byteCells out ++ [.int .u8 (x.toNat : Int)])) :
    ∃ g cap, v' = .slice (some ⟨g, 0, none⟩) (k + 1) cap ∧ OwnB w3 B v' (out ++ [x]) := by
  have e : byteCells out ++ [Value.int .u8 (x.toNat : Int)] = byteCells (out ++ [x]) := by unfold byteCells; rw [List.map_append]; rfl
  rw [e] at h
  have h2 : OwnB w3 B v' (out ++ [x]) := by
    unfold OwnB
    rw [List.length_append, ← hk]
    exact h
  rcases h.2 with ⟨_, h0⟩ | ⟨g, cap, cur, hv, _⟩
  · omega
  · exact ⟨g, cap, hv, h2⟩

theorem and15_i64 (a : Nat) : bits .and .i64 (a : Int) 15 = ((a % 16 : Nat) : Int) := by
  have h15 : (BitVec.ofInt 64 15).toNat = 2 ^ 4 - 1 := by decide
  have key : (BitVec.ofInt 64 (a : Int) &&& BitVec.ofInt 64 15).toNat = ((a : Int) % ((2 ^ 64 : Nat) : Int)).toNat % 2 ^ 4 := by
    rw [BitVec.toNat_and, BitVec.toNat_ofInt, h15, Nat.and_two_pow_sub_one_eq_mod]
  show IntKind.i64.wrap ((BitVec.ofInt 64 (a : Int) &&& BitVec.ofInt 64 15).toNat : Nat) = _
  rw [key, IntKind.wrap_i64]
  omega
theorem and15_u64 (a : Nat) : bits .and .u64 (a : Int) 15 = ((a % 16 : Nat) : Int) := by
  have h15 : (BitVec.ofInt 64 15).toNat = 2 ^ 4 - 1 := by decide
  have key : (BitVec.ofInt 64 (a : Int) &&& BitVec.ofInt 64 15).toNat = ((a : Int) % ((2 ^ 64 : Nat) : Int)).toNat % 2 ^ 4 := by
    rw [BitVec.toNat_and, BitVec.toNat_ofInt, h15, Nat.and_two_pow_sub_one_eq_mod]
  show IntKind.u64.wrap ((BitVec.ofInt 64 (a : Int) &&& BitVec.ofInt 64 15).toNat : Nat) = _
  rw [key, IntKind.wrap_u64]
  omega
theorem pow_16 (j : Nat) : 2 ^ (4 * j) = 16 ^ j := by rw [Nat.pow_mul]
theorem shr_digit (n j : Nat) : bits .and .i64 ((n : Int) / 2 ^ (4 * j)) 15 = ((n / 16 ^ j % 16 : Nat) : Int) := by
  have e : (n : Int) / 2 ^ (4 * j) = ((n / 2 ^ (4 * j) : Nat) : Int) := by push_cast; rfl
  rw [e, and15_i64, pow_16]
theorem digs16_at : ∀ d : Fin 16, ((⟨#[48, 49, 50, 51, 52, 53, 54, 55, 56, 57, 97, 98, 99, 100, 101, 102]⟩ : ByteArray)[d.val]'(by show d.val < 16; omega)) = hexc d.val := by decide

def HexOut (n : Nat) (w : World) (v kv : Value) (wr : World) : Prop :=
  ∃ (j k g cap : Nat) (out : List UInt8), j ≤ 8 ∧ kv = .int .i64 (4 * (j : Int) - 4) ∧ v = .slice (some ⟨g, 0, none⟩) k cap ∧ k = out.length ∧ k + j = 8 ∧ low n 8 = out ++ low n j ∧ OwnB wr w.heap.size v out ∧ Below w.heap.size w wr

end Go.Proofs.YtnflmdlhcjjfdadGreatDoor
