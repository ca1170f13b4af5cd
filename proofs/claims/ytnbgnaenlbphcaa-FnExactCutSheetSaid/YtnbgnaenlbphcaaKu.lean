/-
  TrianglesOf, walked on both sides: the corners of all triangles.
-/
import Derived.Test.YtnbgnaenlbphcaaKi
import Derived.Test.YtnbgnaenlbphcaaSc
import Derived.Deep.Slices
namespace Go.Proofs.Ytnbgnaenlbphcaa
open Go.RowKit Go.Deep Go.WideShapes

/-- The corners of the two triangles of a tile. -/
def tileI (m j i : Nat) : List Int := [((j * (m + 1) + i : Nat) : Int), ((j * (m + 1) + i + 1 : Nat) : Int), ((j * (m + 1) + i + m + 1 : Nat) : Int), ((j * (m + 1) + i + 1 : Nat) : Int), ((j * (m + 1) + i + m + 1 + 1 : Nat) : Int), ((j * (m + 1) + i + m + 1 : Nat) : Int)]
def tilesI (m j : Nat) : Nat → List Int
  | 0 => []
  | i + 1 => tilesI m j i ++ tileI m j i
def triI (m : Nat) : Nat → List Int
  | 0 => []
  | j + 1 => triI m j ++ tilesI m j m
theorem tilesI_len (m j i : Nat) : (tilesI m j i).length = 6 * i := by
  induction i with
  | zero => rfl
  | succ i ih => rw [tilesI, List.length_append, ih]; simp [tileI]; omega
theorem triI_len (m j : Nat) : (triI m j).length = 6 * m * j := by
  induction j with
  | zero => rfl
  | succ j ih => rw [triI, List.length_append, ih, tilesI_len, Nat.mul_succ]
theorem triI_small {m j : Nat} (hm : m ≤ 12) (hj : j ≤ 12) : (triI m j).length ≤ 864 := by
  rw [triI_len]
  have h := Nat.mul_le_mul (Nat.mul_le_mul_left 6 hm) hj
  omega

def TriAt (w : World) (m n : Nat) (v jv : Value) (wr : World) : Prop :=
  ∃ j : Nat, j ≤ n ∧ jv = .int .i64 j ∧ OwnI wr w.heap.size v (triI m j) ∧ Below w.heap.size w wr
def TileAt (w : World) (m j : Nat) (v iv : Value) (wr : World) : Prop :=
  ∃ i : Nat, i ≤ m ∧ iv = .int .i64 i ∧ OwnI wr w.heap.size v (triI m j ++ tilesI m j i) ∧ Below w.heap.size w wr

theorem cell_six (w : World) (a b c d e f : Int) : ∀ j u, [Value.int .i64 a, .int .i64 b, .int .i64 c, .int .i64 d, .int .i64 e, .int .i64 f][j]? = some u → (w.alloc (.cells #[.int .i64 a, .int .i64 b, .int .i64 c, .int .i64 d, .int .i64 e, .int .i64 f] 2)).cell? ((⟨w.heap.size, 0, none⟩ : Addr).add j) = some u := by
  intro j u h
  rw [add_plain, Nat.zero_add, World.cell?_alloc_new]
  simpa using h


def sizesB (m n : Int) : Bool := decide (1 ≤ m) && decide (m ≤ 12) && decide (1 ≤ n) && decide (n ≤ 12)
theorem sizesB_ok {m n : Nat} (hm : 1 ≤ m ∧ m ≤ 12) (hn : 1 ≤ n ∧ n ≤ 12) : sizesB m n = true := by
  simp [sizesB]; omega
theorem sizesB_nat {m n : Int} (h : sizesB m n = true) : ∃ a b : Nat, m = a ∧ n = b ∧ (1 ≤ a ∧ a ≤ 12) ∧ (1 ≤ b ∧ b ≤ 12) := by
  simp [sizesB] at h
  exact ⟨m.toNat, n.toNat, by omega, by omega, by omega, by omega⟩


def TriO (m n : Int) (w : World) (e : Ending) (w' : World) : Prop := (∃ a b : Nat, m = a ∧ n = b ∧ (a ≤ 12 ∧ b ≤ 12) ∧ ∃ v, e = .returned (.tuple #[v, .bool true]) ∧ sizesB m n = true ∧ OwnI w' w.heap.size v (triI a b) ∧ Below w.heap.size w w') ∨ (sizesB m n = false ∧ e = .returned (.tuple #[.slice none 0 0, .bool false]) ∧ w = w')

end Go.Proofs.Ytnbgnaenlbphcaa
