/-
  NumbersText: the text of a list, both sides and the law, walked.
-/
import Derived.Test.YtnflmdlhcjjfdadGreatDoorHq
import Derived.Test.YtnflmdlhcjjfdadGreatDoorLp
import Derived.Test.YtnflmdlhcjjfdadGreatDoorOp
namespace Go.Proofs.YtnflmdlhcjjfdadGreatDoor
open Go.RowKit Go.Lib Rd Go.WideShapes Fl

/-- The text of numbers. -/
def joinX (xs : List Nat) : List UInt8 := join (xs.map hex8) [44]
def textX (xs : List Nat) : List UInt8 := if xs = [] then [110, 111, 110, 101] else joinX xs
theorem joinX_snoc (xs : List Nat) (x : Nat) (h : xs ≠ []) : joinX (xs ++ [x]) = joinX xs ++ 44 :: hex8 x := by
  cases xs with
  | nil => exact absurd rfl h
  | cons y ys =>
    unfold joinX
    rw [List.cons_append, List.map_cons, List.map_cons, join_cons, join_cons, List.map_append]
    unfold joinTail
    rw [List.map_append, List.flatten_append]
    simp
theorem joinX_one (x : Nat) : joinX [x] = hex8 x := by unfold joinX; rw [List.map_cons, List.map_nil, join_one]
theorem take_snocX (xs : List Nat) (k : Nat) (h : k < xs.length) : xs.take (k + 1) = xs.take k ++ [xs.getD k 0] := by
  rw [List.take_succ_eq_append_getElem h, List.getD_eq_getElem?_getD, List.getElem?_eq_getElem h]
  rfl
theorem take_oneX (xs : List Nat) (h : 0 < xs.length) : xs.take 1 = [xs.getD 0 0] := by
  have := take_snocX xs 0 h
  rw [this]; rfl
theorem joinX_len : ∀ (xs : List Nat), (joinX xs).length ≤ 9 * xs.length := by
  intro xs
  cases xs with
  | nil => simp [joinX, join_nil]
  | cons y ys =>
    have h1 := hex8_len y
    unfold joinX
    rw [List.map_cons, join_cons, List.length_append]
    have h2 : (joinTail [44] (ys.map hex8)).length ≤ 9 * ys.length := by
      clear h1
      induction ys with
      | nil => simp [joinTail]
      | cons z zs ih =>
        have hz1 := hex8_len z
        unfold joinTail at ih ⊢
        rw [List.map_cons, List.map_cons, List.flatten_cons, List.length_append]
        simp at ih ⊢
        omega
    simp
    omega

theorem zeros_below {w w' : World} (h : ZerosAt w) (hb : Below w.heap.size w w') : ZerosAt w' := (hb.cell (World.block_lt_of_cell? w _ h)).trans h

/-- What both sides answer. -/
def NtV (xs : List Nat) (w : World) (e : Ending) (w' : World) : Prop :=
  ((xs.length ≤ 256 ∧ e = .returned (.tuple #[.string ⟨(textX xs).toArray⟩, .bool true])) ∨ (256 < xs.length ∧ e = .returned (.tuple #[.string ⟨#[]⟩, .bool false]))) ∧ Below w.heap.size w w'

def TxtXAt (xs : List Nat) (n : Nat) (w : World) (v i : Value) (wr : World) : Prop :=
  ∃ k : Nat, 1 ≤ k ∧ k ≤ n ∧ i = .int .i64 k ∧ v = .string ⟨(joinX (xs.take k)).toArray⟩ ∧ Below w.heap.size w wr

def ItXAt (xs : List Nat) (n : Nat) (w : World) (i : Value) (wr : World) : Prop :=
  ∃ k : Nat, k ≤ n ∧ i = .int .i64 k ∧ ∃ ss : List ByteArray, ss.length = n ∧ (∀ j, j < k → ss[j]? = some ⟨(hex8 (xs.getD j 0)).toArray⟩) ∧
    wr.ownsRow w.heap.size 9 1 (.slice (some ⟨w.heap.size, 0, none⟩) n n) n (ss.map Value.string) ∧ Below w.heap.size w wr

end Go.Proofs.YtnflmdlhcjjfdadGreatDoor
