/-
  The text of a list: what it is, and the specification's side, walked.
-/
import Derived.Test.YtnflmdlhcjjfdadGreatDoorLi
import Derived.Lib.Join
namespace Go.Proofs.YtnflmdlhcjjfdadGreatDoor
open Go.RowKit Go.Lib Rd Go.WideShapes

def okV (x : Int) : Prop := -1000000000000000 ≤ x ∧ x ≤ 1000000000000000
def okL (xs : List Int) : Prop := xs.length ≤ 64 ∧ ∀ j, j < xs.length → okV (xs.getD j 0)
def okLB (xs : List Int) : Bool := decide (xs.length ≤ 64) && (List.range xs.length).all fun j => decide (-1000000000000000 ≤ xs.getD j 0) && decide (xs.getD j 0 ≤ 1000000000000000)
theorem okLB_iff (xs : List Int) : okLB xs = true ↔ okL xs := by
  unfold okLB okL okV
  rw [Bool.and_eq_true, decide_eq_true_eq, List.all_eq_true]
  simp only [List.mem_range, Bool.and_eq_true, decide_eq_true_eq]

/-- The text of the first k numbers. -/
def joinI (xs : List Int) : List UInt8 := join (xs.map itoa) [44]
def textL (xs : List Int) : List UInt8 := if xs = [] then [110, 111, 110, 101] else joinI xs
theorem joinI_snoc (xs : List Int) (x : Int) (h : xs ≠ []) : joinI (xs ++ [x]) = joinI xs ++ 44 :: itoa x := by
  cases xs with
  | nil => exact absurd rfl h
  | cons y ys =>
    unfold joinI
    rw [List.cons_append, List.map_cons, List.map_cons, join_cons, join_cons, List.map_append]
    unfold joinTail
    rw [List.map_append, List.flatten_append]
    simp
theorem joinI_one (x : Int) : joinI [x] = itoa x := by unfold joinI; rw [List.map_cons, List.map_nil, join_one]
theorem take_snocI (xs : List Int) (k : Nat) (h : k < xs.length) : xs.take (k + 1) = xs.take k ++ [xs.getD k 0] := by
  rw [List.take_succ_eq_append_getElem h, List.getD_eq_getElem?_getD, List.getElem?_eq_getElem h]
  rfl
theorem joinI_len : ∀ (xs : List Int), (∀ x ∈ xs, okV x) → (joinI xs).length ≤ 18 * xs.length := by
  intro xs h
  cases xs with
  | nil => simp [joinI, join_nil]
  | cons y ys =>
    have hy := h y (by simp)
    have h1 := itoa_short hy.1 hy.2
    unfold joinI
    rw [List.map_cons, join_cons, List.length_append]
    have h2 : (joinTail [44] (ys.map itoa)).length ≤ 18 * ys.length := by
      clear h1 hy
      induction ys with
      | nil => simp [joinTail]
      | cons z zs ih =>
        have hz := h z (by simp)
        have hz1 := itoa_short hz.1 hz.2
        have := ih (fun x hx => h x (by simp at hx ⊢; rcases hx with hx | hx <;> simp [hx]))
        unfold joinTail at this ⊢
        rw [List.map_cons, List.map_cons, List.flatten_cons, List.length_append]
        simp at this ⊢
        omega
    simp
    omega

/-- What both sides answer. -/
def LtV (xs : List Int) (w : World) (e : Ending) (w' : World) : Prop :=
  (okLB xs = true ∧ e = .returned (.tuple #[.string ⟨(textL xs).toArray⟩, .bool true]) ∨ okLB xs = false ∧ e = .returned (.tuple #[.string ⟨#[]⟩, .bool false])) ∧ Below w.heap.size w w'

theorem glue (T D : List UInt8) : Value.string ((⟨T.toArray⟩ : ByteArray) ++ ((⟨#[44]⟩ : ByteArray) ++ (⟨D.toArray⟩ : ByteArray))) = .string ⟨(T ++ 44 :: D).toArray⟩ := by
  congr 1 <;> (apply bytes_inj; simp)
theorem take_one (xs : List Int) (h : 0 < xs.length) : xs.take 1 = [xs.getD 0 0] := by
  have := take_snocI xs 0 h
  rw [this]; rfl
def TxtAt (xs : List Int) (n : Nat) (w : World) (v i : Value) (wr : World) : Prop :=
  ∃ k : Nat, 1 ≤ k ∧ k ≤ n ∧ i = .int .i64 k ∧ v = .string ⟨(joinI (xs.take k)).toArray⟩ ∧ Below w.heap.size w wr

end Go.Proofs.YtnflmdlhcjjfdadGreatDoor
