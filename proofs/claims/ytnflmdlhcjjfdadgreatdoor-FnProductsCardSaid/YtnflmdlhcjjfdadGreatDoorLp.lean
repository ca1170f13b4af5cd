/-
  The text of a list: the program's side and the law, walked.
-/
import Derived.Test.YtnflmdlhcjjfdadGreatDoorLt
import Derived.Test.YtnflmdlhcjjfdadGreatDoorSj
namespace Go.Proofs.YtnflmdlhcjjfdadGreatDoor
open Go.RowKit Go.Lib Rd Go.WideShapes

theorem infoS : (Tryz.prog.info? 9).map (fun i => (i.zero, i.size, i.bytes)) = some (some (.string ByteArray.empty), 1, 16) := by kernel_rfl

theorem own_below {w w' : World} {base : Nat} {e : TypeId} {size : Nat} {v : Value} {n : Nat} {xs : List Value} (h : w.ownsRow base e size v n xs) (hb : Below w.heap.size w w') : w'.ownsRow base e size v n xs := by
  refine ⟨h.1, ?_⟩
  rcases h.2 with hn | ⟨g, cap, cur, hv, hbg, hg, rest⟩
  · exact .inl hn
  · exact .inr ⟨g, cap, cur, hv, hbg, by rw [hb.block g (Array.getElem?_eq_some_iff.1 hg).1]; exact hg, rest⟩
def ItAt (xs : List Int) (n : Nat) (w : World) (i : Value) (wr : World) : Prop :=
  ∃ k : Nat, k ≤ n ∧ i = .int .i64 k ∧ ∃ ss : List ByteArray, ss.length = n ∧ (∀ j, j < k → ss[j]? = some ⟨(itoa (xs.getD j 0)).toArray⟩) ∧ (∀ j, j < k → okV (xs.getD j 0)) ∧
    wr.ownsRow w.heap.size 9 1 (.slice (some ⟨w.heap.size, 0, none⟩) n n) n (ss.map Value.string) ∧ Below w.heap.size w wr

end Go.Proofs.YtnflmdlhcjjfdadGreatDoor
