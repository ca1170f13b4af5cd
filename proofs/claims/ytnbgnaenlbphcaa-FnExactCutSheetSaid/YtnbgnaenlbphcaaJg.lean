/-
  legsOf: an iterator over the legs between some points; what it hands to its loop.
-/
import Derived.RangeFuncNested
import Derived.RangeFuncBound
import Derived.RangeFuncCalls
import Derived.RangeFuncLeaves
import Derived.Shelf.Abstract
import Derived.Shelf.RegionOpen
import Derived.WalkKit
import Derived.OwnWalkIn
import Derived.TacticsInMore
import Derived.LoopNIn
import Derived.LoopIn
import Derived.Test.YtnbgnaenlbphcaaJa
namespace Go.Proofs.Ytnbgnaenlbphcaa
open Go.RowKit Go.Shelf Fl Ieee
attribute [local go_sem] Oper.semAt_some

def encLeg {m : Nat} (x : Fin m) : Array Value := #[.agg #[.int .i64 (x.val : Int), .int .i64 ((x.val : Int) + 1)]]
def upTo (m k : Nat) : List (Fin m) := (List.finRange m).take k
theorem upTo_zero (m : Nat) : upTo m 0 = [] := rfl
theorem upTo_succ {m k : Nat} (h : k < m) : upTo m (k + 1) = upTo m k ++ [⟨k, h⟩] := by
  unfold upTo
  rw [List.take_succ_eq_append_getElem (by simpa using h)]
  simp
theorem upTo_all (m : Nat) : upTo m m = List.finRange m := by
  unfold upTo
  exact List.take_of_length_le (by simp)
theorem upTo_len {m k : Nat} (h : k ≤ m) : (upTo m k).length = k := by unfold upTo; simp; omega

end Go.Proofs.Ytnbgnaenlbphcaa
