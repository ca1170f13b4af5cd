/-
  ReadDecimal, walked: the program's side.
-/
import Derived.Test.YtnhpiebddelebabDoorSp
import Derived.Test.YtnhpiebddelebabDoorRp
import Derived.Test.YtnhpiebddelebabDoorDl
namespace Go.Proofs.YtnhpiebddelebabDoor
open Go.RowKit Go.Lib Rd

theorem bytes_toList (s : ByteArray) : s.toList = s.data.toList := ByteArray.toList_eq s

theorem isValue_calls (n : Int) (w : World) : Calls Tryd.prog 80 #[.int .i64 n] w fun e w' => e = .returned (.bool (decide (-1000000000000000 ≤ n) && decide (n ≤ 1000000000000000))) ∧ w = w' := by
  by_cases h1 : -1000000000000000 ≤ n <;> by_cases h2 : n ≤ 1000000000000000
  all_goals
    go_enter Tryd.func80, Tryd.ntmps80
    go_wp2
    go_ret
    exact ⟨by simp [h1, h2], rfl⟩

def RdV (s : ByteArray) (w : World) (e : Ending) (w' : World) : Prop := ∃ r t, e = .returned (.tuple #[.int .i64 r, .bool t]) ∧ Ans s.data.toList r t ∧ Below w.heap.size w w'

end Go.Proofs.YtnhpiebddelebabDoor
