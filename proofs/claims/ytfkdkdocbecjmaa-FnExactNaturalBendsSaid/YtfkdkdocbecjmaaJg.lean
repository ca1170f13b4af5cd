/-
  legsOf: an iterator over the legs between some points; what it hands to its loop.
-/
import Derived.RangeFuncNested
import Derived.RangeFuncBound
import Derived.RangeFuncCalls
import Derived.RangeFuncLeaves
import Derived.Shelf.Abstract
import Derived.Shelf.RegionOpen
import Derived.WalkKit
import Derived.OwnWalkIn
import Derived.TacticsInMore
import Derived.LoopNIn
import Derived.LoopIn
import Derived.Test.YtfkdkdocbecjmaaJa
namespace Go.Proofs.Ytfkdkdocbecjmaa
open Go.RowKit Go.Shelf Fl Ieee
attribute [local go_sem] Oper.semAt_some

def encLeg {m : Nat} (x : Fin m) : Array Value := #[.agg #[.int .i64 (x.val : Int), .int .i64 ((x.val : Int) + 1)]]
def upTo (m k : Nat) : List (Fin m) := (List.finRange m).take k
theorem upTo_zero (m : Nat) : upTo m 0 = [] := rfl
theorem upTo_succ {m k : Nat} (h : k < m) : upTo m (k + 1) = upTo m k ++ [⟨k, h⟩] := by
  unfold upTo
  rw [List.take_succ_eq_append_getElem (by simpa using h)]
  simp
theorem upTo_all (m : Nat) : upTo m m = List.finRange m := by
  unfold upTo
  exact List.take_of_length_le (by simp)
theorem upTo_len {m k : Nat} (h : k ≤ m) : (upTo m k).length = k := by unfold upTo; simp; omega

set_option maxRecDepth 100000 in
set_option maxHeartbeats 1000000 in
theorem legs1_in (F : Fence) (n : Nat) (hF : F.fn 96) (hro : F.round = none) (hn : 1 ≤ n) (l Bn m : Nat) (hm : m ≤ 1000) (J Jx : List (Fin m) → World → Prop)
    (hY : ∀ pre x W, J pre W → pre.length < m → YieldAt F (n - 1) Try.prog l (encLeg x) W fun e W' => (e = .returned (.bool true) ∧ J (pre ++ [x]) W' ∧ True) ∨ (e = .returned (.bool false) ∧ Jx (pre ++ [x]) W'))
    (W : World) (hBn : W.cell? ⟨Bn, 0, none⟩ = some (.int .i64 ((m : Int) + 1))) (h0 : J [] W) :
    CallsIn F n Try.prog 96 #[.func (.yield l) #[] #[], .pointer (some ⟨Bn, 0, none⟩)] W fun e W' => (∃ v, e = .returned v) ∧
      ((∃ ys, ys = List.finRange m ∧ J ys W') ∨ (∃ pre, (∃ k, k ≤ m ∧ pre = upTo m k) ∧ Jx pre W')) := by
  refine callsIn_of_wp Try.func96 rfl hF ?_ hro
  simp only [Try.ntmps96, List.size_toArray, List.length_cons, List.length_nil, Nat.reduceAdd, Nat.reduceSub, Array.replicate_succ, Array.replicate_zero, List.push_toArray, List.append_toArray, List.nil_append, List.cons_append]
  gi_wp2
  gi_loopw [6] (fun p wr => ∃ k : Nat, k ≤ m ∧ p = .int .i64 k ∧ J (upTo m k) wr) (fun p _ => m - (intOf p).toNat)
  case atStart => exact ⟨0, Nat.zero_le _, rfl, h0⟩
  case round =>
    obtain ⟨k, hk, rfl, hJs⟩ := hrel
    by_cases hlt : k < m
    · obtain ⟨fn, tmps, assign, body, hy, hR⟩ := hY (upTo m k) ⟨k, hlt⟩ wr hJs (by rw [upTo_len hk]; exact hlt)
      unfold encLeg at hy
      dsimp only at hy
      gi_wp2
      refine hR.mono ?_
      rintro e W3 (⟨rfl, hJ3, hk3⟩ | ⟨rfl, hJx3⟩)
      · gi_wp2
        go_roundw
        case rel => exact ⟨k + 1, by omega, by go_num, by rw [upTo_succ hlt]; exact hJ3⟩
        case measure => simp [intOf]; omega
      · gi_wp2
        refine bodyPost_ret (results_none rfl _ _ _) rfl ?_
        exact ⟨⟨_, rfl⟩, .inr ⟨_, ⟨k + 1, by omega, (upTo_succ hlt).symm⟩, hJx3⟩⟩
    · have hkm : k = m := by omega
      subst hkm
      gi_wp2
      go_end0
      exact ⟨⟨_, rfl⟩, .inl ⟨_, upTo_all k, hJs⟩⟩

set_option maxHeartbeats 1000000 in
theorem legs_in (F : Fence) (n : Nat) (hF : F.fn 84) (hro : F.round = none) (c : Int) (w : World) :
    CallsIn F n Try.prog 84 #[.int .i64 c] w fun e w' => e = .returned (.func (.func 96) #[] #[.pointer (some ⟨w.heap.size, 0, none⟩)]) ∧ w' = w.alloc (.cells #[.int .i64 c] 3) := by
  refine callsIn_of_wp Try.func84 rfl hF ?_ hro
  simp only [Try.ntmps84, List.size_toArray, List.length_cons, List.length_nil, Nat.reduceAdd, Nat.reduceSub, Array.replicate_succ, Array.replicate_zero, List.push_toArray, List.append_toArray, List.nil_append, List.cons_append]
  gi_wp2
  go_ret
  exact ⟨rfl, rfl⟩

theorem legs_stops (F : Fence) (n : Nat) (hF : F.fn 96) (hro : F.round = none) (hn : 1 ≤ n) (Bn m : Nat) (hm : m ≤ 1000) (w : World) (hBn : Bn < w.heap.size)
    (hc : w.cell? ⟨Bn, 0, none⟩ = some (.int .i64 ((m : Int) + 1))) :
    SeqStopsK F n Try.prog 96 #[.pointer (some ⟨Bn, 0, none⟩)] (fun x : Fin m => encLeg x) (fun _ _ => True) (fun ys => ys = List.finRange m) (fun pre => ∃ k, k ≤ m ∧ pre = upTo m k) m w := fun l J Jx W hW _ _ hY h0 =>
  legs1_in F n hF hro hn l Bn m hm J Jx hY W ((hW.cell (p := ⟨Bn, 0, none⟩) hBn).trans hc) h0

end Go.Proofs.Ytfkdkdocbecjmaa
