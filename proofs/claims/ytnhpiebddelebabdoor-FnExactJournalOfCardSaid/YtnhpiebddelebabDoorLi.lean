/-
  Slices of integers: what comes in, copied and compared.
-/
import Derived.Test.YtnhpiebddelebabDoorFrame
import Derived.Test.YtnhpiebddelebabDoorRq
import Derived.Deep.Slices
import Derived.ChangeShapes
import Derived.ChangeSlices
import Derived.Laws.NewBlocks
import Derived.OwnWalk
import Derived.WalkKit
import Derived.BigCall
namespace Go.Proofs.YtnhpiebddelebabDoor
open Go.RowKit Go.WideShapes Go.Deep

/-- A slice of integers that reads as the list. -/
def RdI (w : World) (A : Option Addr) (xs : List Int) : Prop :=
  0 < xs.length → ∃ b off, A = some ⟨b, off, none⟩ ∧ b < w.heap.size ∧ ∀ j, j < xs.length → w.cell? ⟨b, off + j, none⟩ = some (.int .i64 (xs.getD j 0))
theorem RdI.below {w w' : World} {A : Option Addr} {xs : List Int} (h : RdI w A xs) (hb : Below w.heap.size w w') : RdI w' A xs := fun h0 => by
  obtain ⟨b, off, e, hlt, hc⟩ := h h0
  exact ⟨b, off, e, Nat.lt_of_lt_of_le hlt hb.size, fun j hj => (hb.cell (p := ⟨b, off + j, none⟩) hlt).trans (hc j hj)⟩

def numV (v : Value) : Int := match v with | .int _ n => n | _ => 0
theorem open_i64s {H : Type} {enc : TypeId × Value → H} {P : Program} {w : World} {r : Reach} {b0 base : Nat} {spare : Nat → Bool} {held : Bool} {t e : TypeId} {v : Value} {d : DataW H} {ps : List MemPlace}
    (ht : P.underlying t = some (.slice e)) (he : P.underlying e = some (.int .i64)) (hc : P.cellsOf e = 1) (hval : Value.okWide P w r b0 t v)
    (h : DataW.Trod enc P w base spare held t v d ps) (hsp : ∀ b, spare b = true) :
    ∃ A xs c, v = .slice A xs.length c ∧ xs.length ≤ maxLen ∧ RdI w A xs ∧ ∀ x ∈ xs, -9223372036854775808 ≤ x ∧ x ≤ 9223372036854775807 := by
  obtain ⟨a, len, cap, rfl⟩ := okWide_slice ht hval
  obtain ⟨fuel, hf⟩ := h
  rcases open_slice1 ht hc hf with ⟨hcs, _⟩ | ⟨a', len', cap', m, n, V, D, Pl, hcs, _, hl, hm, hmm, _, hx⟩
  · simp [Value.cells] at hcs
    obtain ⟨rfl, rfl, rfl⟩ := hcs
    exact ⟨none, [], 0, rfl, Nat.zero_le _, fun h0 => absurd h0 (by simp), fun x hx => by cases hx⟩
  · simp [Value.cells] at hcs
    obtain ⟨rfl, rfl, rfl⟩ := hcs
    rw [hsp, if_pos rfl] at hmm
    subst hmm
    have hb : ∀ i, i < m → V i = .int .i64 (numV (V i)) ∧ -9223372036854775808 ≤ numV (V i) ∧ numV (V i) ≤ 9223372036854775807 := fun i hi => by
      obtain ⟨z, h1, _, hw⟩ := DataW.trod_int he (hx i hi).2
      have h1 : V i = .int .i64 z := by simpa using h1
      have e1 : IntKind.i64.min = -9223372036854775808 := rfl
      have e2 : IntKind.i64.max = 9223372036854775807 := rfl
      have hb : -9223372036854775808 ≤ z ∧ z ≤ 9223372036854775807 := by simpa only [Lit.wf, e1, e2, Bool.and_eq_true, decide_eq_true_eq] using hw
      rw [h1]
      exact ⟨rfl, hb⟩
    refine ⟨some a', (List.range len).map (fun i => numV (V i)), m, by simp, by simp; omega, ?_, ?_⟩
    · intro h0
      simp at h0
      obtain ⟨b, off, spot⟩ := a'
      have c0 := (hx 0 (by omega)).1
      have hspot : spot = none := by simpa [Addr.add] using World.cell?_spot c0
      subst hspot
      refine ⟨b, off, rfl, ?_, fun j hj => ?_⟩
      · have := World.block_lt_of_cell? w _ c0
        simpa [add_plain] using this
      · simp at hj
        have cj := (hx j (by omega)).1
        rw [add_plain, (hb j (by omega)).1] at cj
        rw [cj]
        simp [List.getD, hj]
    · intro x hx'
      obtain ⟨i, hi, rfl⟩ := List.mem_map.1 hx'
      exact (hb i (by have := List.mem_range.1 hi; omega)).2

theorem infoI : (Tryd.prog.info? 2).map (fun i => (i.zero, i.size, i.bytes)) = some (some (.int .i64 0), 1, 8) := by kernel_rfl
theorem heap_setI {w : World} {g i : Nat} {cs : Array Value} {t : TypeId} (u : Value) (h : w.heap[g]? = some (.cells cs t (0, 0))) : (w.setCell ⟨g, i, none⟩ u).heap[g]? = some (.cells (cs.setIfInBounds i u) t (0, 0)) := by
  simp [World.setCell, Array.getElem?_modify, h]
theorem frozen_rowI {w : World} {g i : Nat} {cs : Array Value} {t : TypeId} (h : w.heap[g]? = some (.cells cs t (0, 0))) : w.frozen? ⟨g, i, none⟩ = false := by
  simp [World.frozen?, h]

def CopyI (w : World) (g n : Nat) (xs : List Int) (i : Value) (wr : World) : Prop :=
  ∃ k : Nat, k ≤ n ∧ i = .int .i64 k ∧ ∃ cs : Array Value, wr.heap[g]? = some (.cells cs 2 (0, 0)) ∧ cs.size = n ∧ (∀ j, j < k → cs[j]? = some (.int .i64 (xs.getD j 0))) ∧ Below w.heap.size w wr
def CopiedI (xs : List Int) (w : World) (e : Ending) (w' : World) : Prop :=
  ∃ g, e = .returned (.slice (some ⟨g, 0, none⟩) xs.length xs.length) ∧ RdI w' (some ⟨g, 0, none⟩) xs ∧ Below w.heap.size w w'
theorem copyI_done {wr : World} {g : Nat} {xs : List Int} {cs : Array Value} (h1 : wr.heap[g]? = some (.cells cs 2 (0, 0))) (h3 : ∀ j, j < xs.length → cs[j]? = some (.int .i64 (xs.getD j 0))) : RdI wr (some ⟨g, 0, none⟩) xs := fun _ => by
  refine ⟨g, 0, rfl, ?_, fun j hj => ?_⟩
  · exact (Array.getElem?_eq_some_iff.1 h1).1
  · rw [cell_of_row wr g (0 + j) cs _ (0, 0) h1, Nat.zero_add]
    exact h3 j hj
theorem copyI_step {w wr : World} {g n k : Nat} {xs : List Int} {cs : Array Value} (hg : w.heap.size ≤ g) (hk : k < n) (h1 : wr.heap[g]? = some (.cells cs 2 (0, 0))) (h2 : cs.size = n)
    (h3 : ∀ j, j < k → cs[j]? = some (.int .i64 (xs.getD j 0))) (h4 : Below w.heap.size w wr) : CopyI w g n xs (.int .i64 ((k + 1 : Nat) : Int)) (wr.setCell ⟨g, k, none⟩ (.int .i64 (xs.getD k 0))) := by
  refine ⟨k + 1, by omega, rfl, _, heap_setI _ h1, by simpa using h2, fun j hj => ?_, h4.setCell hg _⟩
  by_cases he : j = k
  · subst he
    simp [show j < cs.size by omega]
  · rw [Array.getElem?_setIfInBounds_ne (by omega)]
    exact h3 j (by omega)

end Go.Proofs.YtnhpiebddelebabDoor
