/-
  Slices of 32-bit numbers: copied, compared, added.
-/
import Derived.Test.YtnbgnaenlbphcaaSc
import Derived.Deep.RegionWith
import Derived.Laws.NewBlocks
import Derived.OwnWalk
namespace Go.Proofs.Ytnbgnaenlbphcaa
open Go.RowKit Fl

/-- A slice of 32-bit numbers that reads as the list. -/
def RdF (w : World) (A : Option Addr) (xs : List Nat) : Prop :=
  0 < xs.length → ∃ b off, A = some ⟨b, off, none⟩ ∧ b < w.heap.size ∧ ∀ j, j < xs.length → w.cell? ⟨b, off + j, none⟩ = some (.float .f32 (xs.getD j 0))

theorem RdF.below {w w' : World} {A : Option Addr} {xs : List Nat} (h : RdF w A xs) (hb : Below w.heap.size w w') : RdF w' A xs := fun h0 => by
  obtain ⟨b, off, e, hlt, hc⟩ := h h0
  exact ⟨b, off, e, Nat.lt_of_lt_of_le hlt hb.size, fun j hj => (hb.cell (p := ⟨b, off + j, none⟩) hlt).trans (hc j hj)⟩
theorem RdF.drewN {w : World} {A : Option Addr} {xs : List Nat} (h : RdF w A xs) (n : Nat) : RdF (w.drewN n) A xs := h

theorem Try.infoF : (Try.prog.info? 25).map (fun i => (i.zero, i.size, i.bytes)) = some (some (.float .f32 0), 1, 4) := by kernel_rfl

theorem run_store_f (P : Program) (w : World) (a : Addr) (m : Mode) (k : FloatKind) (b : Nat) : (store a (.float k b) m).run P w = stored P w a (.float k b) m := run_store P w a _ m rfl
attribute [local go_sem] run_store_f

theorem heap_set {w : World} {g i : Nat} {cs : Array Value} {t : TypeId} (u : Value) (h : w.heap[g]? = some (.cells cs t (0, 0))) : (w.setCell ⟨g, i, none⟩ u).heap[g]? = some (.cells (cs.setIfInBounds i u) t (0, 0)) := by
  simp [World.setCell, Array.getElem?_modify, h]
theorem frozen_row {w : World} {g i : Nat} {cs : Array Value} {t : TypeId} (h : w.heap[g]? = some (.cells cs t (0, 0))) : w.frozen? ⟨g, i, none⟩ = false := by
  simp [World.frozen?, h]

/-- After k rounds: the new block g holds the first k numbers. -/
def CopyTo (w : World) (g n : Nat) (xs : List Nat) (i : Value) (wr : World) : Prop :=
  ∃ k : Nat, k ≤ n ∧ i = .int .i64 k ∧ ∃ cs : Array Value, wr.heap[g]? = some (.cells cs 25 (0, 0)) ∧ cs.size = n ∧ (∀ j, j < k → cs[j]? = some (.float .f32 (xs.getD j 0))) ∧ Below w.heap.size w wr

/-- The copy that a law makes of a slice. -/
def Copied (xs : List Nat) (w : World) (e : Ending) (w' : World) : Prop :=
  ∃ g, e = .returned (.slice (some ⟨g, 0, none⟩) xs.length xs.length) ∧ RdF w' (some ⟨g, 0, none⟩) xs ∧ Below w.heap.size w w'

theorem copy_done {wr : World} {g : Nat} {xs : List Nat} {cs : Array Value} (h1 : wr.heap[g]? = some (.cells cs 25 (0, 0))) (h3 : ∀ j, j < xs.length → cs[j]? = some (.float .f32 (xs.getD j 0))) : RdF wr (some ⟨g, 0, none⟩) xs := fun _ => by
  refine ⟨g, 0, rfl, ?_, fun j hj => ?_⟩
  · exact (Array.getElem?_eq_some_iff.1 h1).1
  · rw [cell_of_row wr g (0 + j) cs _ (0, 0) h1, Nat.zero_add]
    exact h3 j hj

theorem copy_step {w wr : World} {g n k : Nat} {xs : List Nat} {cs : Array Value} (hg : w.heap.size ≤ g) (hk : k < n) (h1 : wr.heap[g]? = some (.cells cs 25 (0, 0))) (h2 : cs.size = n)
    (h3 : ∀ j, j < k → cs[j]? = some (.float .f32 (xs.getD j 0))) (h4 : Below w.heap.size w wr) : CopyTo w g n xs (.int .i64 ((k + 1 : Nat) : Int)) (wr.setCell ⟨g, k, none⟩ (.float .f32 (xs.getD k 0))) := by
  refine ⟨k + 1, by omega, rfl, _, heap_set _ h1, by simpa using h2, fun j hj => ?_, h4.setCell hg _⟩
  by_cases he : j = k
  · subst he
    simp [show j < cs.size by omega]
  · rw [Array.getElem?_setIfInBounds_ne (by omega)]
    exact h3 j (by omega)

/-- The sum of the first k numbers, from left to right. -/
def SumTo (xs : List Nat) : Nat → Nat → Prop
  | 0, r => r = 0
  | k + 1, r => ∃ s, SumTo xs k s ∧ FOp .add .f32 s (xs.getD k 0) r
theorem SumTo.same {xs : List Nat} : ∀ {k r r' : Nat}, SumTo xs k r → SumTo xs k r' → FSame .f32 r r'
  | 0, _, _, h, h' => .inl (Eq.trans h (Eq.symm h'))
  | _ + 1, _, _, ⟨_, h1, h2⟩, ⟨_, g1, g2⟩ => FOp.same (SumTo.same h1 g1) (FSame.refl _ _) h2 g2

def SumAt (xs : List Nat) (w : World) (n : Nat) (s i : Value) (wr : World) : Prop := ∃ k r : Nat, k ≤ n ∧ i = .int .i64 k ∧ s = .float .f32 r ∧ SumTo xs k r ∧ ∃ m, wr = w.drewN m

/-- What both sums give. -/
def SumV (xs : List Nat) (w : World) (e : Ending) (w' : World) : Prop :=
  ∃ r t m, e = .returned (.tuple #[.float .f32 r, .bool t]) ∧ ((xs.length ≤ 256 ∧ t = true ∧ SumTo xs xs.length r) ∨ (256 < xs.length ∧ t = false ∧ r = 0)) ∧ w' = w.drewN m

end Go.Proofs.Ytnbgnaenlbphcaa
