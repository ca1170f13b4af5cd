/-
  Two spots that lie in memory, kept behind calls; a variable of the call's own, not written yet.
-/
import Derived.Test.YtoldefcajampcaaKb
namespace Go.Proofs.Ytoldefcajampcaa
open Go.RowKit Fl
attribute [local go_sem] kstore_f kalloc_drewN kset_drewN

/-- Three numbers lie at the head of block b. -/
def At3 (w : World) (b x y z : Nat) : Prop := w.cell? ⟨b, 0, none⟩ = some (.float .f32 x) ∧ w.cell? ⟨b, 1, none⟩ = some (.float .f32 y) ∧ w.cell? ⟨b, 2, none⟩ = some (.float .f32 z)
theorem At3.keep {n b x y z : Nat} {w w' : World} (h : At3 w b x y z) (hB : Below n w w') (hb : b < n) : At3 w' b x y z := ⟨(hB.cell hb).trans h.1, (hB.cell hb).trans h.2.1, (hB.cell hb).trans h.2.2⟩
/-- The worlds behind a call of a law of two spots: both lie where they lay. -/
def S2 (w : World) (x y z x' y' z' : Nat) (w' : World) : Prop := At3 w' w.heap.size x y z ∧ At3 w' (w.heap.size + 1) x' y' z' ∧ w.heap.size + 1 + 1 ≤ w'.heap.size ∧ Below w.heap.size w w'
theorem S2.call {w W w' : World} {x y z x' y' z' : Nat} (h : S2 w x y z x' y' z' W) (hB : Below W.heap.size W w') : S2 w x y z x' y' z' w' :=
  ⟨h.1.keep hB (by have := h.2.2.1; omega), h.2.1.keep hB (by have := h.2.2.1; omega), Nat.le_trans h.2.2.1 hB.size, h.2.2.2.trans (hB.mono (by have := h.2.2.1; omega))⟩
theorem S2.ge {w W w' : World} {x y z x' y' z' : Nat} (h : S2 w x y z x' y' z' W) (hB : Below W.heap.size W w') : w.heap.size + 1 + 1 ≤ w'.heap.size := (h.call hB).2.2.1
theorem S2.alloc {w W : World} {x y z x' y' z' : Nat} (h : S2 w x y z x' y' z' W) (o : Obj) : S2 w x y z x' y' z' (W.alloc o) :=
  h.call ((Below.refl _ _).alloc (Nat.le_refl _) o)
theorem S2.drewN {w W : World} {x y z x' y' z' : Nat} (h : S2 w x y z x' y' z' W) (n : Nat) : S2 w x y z x' y' z' (W.drewN n) := h.call (below_drewN (Below.refl _ _) n)
theorem S2.drew {w W : World} {x y z x' y' z' : Nat} (h : S2 w x y z x' y' z' W) : S2 w x y z x' y' z' W.drew := h.call (Below.refl _ _).drew
theorem S2.start (w : World) (x y z x' y' z' : Nat) (t : TypeId) : S2 w x y z x' y' z' ((w.alloc (.cells #[.float .f32 x, .float .f32 y, .float .f32 z] t)).alloc (.cells #[.float .f32 x', .float .f32 y', .float .f32 z'] t)) := by
  refine ⟨⟨?_, ?_, ?_⟩, ⟨?_, ?_, ?_⟩, by simp, bel_of (below_al _ (below_al _ (below_st _)))⟩ <;> simp [go_sem]
/-- The same, each cell by itself. -/
abbrev S2c (w : World) (x y z x' y' z' : Nat) (W : World) : Prop := W.cell? ⟨w.heap.size, 0, none⟩ = some (.float .f32 x) ∧ W.cell? ⟨w.heap.size, 1, none⟩ = some (.float .f32 y) ∧ W.cell? ⟨w.heap.size, 2, none⟩ = some (.float .f32 z) ∧ W.cell? ⟨w.heap.size + 1, 0, none⟩ = some (.float .f32 x') ∧ W.cell? ⟨w.heap.size + 1, 1, none⟩ = some (.float .f32 y') ∧ W.cell? ⟨w.heap.size + 1, 2, none⟩ = some (.float .f32 z') ∧ w.heap.size + 1 + 1 ≤ W.heap.size ∧ S2 w x y z x' y' z' W
theorem S2.all {w W : World} {x y z x' y' z' : Nat} (h : S2 w x y z x' y' z' W) : S2c w x y z x' y' z' W := ⟨h.1.1, h.1.2.1, h.1.2.2, h.2.1.1, h.2.1.2.1, h.2.1.2.2, h.2.2.1, h⟩
theorem S2.of {w W : World} {x y z x' y' z' : Nat} (h : S2c w x y z x' y' z' W) : S2 w x y z x' y' z' W := h.2.2.2.2.2.2.2
/-- A variable of the call's own, not written yet, lies at block g. -/
def New (W : World) (g : Nat) : Prop := At3 W g 0 0 0 ∧ (∀ i, W.frozen? ⟨g, i, none⟩ = false) ∧ g < W.heap.size
theorem New.here (W : World) (t : TypeId) : New (W.alloc (.cells #[.float .f32 0, .float .f32 0, .float .f32 0] t)) W.heap.size := by
  refine ⟨⟨?_, ?_, ?_⟩, fun i => ?_, by simp⟩ <;> simp [go_sem]
theorem New.go {W w' : World} {g : Nat} (h : New W g) (hB : Below W.heap.size W w') : New w' g := ⟨h.1.keep hB h.2.2, fun i => (hB.frozen h.2.2).trans (h.2.1 i), Nat.lt_of_lt_of_le h.2.2 hB.size⟩
theorem New.born {W w' : World} {t : TypeId} (hB : Below (W.alloc (.cells #[.float .f32 0, .float .f32 0, .float .f32 0] t)).heap.size (W.alloc (.cells #[.float .f32 0, .float .f32 0, .float .f32 0] t)) w') : New w' W.heap.size := (New.here W t).go hB
theorem New.bornD {W w' : World} {t : TypeId} (hB : Below (W.alloc (.cells #[.float .f32 0, .float .f32 0, .float .f32 0] t)).drew.heap.size (W.alloc (.cells #[.float .f32 0, .float .f32 0, .float .f32 0] t)).drew w') : New w' W.heap.size := (New.here W t).go ((Below.refl _ _).drew.trans hB)
theorem At3.set {W : World} {g : Nat} (h : New W g) (a b c : Nat) : At3 (((W.setCell ⟨g, 0, none⟩ (.float .f32 a)).setCell ⟨g, 1, none⟩ (.float .f32 b)).setCell ⟨g, 2, none⟩ (.float .f32 c)) g a b c := by
  obtain ⟨⟨h1, h2, h3⟩, _, _⟩ := h
  refine ⟨?_, ?_, ?_⟩
  · rw [World.cell?_setCell_other _ _ _ _ (by simp), World.cell?_setCell_other _ _ _ _ (by simp)]
    exact World.cell?_setCell_same' _ _ _ (by rw [h1]; rfl)
  · rw [World.cell?_setCell_other _ _ _ _ (by simp)]
    exact World.cell?_setCell_same' _ _ _ (by rw [World.cell?_setCell_other _ _ _ _ (by simp), h2]; rfl)
  · exact World.cell?_setCell_same' _ _ _ (by rw [World.cell?_setCell_other _ _ _ _ (by simp), World.cell?_setCell_other _ _ _ _ (by simp), h3]; rfl)
theorem At3.here (W : World) (a b c : Nat) (t : TypeId) : At3 (W.alloc (.cells #[.float .f32 a, .float .f32 b, .float .f32 c] t)) W.heap.size a b c := by
  refine ⟨?_, ?_, ?_⟩ <;> simp [go_sem]
theorem S2.set {w W : World} {x y z x' y' z' : Nat} (h : S2 w x y z x' y' z' W) (g i : Nat) (v : Value) (hg : w.heap.size + 1 + 1 ≤ g) : S2 w x y z x' y' z' (W.setCell ⟨g, i, none⟩ v) := by
  obtain ⟨⟨h1, h2, h3⟩, ⟨h4, h5, h6⟩, h7, h8⟩ := h
  have n1 : ∀ j, (⟨w.heap.size, j, none⟩ : Addr) ≠ ⟨g, i, none⟩ := fun j e => by injection e with e1; omega
  have n2 : ∀ j, (⟨w.heap.size + 1, j, none⟩ : Addr) ≠ ⟨g, i, none⟩ := fun j e => by injection e with e1; omega
  refine ⟨⟨?_, ?_, ?_⟩, ⟨?_, ?_, ?_⟩, by simpa using h7, h8.setCell (p := ⟨g, i, none⟩) (by simp; omega) v⟩ <;> (rw [World.cell?_setCell_other _ _ _ _ (by first | exact (n1 _).symm | exact (n2 _).symm | exact n1 _ | exact n2 _)]; assumption)

end Go.Proofs.Ytoldefcajampcaa
