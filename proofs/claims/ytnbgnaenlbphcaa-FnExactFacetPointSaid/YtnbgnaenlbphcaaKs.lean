/-
  What lies in memory and is kept behind calls; a variable of the call's own, not written yet.
-/
import Derived.Test.YtnbgnaenlbphcaaKb
namespace Go.Proofs.Ytnbgnaenlbphcaa
open Go.RowKit Fl
attribute [local go_sem] kstore_f kalloc_drewN kset_drewN

/-- Three numbers lie at the head of block b. -/
structure At3 (w : World) (b x y z : Nat) : Prop where
  c0 : w.cell? ⟨b, 0, none⟩ = some (.float .f32 x)
  c1 : w.cell? ⟨b, 1, none⟩ = some (.float .f32 y)
  c2 : w.cell? ⟨b, 2, none⟩ = some (.float .f32 z)
theorem At3.keep {n b x y z : Nat} {w w' : World} (h : At3 w b x y z) (hB : Below n w w') (hb : b < n) : At3 w' b x y z := ⟨(hB.cell hb).trans h.c0, (hB.cell hb).trans h.c1, (hB.cell hb).trans h.c2⟩

/-- The cells of a list lie below n and hold what they held in the world wc; below n nothing has changed since. -/
structure SK (n : Nat) (wc : World) (L : List (Addr × Value)) (W : World) : Prop where
  c : ∀ p ∈ L, W.cell? p.1 = some p.2
  k : ∀ p ∈ L, p.1.block < n
  s : n ≤ W.heap.size
  m : Below n wc W
theorem SK.start {n : Nat} {wc : World} {L : List (Addr × Value)} (hn : n ≤ wc.heap.size) (hc : ∀ p ∈ L, wc.cell? p.1 = some p.2) (hk : ∀ p ∈ L, p.1.block < n) : SK n wc L wc := ⟨hc, hk, hn, Below.refl _ _⟩
theorem SK.call {n : Nat} {wc W w' : World} {L : List (Addr × Value)} (h : SK n wc L W) (hB : Below W.heap.size W w') : SK n wc L w' :=
  ⟨fun p hp => (hB.cell (Nat.lt_of_lt_of_le (h.k p hp) h.s)).trans (h.c p hp), h.k, Nat.le_trans h.s hB.size, h.m.trans (hB.mono h.s)⟩
theorem SK.ge {n : Nat} {wc W w' : World} {L : List (Addr × Value)} (h : SK n wc L W) (hB : Below W.heap.size W w') : n ≤ w'.heap.size := (h.call hB).s
theorem SK.alloc {n : Nat} {wc W : World} {L : List (Addr × Value)} (h : SK n wc L W) (o : Obj) : SK n wc L (W.alloc o) := h.call ((Below.refl _ _).alloc (Nat.le_refl _) o)
theorem SK.drewN {n : Nat} {wc W : World} {L : List (Addr × Value)} (h : SK n wc L W) (k : Nat) : SK n wc L (W.drewN k) := h.call (below_drewN (Below.refl _ _) k)
theorem SK.drew {n : Nat} {wc W : World} {L : List (Addr × Value)} (h : SK n wc L W) : SK n wc L W.drew := h.call (Below.refl _ _).drew
theorem SK.set {n : Nat} {wc W : World} {L : List (Addr × Value)} (h : SK n wc L W) (g i : Nat) (v : Value) (hg : n ≤ g) : SK n wc L (W.setCell ⟨g, i, none⟩ v) := by
  refine ⟨fun p hp => ?_, h.k, by simpa using h.s, h.m.setCell (p := ⟨g, i, none⟩) hg v⟩
  rw [World.cell?_setCell_other _ _ _ _ (by intro e; have := h.k p hp; rw [← e] at this; simp at this; omega)]
  exact h.c p hp

/-- A variable of the call's own, not written yet, lies at block g. -/
structure New (W : World) (g : Nat) : Prop where
  a : At3 W g 0 0 0
  f : ∀ i, W.frozen? ⟨g, i, none⟩ = false
  l : g < W.heap.size
theorem New.here (W : World) (t : TypeId) : New (W.alloc (.cells #[.float .f32 0, .float .f32 0, .float .f32 0] t)) W.heap.size := by
  refine ⟨⟨?_, ?_, ?_⟩, fun i => ?_, by simp⟩ <;> simp [go_sem]
theorem New.go {W w' : World} {g : Nat} (h : New W g) (hB : Below W.heap.size W w') : New w' g := ⟨h.a.keep hB h.l, fun i => (hB.frozen h.l).trans (h.f i), Nat.lt_of_lt_of_le h.l hB.size⟩
theorem New.born {W w' : World} {t : TypeId} (hB : Below (W.alloc (.cells #[.float .f32 0, .float .f32 0, .float .f32 0] t)).heap.size (W.alloc (.cells #[.float .f32 0, .float .f32 0, .float .f32 0] t)) w') : New w' W.heap.size := (New.here W t).go hB
theorem New.bornD {W w' : World} {t : TypeId} (hB : Below (W.alloc (.cells #[.float .f32 0, .float .f32 0, .float .f32 0] t)).drew.heap.size (W.alloc (.cells #[.float .f32 0, .float .f32 0, .float .f32 0] t)).drew w') : New w' W.heap.size := (New.here W t).go ((Below.refl _ _).drew.trans hB)
theorem New.born1 {w w' : World} {o : Obj} {t : TypeId} (hB : Below ((w.alloc o).alloc (.cells #[.float .f32 0, .float .f32 0, .float .f32 0] t)).drew.heap.size ((w.alloc o).alloc (.cells #[.float .f32 0, .float .f32 0, .float .f32 0] t)).drew w') : New w' (w.heap.size + 1) := by
  have h := New.bornD hB
  simpa using h
theorem New.born2 {w w' : World} {o o' : Obj} {t : TypeId} (hB : Below (((w.alloc o).alloc o').alloc (.cells #[.float .f32 0, .float .f32 0, .float .f32 0] t)).drew.heap.size (((w.alloc o).alloc o').alloc (.cells #[.float .f32 0, .float .f32 0, .float .f32 0] t)).drew w') : New w' (w.heap.size + 1 + 1) := by
  have h := New.bornD hB
  simpa using h
theorem At3.set {W : World} {g : Nat} (h : New W g) (a b c : Nat) : At3 (((W.setCell ⟨g, 0, none⟩ (.float .f32 a)).setCell ⟨g, 1, none⟩ (.float .f32 b)).setCell ⟨g, 2, none⟩ (.float .f32 c)) g a b c := by
  obtain ⟨⟨h1, h2, h3⟩, _, _⟩ := h
  refine ⟨?_, ?_, ?_⟩
  · rw [World.cell?_setCell_other _ _ _ _ (by simp), World.cell?_setCell_other _ _ _ _ (by simp)]
    exact World.cell?_setCell_same' _ _ _ (by rw [h1]; rfl)
  · rw [World.cell?_setCell_other _ _ _ _ (by simp)]
    exact World.cell?_setCell_same' _ _ _ (by rw [World.cell?_setCell_other _ _ _ _ (by simp), h2]; rfl)
  · exact World.cell?_setCell_same' _ _ _ (by rw [World.cell?_setCell_other _ _ _ _ (by simp), World.cell?_setCell_other _ _ _ _ (by simp), h3]; rfl)
theorem At3.here (W : World) (a b c : Nat) (t : TypeId) : At3 (W.alloc (.cells #[.float .f32 a, .float .f32 b, .float .f32 c] t)) W.heap.size a b c := by
  refine ⟨?_, ?_, ?_⟩ <;> simp [go_sem]
theorem New.lt3 {W : World} {g : Nat} (h : New W g) (a b c : Value) : g < (((W.setCell ⟨g, 0, none⟩ a).setCell ⟨g, 1, none⟩ b).setCell ⟨g, 2, none⟩ c).heap.size := by
  simpa using h.l

theorem SK_of3 {n : Nat} {wc W : World} {p0 p1 p2 : Addr} {v0 v1 v2 : Value} (h : W.cell? p0 = some v0 ∧ W.cell? p1 = some v1 ∧ W.cell? p2 = some v2 ∧ n ≤ W.heap.size ∧ SK n wc [(p0, v0), (p1, v1), (p2, v2)] W) : SK n wc [(p0, v0), (p1, v1), (p2, v2)] W := h.2.2.2.2
theorem SK_all3 {n : Nat} {wc W : World} {p0 p1 p2 : Addr} {v0 v1 v2 : Value} (h : SK n wc [(p0, v0), (p1, v1), (p2, v2)] W) : W.cell? p0 = some v0 ∧ W.cell? p1 = some v1 ∧ W.cell? p2 = some v2 ∧ n ≤ W.heap.size ∧ SK n wc [(p0, v0), (p1, v1), (p2, v2)] W :=
  ⟨h.c (p0, v0) (by simp), h.c (p1, v1) (by simp), h.c (p2, v2) (by simp), h.s, h⟩

theorem SK_of6 {n : Nat} {wc W : World} {p0 p1 p2 p3 p4 p5 : Addr} {v0 v1 v2 v3 v4 v5 : Value} (h : W.cell? p0 = some v0 ∧ W.cell? p1 = some v1 ∧ W.cell? p2 = some v2 ∧ W.cell? p3 = some v3 ∧ W.cell? p4 = some v4 ∧ W.cell? p5 = some v5 ∧ n ≤ W.heap.size ∧ SK n wc [(p0, v0), (p1, v1), (p2, v2), (p3, v3), (p4, v4), (p5, v5)] W) : SK n wc [(p0, v0), (p1, v1), (p2, v2), (p3, v3), (p4, v4), (p5, v5)] W := h.2.2.2.2.2.2.2
theorem SK_all6 {n : Nat} {wc W : World} {p0 p1 p2 p3 p4 p5 : Addr} {v0 v1 v2 v3 v4 v5 : Value} (h : SK n wc [(p0, v0), (p1, v1), (p2, v2), (p3, v3), (p4, v4), (p5, v5)] W) : W.cell? p0 = some v0 ∧ W.cell? p1 = some v1 ∧ W.cell? p2 = some v2 ∧ W.cell? p3 = some v3 ∧ W.cell? p4 = some v4 ∧ W.cell? p5 = some v5 ∧ n ≤ W.heap.size ∧ SK n wc [(p0, v0), (p1, v1), (p2, v2), (p3, v3), (p4, v4), (p5, v5)] W :=
  ⟨h.c (p0, v0) (by simp), h.c (p1, v1) (by simp), h.c (p2, v2) (by simp), h.c (p3, v3) (by simp), h.c (p4, v4) (by simp), h.c (p5, v5) (by simp), h.s, h⟩

theorem SK_of9 {n : Nat} {wc W : World} {p0 p1 p2 p3 p4 p5 p6 p7 p8 : Addr} {v0 v1 v2 v3 v4 v5 v6 v7 v8 : Value} (h : W.cell? p0 = some v0 ∧ W.cell? p1 = some v1 ∧ W.cell? p2 = some v2 ∧ W.cell? p3 = some v3 ∧ W.cell? p4 = some v4 ∧ W.cell? p5 = some v5 ∧ W.cell? p6 = some v6 ∧ W.cell? p7 = some v7 ∧ W.cell? p8 = some v8 ∧ n ≤ W.heap.size ∧ SK n wc [(p0, v0), (p1, v1), (p2, v2), (p3, v3), (p4, v4), (p5, v5), (p6, v6), (p7, v7), (p8, v8)] W) : SK n wc [(p0, v0), (p1, v1), (p2, v2), (p3, v3), (p4, v4), (p5, v5), (p6, v6), (p7, v7), (p8, v8)] W := h.2.2.2.2.2.2.2.2.2.2
theorem SK_all9 {n : Nat} {wc W : World} {p0 p1 p2 p3 p4 p5 p6 p7 p8 : Addr} {v0 v1 v2 v3 v4 v5 v6 v7 v8 : Value} (h : SK n wc [(p0, v0), (p1, v1), (p2, v2), (p3, v3), (p4, v4), (p5, v5), (p6, v6), (p7, v7), (p8, v8)] W) : W.cell? p0 = some v0 ∧ W.cell? p1 = some v1 ∧ W.cell? p2 = some v2 ∧ W.cell? p3 = some v3 ∧ W.cell? p4 = some v4 ∧ W.cell? p5 = some v5 ∧ W.cell? p6 = some v6 ∧ W.cell? p7 = some v7 ∧ W.cell? p8 = some v8 ∧ n ≤ W.heap.size ∧ SK n wc [(p0, v0), (p1, v1), (p2, v2), (p3, v3), (p4, v4), (p5, v5), (p6, v6), (p7, v7), (p8, v8)] W :=
  ⟨h.c (p0, v0) (by simp), h.c (p1, v1) (by simp), h.c (p2, v2) (by simp), h.c (p3, v3) (by simp), h.c (p4, v4) (by simp), h.c (p5, v5) (by simp), h.c (p6, v6) (by simp), h.c (p7, v7) (by simp), h.c (p8, v8) (by simp), h.s, h⟩

end Go.Proofs.Ytnbgnaenlbphcaa
