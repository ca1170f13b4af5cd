/-
  E5, E6, E7, E8, E9, Ea, Eb in one text.
-/
import Derived.Test.YtnbgnaenlbphcaaE4
import Derived.Test.YtnbgnaenlbphcaaK3
import Derived.Maps.AppendAt
import Derived.Test.YtnbgnaenlbphcaaKq
namespace Go.Proofs.Ytnbgnaenlbphcaa
section
open Go.RowKit Go.Shelf Fl Ieee Go.WideShapes Go.Deep
attribute [local go_sem] kstore_f kalloc_drewN kset_drewN hstore_i hstore_s Oper.semAt_some

set_option maxRecDepth 100000 in
set_option maxHeartbeats 4000000 in
theorem cutSheet_no (A : Option Addr) (xs : List (Nat × Nat × Nat)) (n c : Nat) (hxn : n = xs.length) (hn : n ≤ 1048576) (p q : Int) (u : Nat) (hno : (shB p q xs && isShareB u) = false) (w : World) (hA : RdS w A xs) :
    Calls Try.prog 18 #[.agg #[.int .i64 p, .int .i64 q, .slice A n c], .float .f32 u] w fun e w' => e = .returned (.tuple #[.agg #[.int .i64 0, .int .i64 0, .slice none 0 0], .agg #[.int .i64 0, .int .i64 0, .slice none 0 0], .bool false]) ∧ Below w.heap.size w w' := by
  have HVS := Frame.hid (fun (W : World) (hW : Below w.heap.size w W) => validSheet_calls A xs c n hxn p q W hn (hA.below hW))
  have HNO := Frame.hid hno
  clear hA hxn hno
  refine (callsIn_wide (n := 9)).1 ?_
  refine callsIn_of_wp_marks Try.func18 rfl trivial ?_
  simp only [Try.ntmps18, List.size_toArray, List.length_cons, List.length_nil, Nat.reduceAdd, Nat.reduceSub, Array.replicate_succ, Array.replicate_zero, List.push_toArray, List.append_toArray, List.nil_append, List.cons_append]
  obtain ⟨w0, hw0⟩ : ∃ w0, w0 = ((w.alloc (.cells #[.int .i64 p, .int .i64 q, .slice A n c] 29)).alloc (.cells #[.int .i64 0, .int .i64 0, .slice none 0 0] 29)).alloc (.cells #[.int .i64 0, .int .i64 0, .slice none 0 0] 29) := ⟨_, rfl⟩
  have hW0 : Below w.heap.size w w0 := by rw [hw0]; exact (((Below.refl _ _).alloc (Nat.le_refl _) _).alloc (by simp) _).alloc (by simp; omega) _
  have hs0 : Sh3 w0 w.heap.size p q (.slice A n c) := by rw [hw0]; refine ⟨?_, ?_, ?_, by simp; omega⟩ <;> simp [go_sem]
  have hs1 : Sh3 w0 (w.heap.size + 1) 0 0 (.slice none 0 0) := by rw [hw0]; refine ⟨?_, ?_, ?_, by simp⟩ <;> simp [go_sem]
  have hs2 : Sh3 w0 (w.heap.size + 2) 0 0 (.slice none 0 0) := by rw [hw0]; refine ⟨?_, ?_, ?_, by simp⟩ <;> simp [go_sem]
  have hfz : ∀ b i, (b = w.heap.size + 1 ∨ b = w.heap.size + 2) → w0.frozen? ⟨b, i, none⟩ = false := by rw [hw0]; rintro b i (rfl | rfl) <;> simp [go_sem]
  have hz0 : w0.heap.size = w.heap.size + 3 := by rw [hw0]; simp
  have c0 := hs0.c0
  have c1 := hs0.c1
  have c2 := hs0.c2
  gi_wp2_with fail
  rw [← hw0]
  clear hw0
  refine ⟨trivial, (callsIn_wide.2 (HVS.out _ hW0)).mono ?_⟩
  rintro e w1 ⟨rfl, hB1⟩
  have HW1 := Frame.hid (hW0.trans (hB1.mono hW0.size))
  have HS1 := Frame.hid (hs1.below hB1)
  have HS2 := Frame.hid (hs2.below hB1)
  have HFZ := Frame.hid (fun b i (hb : b = w.heap.size + 1 ∨ b = w.heap.size + 2) => (hB1.frozen (p := ⟨b, i, none⟩) (by show b < w0.heap.size; omega)).trans (hfz b i hb))
  have a0 := HS1.out.c0
  have a1 := HS1.out.c1
  have a2 := HS1.out.c2
  have b0 : w1.cell? ⟨w.heap.size + 1 + 1, 0, none⟩ = some (.int .i64 0) := HS2.out.c0
  have b1 : w1.cell? ⟨w.heap.size + 1 + 1, 1, none⟩ = some (.int .i64 0) := HS2.out.c1
  have b2 : w1.cell? ⟨w.heap.size + 1 + 1, 2, none⟩ = some (.slice none 0 0) := HS2.out.c2
  have fa0 := HFZ.out (w.heap.size + 1) 0 (.inl rfl)
  have fa1 := HFZ.out (w.heap.size + 1) 1 (.inl rfl)
  have fa2 := HFZ.out (w.heap.size + 1) 2 (.inl rfl)
  have fb0 : w1.frozen? ⟨w.heap.size + 1 + 1, 0, none⟩ = false := HFZ.out (w.heap.size + 2) 0 (.inr rfl)
  have fb1 : w1.frozen? ⟨w.heap.size + 1 + 1, 1, none⟩ = false := HFZ.out (w.heap.size + 2) 1 (.inr rfl)
  have fb2 : w1.frozen? ⟨w.heap.size + 1 + 1, 2, none⟩ = false := HFZ.out (w.heap.size + 2) 2 (.inr rfl)
  clear hs0 hs1 hs2 hfz hB1 hW0 hz0 c0 c1 c2 HVS
  cases hv : shB p q xs
  · clear hv
    gi_wp2_with fail
    refine ⟨trivial, ?_⟩
    gi_wp2_with fail
    have HSA := Frame.hid (sh3_other (sh3_other (sh3_other (sh3_store (a' := 0) (b' := 0) (s' := .slice none 0 0) HS1.out) (k := w.heap.size + 1 + 1) (i := 0) (v := .int .i64 0) (by omega)) (k := w.heap.size + 1 + 1) (i := 1) (v := .int .i64 0) (by omega)) (k := w.heap.size + 1 + 1) (i := 2) (v := .slice none 0 0) (by omega))
    have HSB := Frame.hid (sh3_store (a' := 0) (b' := 0) (s' := .slice none 0 0) (show Sh3 _ (w.heap.size + 1 + 1) 0 0 (.slice none 0 0) from sh3_other (sh3_other (sh3_other HS2.out (k := w.heap.size + 1) (i := 0) (v := .int .i64 0) (by omega)) (k := w.heap.size + 1) (i := 1) (v := .int .i64 0) (by omega)) (k := w.heap.size + 1) (i := 2) (v := .slice none 0 0) (by omega)))
    have HBF := Frame.hid (Below.setCell (Below.setCell (Below.setCell (Below.setCell (Below.setCell (Below.setCell HW1.out (p := ⟨w.heap.size + 1, 0, none⟩) (by simp) (.int .i64 0)) (p := ⟨w.heap.size + 1, 1, none⟩) (by simp) (.int .i64 0)) (p := ⟨w.heap.size + 1, 2, none⟩) (by simp) (.slice none 0 0)) (p := ⟨w.heap.size + 1 + 1, 0, none⟩) (by simp; omega) (.int .i64 0)) (p := ⟨w.heap.size + 1 + 1, 1, none⟩) (by simp; omega) (.int .i64 0)) (p := ⟨w.heap.size + 1 + 1, 2, none⟩) (by simp; omega) (.slice none 0 0))
    show LeavesInM _ _ _ _ _ _ _ _ _
    refine leaves_marks (B := w.heap.size) (C := 0) (by simp) trivial ?_
    intro W' hk
    obtain ⟨r0, r1, r2, -⟩ := sh3_keptC HSA.out hk
    obtain ⟨s0, s1, s2, -⟩ := sh3_keptC HSB.out hk
    refine ⟨.tuple #[.agg #[.int .i64 0, .int .i64 0, .slice none 0 0], .agg #[.int .i64 0, .int .i64 0, .slice none 0 0], .bool false], ?_, rfl, HBF.out.trans hk.2⟩
    clear HSA HSB HBF hk
    simp [results, Try.f18, go_sem, r0, r1, r2, s0, s1, s2]
  · have hs : isShareB u = false := by have h := HNO.out; rw [hv] at h; simpa using h
    have HS := Frame.hid hs
    clear hs
    clear hv
    gi_wp2_with fail
    refine ⟨trivial, (callsIn_wide.2 (isShare_calls _ _)).mono ?_⟩
    rintro e w' ⟨rfl, rfl⟩
    rw [HS.out]
    gi_wp2_with fail
    have HSA := Frame.hid (sh3_other (sh3_other (sh3_other (sh3_store (a' := 0) (b' := 0) (s' := .slice none 0 0) HS1.out) (k := w.heap.size + 1 + 1) (i := 0) (v := .int .i64 0) (by omega)) (k := w.heap.size + 1 + 1) (i := 1) (v := .int .i64 0) (by omega)) (k := w.heap.size + 1 + 1) (i := 2) (v := .slice none 0 0) (by omega))
    have HSB := Frame.hid (sh3_store (a' := 0) (b' := 0) (s' := .slice none 0 0) (show Sh3 _ (w.heap.size + 1 + 1) 0 0 (.slice none 0 0) from sh3_other (sh3_other (sh3_other HS2.out (k := w.heap.size + 1) (i := 0) (v := .int .i64 0) (by omega)) (k := w.heap.size + 1) (i := 1) (v := .int .i64 0) (by omega)) (k := w.heap.size + 1) (i := 2) (v := .slice none 0 0) (by omega)))
    have HBF := Frame.hid (Below.setCell (Below.setCell (Below.setCell (Below.setCell (Below.setCell (Below.setCell HW1.out (p := ⟨w.heap.size + 1, 0, none⟩) (by simp) (.int .i64 0)) (p := ⟨w.heap.size + 1, 1, none⟩) (by simp) (.int .i64 0)) (p := ⟨w.heap.size + 1, 2, none⟩) (by simp) (.slice none 0 0)) (p := ⟨w.heap.size + 1 + 1, 0, none⟩) (by simp; omega) (.int .i64 0)) (p := ⟨w.heap.size + 1 + 1, 1, none⟩) (by simp; omega) (.int .i64 0)) (p := ⟨w.heap.size + 1 + 1, 2, none⟩) (by simp; omega) (.slice none 0 0))
    show LeavesInM _ _ _ _ _ _ _ _ _
    refine leaves_marks (B := w.heap.size) (C := 0) (by simp) trivial ?_
    intro W' hk
    obtain ⟨r0, r1, r2, -⟩ := sh3_keptC HSA.out hk
    obtain ⟨s0, s1, s2, -⟩ := sh3_keptC HSB.out hk
    refine ⟨.tuple #[.agg #[.int .i64 0, .int .i64 0, .slice none 0 0], .agg #[.int .i64 0, .int .i64 0, .slice none 0 0], .bool false], ?_, rfl, HBF.out.trans hk.2⟩
    clear HSA HSB HBF hk
    simp [results, Try.f18, go_sem, r0, r1, r2, s0, s1, s2]

end

section
open Go.RowKit Go.Shelf Fl Ieee Go.WideShapes Go.Deep
attribute [local go_sem] kstore_f kalloc_drewN kset_drewN hstore_i hstore_s

theorem cellsS_cons (a : Nat × Nat × Nat) (xs : List (Nat × Nat × Nat)) : cellsS (a :: xs) = .float .f32 a.1 :: .float .f32 a.2.1 :: .float .f32 a.2.2 :: cellsS xs := by
  have h := cellsS_append [a] xs
  rw [List.singleton_append] at h
  rw [h]
  rfl
theorem cellsS_set : ∀ (xs : List (Nat × Nat × Nat)) (k : Nat) (e : Nat × Nat × Nat), cellsS (xs.set k e) = (((cellsS xs).set (k * 3) (.float .f32 e.1)).set (k * 3 + 1) (.float .f32 e.2.1)).set (k * 3 + 2) (.float .f32 e.2.2)
  | [], k, e => by simp [cellsS]
  | a :: xs, 0, e => by
    rw [List.set_cons_zero, cellsS_cons, cellsS_cons]
    simp
  | a :: xs, k + 1, e => by
    rw [List.set_cons_succ, cellsS_cons, cellsS_cons, cellsS_set xs k e, show (k + 1) * 3 = k * 3 + 1 + 1 + 1 by omega]
    simp [List.set_cons_succ]
/-- An own slice of spots, one of them put anew. -/
theorem OwnedS.put {w : World} {B g cap k x y z : Nat} {xs : List (Nat × Nat × Nat)} (h : OwnedS w B (.slice (some ⟨g, 0, none⟩) xs.length cap) xs) :
    OwnedS (((w.setCell ⟨g, k * 3, none⟩ (.float .f32 x)).setCell ⟨g, k * 3 + 1, none⟩ (.float .f32 y)).setCell ⟨g, k * 3 + 2, none⟩ (.float .f32 z)) B (.slice (some ⟨g, 0, none⟩) xs.length cap) (xs.set k (x, y, z)) := by
  have h3 := World.ownsRow.stored (World.ownsRow.stored (World.ownsRow.stored h (k * 3) (.float .f32 x)).1 (k * 3 + 1) (.float .f32 y)).1 (k * 3 + 2) (.float .f32 z)
  unfold OwnedS
  rw [cellsS_set, List.length_set]
  exact h3.1

structure CtS (w : World) (p q : Int) (sv : Value) (g7 g8 gr cr : Nat) (v1 : Value) (zs1 zr : List (Nat × Nat × Nat)) (W : World) : Prop where
  s : Sh3 W w.heap.size p q sv
  f : Sh3 W g7 p q v1
  l : Sh3 W g8 p q (.slice (some ⟨gr, 0, none⟩) zr.length cr)
  r4 : Sh3 W (w.heap.size + 1) 0 0 (.slice none 0 0)
  r5 : Sh3 W (w.heap.size + 2) 0 0 (.slice none 0 0)
  fz : ∀ b i, i < 3 → (b = g7 ∨ b = g8 ∨ b = w.heap.size + 1 ∨ b = w.heap.size + 2) → W.frozen? ⟨b, i, none⟩ = false
  o1 : OwnedS W (g8 + 1) v1 zs1
  o2 : OwnedS W (g7 + 1) (.slice (some ⟨gr, 0, none⟩) zr.length cr) zr
  bel : Below w.heap.size w W
  lt : w.heap.size + 2 < g7 ∧ g7 < gr ∧ gr < g8
theorem CtS.below {w W W' : World} {p q : Int} {sv v1 : Value} {g7 g8 gr cr : Nat} {zs1 zr : List (Nat × Nat × Nat)} (h : CtS w p q sv g7 g8 gr cr v1 zs1 zr W) (hB : Below W.heap.size W W') : CtS w p q sv g7 g8 gr cr v1 zs1 zr W' := by
  refine ⟨h.s.below hB, h.f.below hB, h.l.below hB, h.r4.below hB, h.r5.below hB, fun b i hi hb => ?_, ownsRow_past h.o1 hB, ownsRow_past h.o2 hB, h.bel.trans (hB.mono h.bel.size), h.lt⟩
  have hlt : b < W.heap.size := by rcases hb with rfl | rfl | rfl | rfl; exact h.f.l; exact h.l.l; exact h.r4.l; exact h.r5.l
  exact (hB.frozen (p := ⟨b, i, none⟩) hlt).trans (h.fz b i hi hb)
/-- The left part takes one more spot. -/
theorem CtS.app {w W W1 : World} {p q : Int} {sv v1 v1' : Value} {g7 g8 gr cr : Nat} {zs1 zr : List (Nat × Nat × Nat)} {e : Nat × Nat × Nat} (h : CtS w p q sv g7 g8 gr cr v1 zs1 zr W) (ho : W1.ownsRow (g8 + 1) 57 3 v1' (zs1.length + 1) (cellsS zs1 ++ cellsS [e])) (hg : W.grownBy W1 v1.ownBlock) :
    CtS w p q sv g7 g8 gr cr v1' (zs1 ++ [e]) zr (W1.setCell ⟨g7, 2, none⟩ v1') := by
  have l := h.lt
  have hb : ∀ r, v1.ownBlock = some r → g8 + 1 ≤ r := fun r e => (World.ownsRow.lt h.o1 r e).1
  have o1' : OwnedS W1 (g8 + 1) v1' (zs1 ++ [e]) := by unfold OwnedS; rw [cellsS_append, List.length_append]; exact ho
  have o2' : OwnedS W1 (g7 + 1) (.slice (some ⟨gr, 0, none⟩) zr.length cr) zr := World.ownsRow.kept h.o2 hg (.inr fun e' => by have := hb gr e'.symm; omega)
  refine ⟨sh3_putO (sh3_row h.s hg (fun r e => by have := hb r e; omega)) (by omega), sh3_putL (sh3_row h.f hg (fun r e => by have := hb r e; omega)) _, sh3_putO (sh3_row h.l hg (fun r e => by have := hb r e; omega)) (by omega), sh3_putO (sh3_row h.r4 hg (fun r e => by have := hb r e; omega)) (by omega), sh3_putO (sh3_row h.r5 hg (fun r e => by have := hb r e; omega)) (by omega), fun b i hi hbb => ?_, o1'.setO (by omega), o2'.setO (by omega), (h.bel.grown hg h.bel.size (fun r e => by have := hb r e; omega)).setCell (p := ⟨g7, 2, none⟩) (by show w.heap.size ≤ g7; omega) _, l⟩
  rw [World.frozen?_setCell]
  have hlt : b < W.heap.size := by rcases hbb with rfl | rfl | rfl | rfl; exact h.f.l; exact h.l.l; exact h.r4.l; exact h.r5.l
  have hbk := hg.block b hlt (fun e => by have := hb b e.symm; omega)
  have := h.fz b i hi hbb
  simp only [World.frozen?] at this ⊢
  rw [hbk]
  exact this
/-- A spot of the right part is put anew. -/
theorem CtS.put {w W : World} {p q : Int} {sv v1 : Value} {g7 g8 gr cr k x y z : Nat} {zs1 zr : List (Nat × Nat × Nat)} (h : CtS w p q sv g7 g8 gr cr v1 zs1 zr W) :
    CtS w p q sv g7 g8 gr cr v1 zs1 (zr.set k (x, y, z)) (((W.setCell ⟨gr, k * 3, none⟩ (.float .f32 x)).setCell ⟨gr, k * 3 + 1, none⟩ (.float .f32 y)).setCell ⟨gr, k * 3 + 2, none⟩ (.float .f32 z)) := by
  have l := h.lt
  have o2' := OwnedS.put (k := k) (x := x) (y := y) (z := z) h.o2
  refine ⟨sh3_other (sh3_other (sh3_other h.s (by omega)) (by omega)) (by omega), sh3_other (sh3_other (sh3_other h.f (by omega)) (by omega)) (by omega), ?_, sh3_other (sh3_other (sh3_other h.r4 (by omega)) (by omega)) (by omega), sh3_other (sh3_other (sh3_other h.r5 (by omega)) (by omega)) (by omega), fun b i hi hb => ?_, ((h.o1.setO (by omega)).setO (by omega)).setO (by omega), ?_, ((h.bel.setCell (p := ⟨gr, k * 3, none⟩) (by show w.heap.size ≤ gr; omega) _).setCell (p := ⟨gr, k * 3 + 1, none⟩) (by show w.heap.size ≤ gr; omega) _).setCell (p := ⟨gr, k * 3 + 2, none⟩) (by show w.heap.size ≤ gr; omega) _, l⟩
  · rw [List.length_set]; exact sh3_other (sh3_other (sh3_other h.l (by omega)) (by omega)) (by omega)
  · rw [World.frozen?_setCell, World.frozen?_setCell, World.frozen?_setCell]; exact h.fz b i hi hb
  · rw [List.length_set]; exact o2'

def RgtP (t p : Nat) (xs : List (Nat × Nat × Nat)) (n j k : Nat) (zr : List (Nat × Nat × Nat)) : Prop :=
  zr.length = n ∧ ∀ j' i, i < p → (j' < j ∨ j' = j ∧ p ≤ i + k) → ∃ ys, CutR t (p - 1 - i) (rowP xs p j') ys ∧ zr.getD (j' * p + i) (0, 0, 0) = ys.getD i (0, 0, 0)
theorem RgtP.start {t p n : Nat} {xs zr : List (Nat × Nat × Nat)} (h : zr.length = n) : RgtP t p xs n 0 0 zr := ⟨h, fun _ _ _ h => absurd h (by omega)⟩
theorem RgtP.next {t p n j : Nat} {xs zr : List (Nat × Nat × Nat)} (h : RgtP t p xs n j p zr) : RgtP t p xs n (j + 1) 0 zr := ⟨h.1, fun j' i hi hor => h.2 j' i hi (by omega)⟩
theorem RgtP.step {t p n j k : Nat} {xs zr ys : List (Nat × Nat × Nat)} {e : Nat × Nat × Nat} (h : RgtP t p xs n j k zr) (hk : k < p) (hn : j * p + (p - 1 - k) < n) (hy : CutR t k (rowP xs p j) ys) (he : e = ys.getD (p - 1 - k) (0, 0, 0)) : RgtP t p xs n j (k + 1) (zr.set (j * p + (p - 1 - k)) e) := by
  refine ⟨by rw [List.length_set]; exact h.1, fun j' i hi hor => ?_⟩
  by_cases hpl : j' * p + i = j * p + (p - 1 - k)
  · obtain ⟨e1, e2⟩ := place_eq hi (by omega : p - 1 - k < p) hpl
    subst e1 e2
    refine ⟨ys, by rw [show p - 1 - (p - 1 - k) = k by omega]; exact hy, ?_⟩
    rw [List.getD_eq_getElem?_getD, List.getElem?_set_self (by rw [h.1]; exact hn)]
    exact he
  · obtain ⟨zs, a, b⟩ := h.2 j' i hi (by
      rcases hor with h1 | ⟨h1, h2⟩
      · exact .inl h1
      · refine .inr ⟨h1, ?_⟩
        by_cases h3 : p ≤ i + k
        · exact h3
        · subst h1; exact absurd (by have : i = p - 1 - k := by omega
                                     rw [this]) hpl)
    refine ⟨zs, a, ?_⟩
    rw [List.getD_eq_getElem?_getD, List.getElem?_set_ne (fun e => hpl e.symm), ← List.getD_eq_getElem?_getD]
    exact b
theorem RgtP.fin {t p q n : Nat} {xs zr : List (Nat × Nat × Nat)} (h : RgtP t p xs n q 0 zr) (hn : n = p * q) : LatP t p xs n zr := by
  refine ⟨h.1, fun j i hi hlt => h.2 j i hi (.inl ?_)⟩
  by_cases hj : j < q
  · exact hj
  · have : q * p ≤ j * p := Nat.mul_le_mul_right p (by omega)
    rw [Nat.mul_comm q p] at this
    omega

end

section
open Go.RowKit Go.Shelf Fl Ieee Go.WideShapes Go.Deep
attribute [local go_sem] kstore_f kalloc_drewN kset_drewN hstore_i hstore_s

theorem step_append_at {P : Program} {ops : Array Oper} {o : Oper} {a : Act} {w : World} {K : Act → World → Prop} {Q : Exit → Act → World → Prop} {E : Prop} (hgd : o.guard = none) (s x : Operand) (t : TypeId)
    (ho : o.op = .call { callee := .builtin .append, args := #[s, x], argTypes := #[t, t] })
    (base : Nat) (e : TypeId) (i : TypeInfo) (z : Value) (size bytes : Nat) (ht : P.underlying t = some (.slice e)) (hi : P.info? e = some i) (hz : i.zero = some z)
    (hsize : i.size = size) (hby : i.bytes = bytes) (hzs : z.cells.size = size) (hsz : 0 < size)
    (v : Value) (n : Nat) (xs : List Value) (hs : a.eval s = v) (hown : w.ownsRow base e size v n xs)
    (ad : Addr) (m c : Nat) (news : List Value) (hx : a.eval x = .slice (some ad) m c) (hl : news.length = m * size) (hnews : ∀ j u, news[j]? = some u → w.cell? (ad.add j) = some u) (h1 : ∀ u ∈ news, u.oneCell' = true)
    (h63 : n + m ≤ maxLen) (hbytes : (n + m) * bytes ≤ 140737488355328) (hbase : base ≤ w.heap.size)
    (h : ∀ v' w', w'.ownsRow base e size v' (n + m) (xs ++ news) → w.grownBy w' v.ownBlock → (v'.ownBlock = v.ownBlock ∨ v'.ownBlock = some w.heap.size) → K (a.put o.dst v') w') :
    if Region.wanted o (yielded ops a.tmps) = true then Oper.wp P o a w K Q else E := by
  have hw : Region.wanted o (yielded ops a.tmps) = true := by simp [Region.wanted, hgd]
  rw [if_pos hw]
  obtain ⟨v', w', hr, h2, h3, h4, h5⟩ := run_append_own_at (P := P) w base t o.type e i z size bytes ht hi hz hsize hby hzs hsz v n xs hown ad m c news hl hnews h1 h63 hbytes hbase
  unfold Oper.wp execOp
  simp only [ho, resolve, invoke, builtin, Sem.run_bind, Sem.run_pure, Result.andThen_ok, List.map_toArray, List.map_cons, List.map_nil, hs, hx, hr]
  exact h v' w' h2 h3 h5

theorem RdS.blk {W W' : World} {b of : Nat} {xs : List (Nat × Nat × Nat)} (h : RdS W (some ⟨b, of, none⟩) xs) (hb : W'.heap[b]? = W.heap[b]?) (hs : W.heap.size ≤ W'.heap.size) : RdS W' (some ⟨b, of, none⟩) xs := ⟨fun h0 => by
  obtain ⟨b', of', e, hl, hc⟩ := h.h h0
  injection e with e
  injection e with e1 e2
  subst e1 e2
  refine ⟨b, of, rfl, by omega, fun j hj => ?_⟩
  obtain ⟨c0, c1, c2⟩ := hc j hj
  exact ⟨(World.cell?_of_block (a := ⟨b, _, none⟩) hb).trans c0, (World.cell?_of_block (a := ⟨b, _, none⟩) hb).trans c1, (World.cell?_of_block (a := ⟨b, _, none⟩) hb).trans c2⟩⟩
def RowA (B gR : Nat) (A : Option Addr) (v1 : Value) : Prop := ∀ b of, A = some ⟨b, of, none⟩ → (b < B ∨ gR < b) ∧ some b ≠ v1.ownBlock

set_option maxRecDepth 100000 in
set_option maxHeartbeats 4000000 in
theorem specCutSheet_yes (bk off n p q u : Nat) (xs : List (Nat × Nat × Nat)) (hp : 2 ≤ p ∧ p ≤ 6) (hq : 2 ≤ q ∧ q ≤ 6) (hxn : n = xs.length) (hl : n = p * q) (hsh : shB p q xs = true) (hu : isShareB u = true) (w : World) (hA : RdS w (some ⟨bk, off, none⟩) xs) :
    Calls Try.prog 16 #[.agg #[.int .i64 p, .int .i64 q, .slice (some ⟨bk, off, none⟩) n n], .float .f32 u] w fun e w' => ∃ v1 v2 zs1 zs2, FormP u p xs n zs1 ∧ LatP u p xs n zs2 ∧ ((shB p q zs1 && shB p q zs2) = true ∧ e = .returned (.tuple #[.agg #[.int .i64 p, .int .i64 q, v1], .agg #[.int .i64 p, .int .i64 q, v2], .bool true]) ∧ OwnedS w' w.heap.size v1 zs1 ∧ OwnedS w' w.heap.size v2 zs2 ∧ (v1.ownBlock = none ∨ v1.ownBlock ≠ v2.ownBlock) ∨ (shB p q zs1 && shB p q zs2) = false ∧ e = .returned (.tuple #[.agg #[.int .i64 0, .int .i64 0, .slice none 0 0], .agg #[.int .i64 0, .int .i64 0, .slice none 0 0], .bool false])) ∧ Below w.heap.size w w' := by
  have hn36 : n ≤ 36 := by rw [hl]; exact Nat.mul_le_mul hp.2 hq.2
  have hn4 : 4 ≤ n := by rw [hl]; exact Nat.mul_le_mul hp.1 hq.1
  have HIS := Frame.hid (fun (g : Nat) (W : World) (hS : Sh3 W g (p : Int) (q : Int) (.slice (some ⟨bk, off, none⟩) n n)) (hW : Below w.heap.size w W) => by have h := l04Is_calls g (some ⟨bk, off, none⟩) xs n n hxn (p : Int) (q : Int) W (by omega) hS (hA.below hW); rw [hsh] at h; exact h)
  have HOWN := Frame.hid (fun (g : Nat) (W : World) (hS : Sh3 W g (p : Int) (q : Int) (.slice (some ⟨bk, off, none⟩) n n)) (hW : Below w.heap.size w W) => l04Own_calls g (p : Int) (q : Int) bk off n xs (by omega) (by omega) W (by rw [← hxn]; exact hS) (hA.below hW))
  have HA := Frame.hid hA
  have HX := Frame.hid hxn
  have HL := Frame.hid hl
  have HU := Frame.hid hu
  clear hA hxn hl hu hsh
  obtain ⟨w0, hw0⟩ : ∃ w0, w0 = ((w.alloc (.cells #[.int .i64 p, .int .i64 q, .slice (some ⟨bk, off, none⟩) n n] 29)).alloc (.cells #[.int .i64 0, .int .i64 0, .slice none 0 0] 29)).alloc (.cells #[.int .i64 0, .int .i64 0, .slice none 0 0] 29) := ⟨_, rfl⟩
  have hW0 : Below w.heap.size w w0 := by rw [hw0]; exact (((Below.refl _ _).alloc (Nat.le_refl _) _).alloc (by simp) _).alloc (by simp; omega) _
  have hs0 : Sh3 w0 w.heap.size p q (.slice (some ⟨bk, off, none⟩) n n) := by rw [hw0]; refine ⟨?_, ?_, ?_, by simp; omega⟩ <;> simp [go_sem]
  have hs1 : Sh3 w0 (w.heap.size + 1) 0 0 (.slice none 0 0) := by rw [hw0]; refine ⟨?_, ?_, ?_, by simp⟩ <;> simp [go_sem]
  have hs2 : Sh3 w0 (w.heap.size + 2) 0 0 (.slice none 0 0) := by rw [hw0]; refine ⟨?_, ?_, ?_, by simp⟩ <;> simp [go_sem]
  have hfz : ∀ b i, (b = w.heap.size + 1 ∨ b = w.heap.size + 2) → w0.frozen? ⟨b, i, none⟩ = false := by rw [hw0]; rintro b i (rfl | rfl) <;> simp [go_sem]
  have hz0 : w0.heap.size = w.heap.size + 3 := by rw [hw0]; simp
  go_enter Try.func16, Try.ntmps16
  go_wp2_with fail
  go_at_call 56
  rw [← hw0]
  clear hw0
  refine (HIS.out _ _ hs0 hW0).mono ?_
  rintro e w1 ⟨rfl, hB1⟩
  have HW1 := Frame.hid (hW0.trans (hB1.mono hW0.size))
  have HS0 := Frame.hid (hs0.below hB1)
  have HS1 := Frame.hid (hs1.below hB1)
  have HS2 := Frame.hid (hs2.below hB1)
  have HFZ := Frame.hid (fun b i (hb : b = w.heap.size + 1 ∨ b = w.heap.size + 2) => (hB1.frozen (p := ⟨b, i, none⟩) (by show b < w0.heap.size; omega)).trans (hfz b i hb))
  have hz1 : w.heap.size + 3 ≤ w1.heap.size := by have := hB1.size; omega
  have c0 := HS0.out.c0
  have c1 := HS0.out.c1
  have c2 := HS0.out.c2
  clear hs0 hs1 hs2 hfz hB1 hW0 hz0
  go_wp2_with fail
  go_at_call 57
  refine (l02Share_calls _ _).mono ?_
  rintro e w' ⟨rfl, rfl⟩
  rw [HU.out]
  go_wp2_with fail
  obtain ⟨gL, hgL⟩ : ∃ g, g = w1.heap.size := ⟨_, rfl⟩
  obtain ⟨WL, hWL⟩ : ∃ W, W = w1.alloc (.cells #[.int .i64 p, .int .i64 q, .slice none 0 0] 29) := ⟨_, rfl⟩
  have hBL : Below w1.heap.size w1 WL := by rw [hWL]; exact (Below.refl _ _).alloc (Nat.le_refl _) _
  have hsL : Sh3 WL gL p q (.slice none 0 0) := by rw [hWL, hgL]; refine ⟨?_, ?_, ?_, by simp⟩ <;> simp [go_sem]
  have hfL : ∀ i, WL.frozen? ⟨gL, i, none⟩ = false := fun i => by rw [hWL, hgL]; simp [go_sem]
  have hsz : WL.heap.size = gL + 1 := by rw [hWL, hgL]; simp
  have hgl : w.heap.size + 2 < gL := by omega
  rw [← hgL, ← hWL]
  clear hgL hWL hz1 c0 c1 c2
  refine (HOWN.out _ _ (HS0.out.below hBL) (HW1.out.trans (hBL.mono HW1.out.size))).mono ?_
  rintro e w2 ⟨v2, rfl, hO2, hB2⟩
  obtain ⟨gr, cr, rfl⟩ : ∃ gr cr, v2 = .slice (some ⟨gr, 0, none⟩) xs.length cr := by
    rcases hO2.2 with ⟨-, h0⟩ | ⟨g, c, cur, e, -⟩
    · have := HX.out; omega
    · exact ⟨g, c, e⟩
  obtain ⟨gR, hgR⟩ : ∃ g, g = w2.heap.size := ⟨_, rfl⟩
  have hgr := World.ownsRow.lt hO2 gr rfl
  have hlt : w.heap.size + 2 < gL ∧ gL < gr ∧ gr < gR := by omega
  obtain ⟨WR, hWR⟩ : ∃ W, W = w2.alloc (.cells #[.int .i64 p, .int .i64 q, .slice (some ⟨gr, 0, none⟩) xs.length cr] 29) := ⟨_, rfl⟩
  have hBR : Below w2.heap.size w2 WR := by rw [hWR]; exact (Below.refl _ _).alloc (Nat.le_refl _) _
  have hB12 : Below w1.heap.size w1 w2 := hBL.trans (hB2.mono hBL.size)
  have hB1R : Below w1.heap.size w1 WR := hB12.trans (hBR.mono hB12.size)
  have hBLR : Below WL.heap.size WL WR := hB2.trans (hBR.mono hB2.size)
  have hCT : CtS w p q (.slice (some ⟨bk, off, none⟩) n n) gL gR gr cr (.slice none 0 0) [] xs WR := by
    refine ⟨HS0.out.below hB1R, hsL.below hBLR, ?_, HS1.out.below hB1R, HS2.out.below hB1R, ?_, OwnedS.nil _ _, OwnedS.mono' (ownsRow_past hO2 hBR) (by omega), HW1.out.trans (hB1R.mono HW1.out.size), hlt⟩
    · rw [hWR, hgR]; refine ⟨?_, ?_, ?_, by simp⟩ <;> simp [go_sem]
    · rintro b i hi (e | e | e | e) <;> rw [e]
      · exact (hBLR.frozen (p := ⟨gL, i, none⟩) (by show gL < WL.heap.size; omega)).trans (hfL i)
      · rw [hWR, hgR]; simp [go_sem]
      · exact (hB1R.frozen (p := ⟨_, i, none⟩) (by show w.heap.size + 1 < _; have := HS1.out.l; omega)).trans (HFZ.out _ i (.inl rfl))
      · exact (hB1R.frozen (p := ⟨_, i, none⟩) (by show w.heap.size + 2 < _; have := HS2.out.l; omega)).trans (HFZ.out _ i (.inr rfl))
  have HCT := Frame.hid hCT
  have HLT := Frame.hid hlt
  have HWR := Frame.hid hWR
  have HGR := Frame.hid hgR
  clear hCT hB1R hB12 hBLR hBR hgr hO2 hB2 hsL hfL hsz hgl hBL HS0 HS1 HS2 HFZ HW1 hlt hWR hgR HIS HOWN
  go_wp2_with fail
  rw [← HGR.out, ← HWR.out]
  clear HGR HWR
  go_loopw [9] (fun jv W => ∃ (j : Nat) (v1 : Value) (zs1 zr : List (Nat × Nat × Nat)), j ≤ q ∧ jv = .int .i64 (j : Nat) ∧ FormP u p xs (j * p) zs1 ∧ RgtP u p xs n j 0 zr ∧ CtS w p q (.slice (some ⟨bk, off, none⟩) n n) gL gR gr cr v1 zs1 zr W) (fun jv _ => q - (intOf jv).toNat)
  case atStart => exact ⟨0, _, [], xs, Nat.zero_le _, rfl, by rw [Nat.zero_mul]; exact PartP.nil _ _ _ _ _, RgtP.start HX.out.symm, HCT.out⟩
  case round =>
    obtain ⟨j, v1, zs1, zr, hj, rfl, hF, hR, hC⟩ := hrel
    have HF := Frame.hid hF
    have HR := Frame.hid hR
    have HC := Frame.hid hC
    have c0 := hC.s.c0
    have c1 := hC.s.c1
    have c2 := hC.s.c2
    clear hF hR hC HCT
    by_cases hlt : j < q
    · obtain ⟨lo, hlo⟩ : ∃ lo, lo = j * p := ⟨_, rfl⟩
      have hlp : lo + p ≤ n := by
        have : (j + 1) * p ≤ q * p := Nat.mul_le_mul_right p hlt
        rw [Nat.succ_mul, Nat.mul_comm q p] at this
        have := HL.out
        omega
      have hk1 : (j : Int) * (p : Int) = (lo : Int) := by rw [hlo]; push_cast; rfl
      have hk1w : IntKind.i64.wrap ((j : Int) * (p : Int)) = (lo : Int) := by rw [hk1, IntKind.wrap_i64]; omega
      have hk2w : IntKind.i64.wrap (((j : Int) + 1) * (p : Int)) = ((lo + p : Nat) : Int) := by rw [show ((j : Int) + 1) * (p : Int) = ((lo + p : Nat) : Int) by rw [hlo]; push_cast; rw [Int.add_mul, Int.one_mul], IntKind.wrap_i64]; omega
      have hk3w : IntKind.i64.wrap ((j : Int) + 1) = (j : Int) + 1 := by rw [IntKind.wrap_i64]; omega
      have hk4w : IntKind.i64.wrap ((p : Int) - 1) = (p : Int) - 1 := by rw [IntKind.wrap_i64]; omega
      have hs1 : (0 : Int) ≤ (lo : Int) + (p : Int) ∧ (lo : Int) + (p : Int) ≤ (n : Int) := by omega
      have hs2 : ((lo : Int) + (p : Int)).toNat = lo + p := by omega
      have hs4 : ¬ (n = lo) := by omega
      have hs5 : lo ≤ lo + p := by omega
      have HPART := Frame.hid (fun W h => (HA.out.below (w' := W) h).part lo p (by rw [← HX.out]; exact hlp))
      have HLO := Frame.hid hlo
      clear hk1 hlo
      go_wp2_with fail
      obtain ⟨i0, hi, hz0, hz1, hz2⟩ := info_parts infoSpot
      go_loopw [10, 11] (fun rv nv W => ∃ (k : Nat) (v1 : Value) (zs1 zr ys : List (Nat × Nat × Nat)) (A : Option Addr) (c : Nat), k ≤ p ∧ rv = .slice A (p - k) c ∧ nv = .int .i64 ((p : Int) - 1 - (k : Nat)) ∧ ys.length = p - k ∧ CutR u k (rowP xs p j) ys ∧ RdS W A ys ∧ RowA w.heap.size gR A v1 ∧ FormP u p xs (j * p + k) zs1 ∧ RgtP u p xs n j k zr ∧ CtS w p q (.slice (some ⟨bk, off, none⟩) n n) gL gR gr cr v1 zs1 zr W) (fun _ nv _ => (intOf nv + 1).toNat)
      case atStart =>
        refine ⟨0, v1, zs1, zr, rowP xs p j, _, _, Nat.zero_le _, rfl, by simp, rowP_len xs p j, rfl, ?_, ?_, by rw [Nat.add_zero]; exact HF.out, HR.out, HC.out⟩
        · have h := HPART.out _ HC.out.bel
          rw [HLO.out] at h ⊢
          exact h
        · intro b of e
          injection e with e
          injection e with e1 e2
          obtain ⟨b', of', e', hb', -⟩ := HA.out.h (by have := HX.out; omega)
          injection e' with e'
          injection e' with e3 e4
          subst e1 e3
          refine ⟨.inl hb', fun e => ?_⟩
          have := (World.ownsRow.lt HC.out.o1 _ e.symm).1
          have := HLT.out
          omega
      case round =>
        obtain ⟨k, v1, zs1, zr, ys, A, c, hk, rfl, rfl, hyl, hcut, hrd, hra, hF, hR, hC⟩ := hrel
        clear HF HR HC c0 c1 c2
        have HF := Frame.hid hF
        have HR := Frame.hid hR
        have HC := Frame.hid hC
        have HYL := Frame.hid hyl
        have HCUT := Frame.hid hcut
        have HRD := Frame.hid hrd
        have HRA := Frame.hid hra
        clear hF hR hC hyl hcut hrd hra
        by_cases hlk : k < p
        · obtain ⟨m, hm⟩ : ∃ m : Nat, m = p - 1 - k := ⟨_, rfl⟩
          have hnv : (p : Int) - 1 - (k : Nat) = (m : Int) := by omega
          rw [hnv]
          have HM := Frame.hid hm
          clear hm hnv
          have hyl := HYL.out
          have hys1 : 0 < ys.length := by omega
          have hpk : 0 < p - k := by omega
          obtain ⟨b, of, rfl, hb, hcl⟩ := HRD.out.h hys1
          obtain ⟨x0, x1, x2⟩ := hcl 0 hys1
          rw [Nat.zero_mul, Nat.add_zero] at x0 x1 x2
          have hra2 := (HRA.out b of rfl).2
          have d2 := HC.out.f.c2
          have d7 := HC.out.fz gL 2 (by omega) (.inl rfl)
          have gl7 := HC.out.f.l
          have hn7 : some gL ≠ v1.ownBlock := fun e => by have := (World.ownsRow.lt HC.out.o1 gL e.symm).1; have := HLT.out; omega
          obtain ⟨x, hx⟩ : ∃ x, x = sx ys 0 := ⟨_, rfl⟩
          obtain ⟨y, hy⟩ : ∃ y, y = sy ys 0 := ⟨_, rfl⟩
          obtain ⟨z, hz⟩ : ∃ z, z = sz ys 0 := ⟨_, rfl⟩
          rw [← hx] at x0
          rw [← hy] at x1
          rw [← hz] at x2
          have HE := Frame.hid (And.intro hx (And.intro hy hz))
          have HSO : Hid (∀ (W : World), ((∀ (bb : Nat), bb < wr.heap.size → some bb ≠ v1.ownBlock → W.heap[bb]? = wr.heap[bb]?) ∧ wr.heap.size ≤ W.heap.size) → W.cell? ⟨gL, 2, none⟩ = some v1 ∧ W.cell? ⟨b, of, none⟩ = some (.float .f32 x) ∧ W.cell? ⟨b, of + 1, none⟩ = some (.float .f32 y) ∧ W.cell? ⟨b, of + 2, none⟩ = some (.float .f32 z)) := fun W h => ⟨(World.cell?_of_block (a := ⟨gL, 2, none⟩) (h.1 gL gl7 hn7)).trans d2, (World.cell?_of_block (a := ⟨b, of, none⟩) (h.1 b hb hra2)).trans x0, (World.cell?_of_block (a := ⟨b, of + 1, none⟩) (h.1 b hb hra2)).trans x1, (World.cell?_of_block (a := ⟨b, of + 2, none⟩) (h.1 b hb hra2)).trans x2⟩
          clear hyl hys1 hcl hx hy hz d2 x0 x1 x2
          go_wp2_with fail
          refine region_hand 8 (fun W => (∀ (bb : Nat), bb < wr.heap.size → some bb ≠ v1.ownBlock → W.heap[bb]? = wr.heap[bb]?) ∧ wr.heap.size ≤ W.heap.size) (by kernel_rfl) ?_
          have hBd : Below wr.heap.size wr wr.drew := (Below.refl _ _).drew
          have hS0 : (∀ (bb : Nat), bb < wr.heap.size → some bb ≠ v1.ownBlock → wr.drew.heap[bb]? = wr.heap[bb]?) ∧ wr.heap.size ≤ wr.drew.heap.size := ⟨fun bb h _ => hBd.block bb h, hBd.size⟩
          generalize wr.drew = wd at hBd hS0 ⊢
          refine' wpEnd_take 0 rfl (by kernel_rfl) hS0 (Or.inl ⟨by rfl, fun wq' hSq => _⟩) _
          rotate_left
          · (obtain ⟨q0, q1, q2, q3⟩ := HSO.out wq' hSq; go_simp; (try with_reducible rfl))
          simp only [Act.put, List.setIfInBounds_toArray, List.set_cons_zero, List.set_cons_succ]
          refine' wpEnd_take 1 rfl (by kernel_rfl) hS0 (Or.inl ⟨by rfl, fun wq' hSq => _⟩) _
          rotate_left
          · (obtain ⟨q0, q1, q2, q3⟩ := HSO.out wq' hSq; go_simp; (try with_reducible rfl))
          simp only [Act.put, List.setIfInBounds_toArray, List.set_cons_zero, List.set_cons_succ]
          refine' wpEnd_take 2 rfl (by kernel_rfl) hS0 (Or.inl ⟨by rfl, fun wq' hSq => _⟩) _
          rotate_left
          · (obtain ⟨q0, q1, q2, q3⟩ := HSO.out wq' hSq; go_simp; (try with_reducible rfl))
          simp only [Act.put, List.setIfInBounds_toArray, List.set_cons_zero, List.set_cons_succ]
          refine' wpEnd_take 3 rfl (by kernel_rfl) hS0 (Or.inl ⟨by rfl, fun wq' hSq => _⟩) _
          rotate_left
          · (obtain ⟨q0, q1, q2, q3⟩ := HSO.out wq' hSq; go_simp; (try with_reducible rfl))
          simp only [Act.put, List.setIfInBounds_toArray, List.set_cons_zero, List.set_cons_succ]
          refine' wpEnd_take 4 rfl (by kernel_rfl) hS0 (Or.inl ⟨by rfl, fun wq' hSq => _⟩) _
          rotate_left
          · (obtain ⟨q0, q1, q2, q3⟩ := HSO.out wq' hSq; go_simp; (try with_reducible rfl))
          simp only [Act.put, List.setIfInBounds_toArray, List.set_cons_zero, List.set_cons_succ]
          have hB4 : Below wr.heap.size wr (wd.alloc (.cells #[.float .f32 x, .float .f32 y, .float .f32 z] 57)) := hBd.alloc hBd.size _
          have hS4 : (∀ (bb : Nat), bb < wr.heap.size → some bb ≠ v1.ownBlock → (wd.alloc (.cells #[.float .f32 x, .float .f32 y, .float .f32 z] 57)).heap[bb]? = wr.heap[bb]?) ∧ wr.heap.size ≤ (wd.alloc (.cells #[.float .f32 x, .float .f32 y, .float .f32 z] 57)).heap.size := ⟨fun bb h _ => hB4.block bb h, hB4.size⟩
          refine wpEnd_ready [5] (by kernel_rfl) rfl (AllE.cons rfl (fun K hK => ?_) AllE.nil)
          go_simp
          refine hK.out _ _ (.inr hS4) ?_
          clear hK K
          (try simp only [Act.put, List.setIfInBounds_toArray, List.set_cons_zero, List.set_cons_succ])
          have hO4 : (wd.alloc (.cells #[.float .f32 x, .float .f32 y, .float .f32 z] 57)).ownsRow (gR + 1) 57 3 v1 zs1.length (cellsS zs1) := ownsRow_past HC.out.o1 hB4
          have hC4 := HC.out.below hB4
          have hzl : zs1.length = j * p + k := HF.out.1
          have hjp : j * p + k ≤ 36 := by have : (j + 1) * p ≤ q * p := Nat.mul_le_mul_right p hlt; have h2 := HL.out; rw [Nat.succ_mul, Nat.mul_comm q p] at this; omega
          have hw8 : gR + 1 ≤ wd.heap.size := by have := HC.out.l.l; have := hBd.size; omega
          have hnews := news3' wd x y z 57
          refine wpEnd_ready [6] (by kernel_rfl) rfl (AllE.cons rfl (fun K hK => ?_) AllE.nil)
          refine step_append_at rfl _ _ 27 rfl (gR + 1) 57 i0 (.agg #[.float .f32 0, .float .f32 0, .float .f32 0]) 3 12 Try.underlying27 hi hz0 hz1 hz2 rfl (by decide) v1 zs1.length (cellsS zs1) rfl hO4 ⟨wd.heap.size, 0, none⟩ 1 1 (cellsS [(x, y, z)]) rfl rfl hnews (cellsS_one _) (by unfold maxLen; omega) (by omega) (by simp; omega) ?_
          clear hzl hjp
          intro v1' w5 hown5 hgrow5 hat5
          obtain ⟨A5, c5, rfl⟩ : ∃ A c, v1' = .slice A (zs1.length + 1) c := by
            rcases hown5.2 with ⟨h0, h1⟩ | ⟨g', cap, cur, h1, _⟩
            · omega
            · exact ⟨_, _, h1⟩
          have hS5 : (∀ (bb : Nat), bb < wr.heap.size → some bb ≠ v1.ownBlock → w5.heap[bb]? = wr.heap[bb]?) ∧ wr.heap.size ≤ w5.heap.size := ⟨fun bb h hne => (hgrow5.block bb (Nat.lt_of_lt_of_le h hB4.size) hne).trans (hB4.block bb h), Nat.le_trans hB4.size hgrow5.size⟩
          refine hK.out _ _ (.inr hS5) ?_
          clear hK K
          (try simp only [Act.put, List.setIfInBounds_toArray, List.set_cons_zero, List.set_cons_succ])
          refine wpEnd_ready [7] (by kernel_rfl) rfl (AllE.cons rfl (fun K hK => ?_) AllE.nil)
          go_simp
          refine hK.out _ _ (.inr hS5) ?_
          clear hK K
          (try simp only [Act.put, List.setIfInBounds_toArray, List.set_cons_zero, List.set_cons_succ])
          have d9 := (HSO.out w5 hS5).1
          have f9 : w5.frozen? ⟨gL, 2, none⟩ = false := by
            have h := d7
            simp only [World.frozen?] at h ⊢
            rw [hS5.1 gL gl7 hn7]
            exact h
          have HCN := Frame.hid (CtS.app (e := (x, y, z)) hC4 hown5 hgrow5)
          have HFN : Hid (FormP u p xs (j * p + k + 1) (zs1 ++ [(x, y, z)])) := HF.out.step rfl hlk HCUT.out (by rw [HE.out.1, HE.out.2.1, HE.out.2.2]; rfl)
          have hne5 : some b ≠ (Value.slice A5 (zs1.length + 1) c5).ownBlock := fun e => by
            rcases hat5 with h | h
            · exact hra2 (e.trans h)
            · have h2 := e.trans h
              injection h2 with h2
              have h3 := hB4.size
              omega
          have HRD5 : Hid (RdS (w5.setCell ⟨gL, 2, none⟩ (.slice A5 (zs1.length + 1) c5)) (some ⟨b, of, none⟩) ys) := by
            have hra1 := (HRA.out b of rfl).1
            have hl4 := HLT.out
            refine Frame.hid (HRD.out.blk ?_ (by simpa using hS5.2))
            rw [Below.heap_setCell _ _ _ _ (by simp; omega)]
            exact hS5.1 b hb hra2
          clear hS4 hO4 hC4 hown5 hgrow5 hat5 hS5 hnews hB4
          refine wpEnd_ready [8] (by kernel_rfl) rfl (AllE.cons rfl (fun K hK => ?_) AllE.nil)
          go_simp
          refine hK.out _ _ (by first | exact .inl rfl | exact .inl trivial) ?_
          clear hK K
          refine wpEnd_done (by kernel_rfl) ?_
          clear d9 f9
          go_wp2_with fail
          generalize (w5.setCell ⟨gL, 2, none⟩ (.slice A5 (zs1.length + 1) c5)) = w6 at HCN HRD5 ⊢
          have hyl := HYL.out
          have hml : m < ys.length := by have := HM.out; omega
          have hmp : m < p - k := by omega
          obtain ⟨b', of', e', hb6, hc6⟩ := HRD5.out.h (by omega)
          injection e' with e'
          injection e' with e1 e2
          subst e1 e2
          obtain ⟨x0, x1, x2⟩ := hc6 m hml
          obtain ⟨x', hx⟩ : ∃ x, x = sx ys m := ⟨_, rfl⟩
          obtain ⟨y', hy⟩ : ∃ y, y = sy ys m := ⟨_, rfl⟩
          obtain ⟨z', hz⟩ : ∃ z, z = sz ys m := ⟨_, rfl⟩
          rw [← hx] at x0
          rw [← hy] at x1
          rw [← hz] at x2
          have HE2 := Frame.hid (And.intro hx (And.intro hy hz))
          have hzr : zr.length = n := HR.out.1
          have hmm : m < p := by omega
          have hlm : lo + m < zr.length := by omega
          have d2 := HCN.out.l.c2
          have c0 := HCN.out.s.c0
          have hwr : ∀ i, i < 3 → ∃ v, w6.cell? ⟨gr, (lo + m) * 3 + i, none⟩ = some v := fun i hi => by
            have hlen : (cellsS zr).length = zr.length * 3 := cellsS_len zr
            rw [World.ownsRow.cellAt HCN.out.o2 ((lo + m) * 3 + i) (by omega), List.getElem?_eq_getElem (by omega)]
            exact ⟨_, rfl⟩
          obtain ⟨t0, r0⟩ := hwr 0 (by omega)
          obtain ⟨t1, r1⟩ := hwr 1 (by omega)
          obtain ⟨t2, r2⟩ := hwr 2 (by omega)
          rw [Nat.add_zero] at r0
          have fr0 := World.ownsRow.frozenAt HCN.out.o2 ((lo + m) * 3)
          have fr1 := World.ownsRow.frozenAt HCN.out.o2 ((lo + m) * 3 + 1)
          have fr2 := World.ownsRow.frozenAt HCN.out.o2 ((lo + m) * 3 + 2)
          have hgz : gR < w6.heap.size ∧ w.heap.size < w6.heap.size ∧ gr < w6.heap.size := by have h1 := HCN.out.l.l; have h2 := HCN.out.s.l; have h3 := (World.ownsRow.lt HCN.out.o2 gr rfl).2; exact ⟨h1, h2, h3⟩
          have hi1 : IntKind.i64.wrap ((lo : Int) + (m : Int)) = ((lo + m : Nat) : Int) := by rw [IntKind.wrap_i64]; omega
          have hix : (0 : Int) ≤ (lo : Int) + (m : Int) ∧ (lo : Int) + (m : Int) < (zr.length : Int) := by omega
          have hin : ((lo : Int) + (m : Int)).toNat = lo + m := by omega
          have HIX := Frame.hid (And.intro hzr hlm)
          clear hyl hml hwr hx hy hz hc6 hzr hlm
          have hS0 : Below w6.heap.size w6 w6.drew := (Below.refl _ _).drew
          refine region_end 13 (fun W => Below w6.heap.size w6 W) (by kernel_rfl) (by kernel_rfl) hS0 ?_
          simp only [List.take_succ_cons, List.take_zero, List.drop_succ_cons, List.drop_zero]
          iterate 13
            refine' eLex_cons (Or.inl ⟨by rfl, fun wq hSq => _⟩) _
            rotate_left
            · (have q0 := (hSq.cell (p := ⟨gR, 2, none⟩) hgz.1).trans d2; have q1 := (hSq.cell (p := ⟨w.heap.size, 0, none⟩) hgz.2.1).trans c0; have q2 := (hSq.cell (p := ⟨b, of + m * 3, none⟩) hb6).trans x0; have q3 := (hSq.cell (p := ⟨b, of + m * 3 + 1, none⟩) hb6).trans x1; have q4 := (hSq.cell (p := ⟨b, of + m * 3 + 2, none⟩) hb6).trans x2; go_simp; (try with_reducible rfl))
            simp only [Act.put, List.setIfInBounds_toArray, List.set_cons_zero, List.set_cons_succ]
          refine eLex_nil ?_
          refine wpTail_cons (fun K hK => ?_)
          go_simp
          refine hK.out _ _ (.inl rfl) ?_
          clear hK K
          refine wpTail_done ?_
          have hpl : lo + m = j * p + (p - 1 - k) := by rw [HLO.out, HM.out]
          have HCP := Frame.hid ((CtS.put (k := lo + m) (x := x') (y := y') (z := z') HCN.out).below (Below.refl _ _).drew)
          have HRP : Hid (RgtP u p xs n j (k + 1) (zr.set (lo + m) (x', y', z'))) := by
            have h := HR.out.step (e := (x', y', z')) hlk (by rw [← hpl]; have := HIX.out; omega) HCUT.out (by rw [← HM.out, HE2.out.1, HE2.out.2.1, HE2.out.2.2]; rfl)
            rw [← hpl] at h
            exact h
          have HRD6 : Hid (RdS (((w6.setCell ⟨gr, (lo + m) * 3, none⟩ (.float .f32 x')).setCell ⟨gr, (lo + m) * 3 + 1, none⟩ (.float .f32 y')).setCell ⟨gr, (lo + m) * 3 + 2, none⟩ (.float .f32 z')).drew (some ⟨b, of, none⟩) ys) := by
            have hra1 := (HRA.out b of rfl).1
            have hl4 := HLT.out
            refine Frame.hid (RdS.below (HRD5.out.blk ?_ (by simp)) (Below.refl _ _).drew)
            rw [Below.heap_setCell _ _ _ _ (by simp; omega), Below.heap_setCell _ _ _ _ (by simp; omega), Below.heap_setCell _ _ _ _ (by simp; omega)]
          clear hS0 d2 c0 r0 r1 r2 fr0 fr1 fr2 hgz hi1 hix hin x0 x1 x2 hpl HRD5 HCN
          have hw1 : IntKind.i64.wrap ((m : Int) - 1) = (m : Int) - 1 := by rw [IntKind.wrap_i64]; omega
          clear hmp hmm
          go_wp2_with fail
          generalize (((w6.setCell ⟨gr, (lo + m) * 3, none⟩ (.float .f32 x')).setCell ⟨gr, (lo + m) * 3 + 1, none⟩ (.float .f32 y')).setCell ⟨gr, (lo + m) * 3 + 2, none⟩ (.float .f32 z')).drew = w7 at HCP HRD6 ⊢
          refine (l04Next_calls (some ⟨b, of, none⟩) ys (p - k) c u HYL.out.symm (by omega) w7 HRD6.out).mono ?_
          rintro e w8 ⟨v8, zs, rfl, hN, hO8, hB8⟩
          have hcut2 : CutR u (k + 1) (rowP xs p j) zs := ⟨ys, HCUT.out, hN⟩
          have hzl : zs.length = p - (k + 1) := by have h := CutR.len hcut2; rw [rowP_len] at h; exact h
          obtain ⟨A8, c8, rfl, hr8⟩ := OwnedS.rd hO8
          have HRA8 : Hid (RowA w.heap.size gR A8 (.slice A5 (zs1.length + 1) c5)) := by
            refine Frame.hid fun b' of' e => ?_
            subst e
            have h8 := (World.ownsRow.lt hO8 b' rfl).1
            have hl7 := HCP.out.l.l
            refine ⟨.inr (by omega), fun e => ?_⟩
            have := (World.ownsRow.lt HCP.out.o1 b' e.symm).2
            omega
          have HC8 := Frame.hid (HCP.out.below hB8)
          have HR8 := Frame.hid hr8
          have HCUT8 := Frame.hid hcut2
          have HZL := Frame.hid hzl
          rw [hzl]
          clear hN hO8 hB8 hcut2 hzl hr8
          go_wp2_with fail
          go_roundw
          case rel => exact ⟨k + 1, .slice A5 (zs1.length + 1) c5, zs1 ++ [(x, y, z)], zr.set (lo + m) (x', y', z'), zs, A8, c8, by omega, rfl, by have := HM.out; congr 1; omega, HZL.out, HCUT8.out, HR8.out, HRA8.out, HFN.out, HRP.out, HC8.out⟩
          case measure => first | (simp [intOf]; done) | (simp [intOf]; omega)
        · obtain rfl : k = p := by omega
          clear hlk
          have hnv : (k : Int) - 1 - (k : Nat) = -1 := by omega
          rw [hnv]
          clear hnv
          go_wp2_with fail
          go_roundw
          case rel => exact ⟨j + 1, v1, zs1, zr, by omega, by go_num, by rw [Nat.succ_mul]; exact HF.out, HR.out.next, HC.out⟩
          case measure => simp [intOf]; omega
    · obtain rfl : j = q := by omega
      clear hlt
      obtain ⟨A1, k1, rfl, hr1⟩ := OwnedS.rd HC.out.o1
      obtain ⟨A2, k2, e2, hr2⟩ := OwnedS.rd HC.out.o2
      injection e2 with e2 _ e3
      subst e2 e3
      have hl1 : zs1.length = n := by rw [HF.out.1, HL.out, Nat.mul_comm]
      have hl2 : zr.length = n := HR.out.1
      have HFF := Frame.hid (show FormP u p xs n zs1 by rw [← hl1, HF.out.1]; exact HF.out)
      have HLAT := Frame.hid (HR.out.fin HL.out)
      have HV1 := Frame.hid (l04Is_calls gL A1 zs1 k1 zs1.length rfl (p : Int) (j : Int) wr (by omega) HC.out.f hr1)
      have HV2 := Frame.hid (fun (W : World) (hW : Below wr.heap.size wr W) => l04Is_calls gR (some ⟨gr, 0, none⟩) zr cr zr.length rfl (p : Int) (j : Int) W (by omega) (HC.out.l.below hW) (hr2.below hW))
      clear hl1 hl2 hr1 hr2
      go_wp2_with fail
      refine HV1.out.mono ?_
      rintro e w2 ⟨rfl, hB2⟩
      have HC2 := Frame.hid (HC.out.below hB2)
      have HB2 := Frame.hid hB2
      clear hB2 c0 c1 c2
      cases hv1 : shB p j zs1
      · have HV := Frame.hid hv1
        clear hv1
        have a0 := HC2.out.r4.c0
        have a1 := HC2.out.r4.c1
        have a2 := HC2.out.r4.c2
        have b0 : w2.cell? ⟨w.heap.size + 1 + 1, 0, none⟩ = some (.int .i64 0) := HC2.out.r5.c0
        have b1 : w2.cell? ⟨w.heap.size + 1 + 1, 1, none⟩ = some (.int .i64 0) := HC2.out.r5.c1
        have b2 : w2.cell? ⟨w.heap.size + 1 + 1, 2, none⟩ = some (.slice none 0 0) := HC2.out.r5.c2
        have fa0 := HC2.out.fz (w.heap.size + 1) 0 (by omega) (.inr (.inr (.inl rfl)))
        have fa1 := HC2.out.fz (w.heap.size + 1) 1 (by omega) (.inr (.inr (.inl rfl)))
        have fa2 := HC2.out.fz (w.heap.size + 1) 2 (by omega) (.inr (.inr (.inl rfl)))
        have fb0 : w2.frozen? ⟨w.heap.size + 1 + 1, 0, none⟩ = false := HC2.out.fz (w.heap.size + 2) 0 (by omega) (.inr (.inr (.inr rfl)))
        have fb1 : w2.frozen? ⟨w.heap.size + 1 + 1, 1, none⟩ = false := HC2.out.fz (w.heap.size + 2) 1 (by omega) (.inr (.inr (.inr rfl)))
        have fb2 : w2.frozen? ⟨w.heap.size + 1 + 1, 2, none⟩ = false := HC2.out.fz (w.heap.size + 2) 2 (by omega) (.inr (.inr (.inr rfl)))
        go_wp2_with fail
        have HSA := Frame.hid (sh3_other (sh3_other (sh3_other (sh3_store (a' := 0) (b' := 0) (s' := .slice none 0 0) HC2.out.r4) (k := w.heap.size + 1 + 1) (i := 0) (v := .int .i64 0) (by omega)) (k := w.heap.size + 1 + 1) (i := 1) (v := .int .i64 0) (by omega)) (k := w.heap.size + 1 + 1) (i := 2) (v := .slice none 0 0) (by omega))
        have HSB := Frame.hid (sh3_store (a' := 0) (b' := 0) (s' := .slice none 0 0) (show Sh3 _ (w.heap.size + 1 + 1) 0 0 (.slice none 0 0) from sh3_other (sh3_other (sh3_other HC2.out.r5 (k := w.heap.size + 1) (i := 0) (v := .int .i64 0) (by omega)) (k := w.heap.size + 1) (i := 1) (v := .int .i64 0) (by omega)) (k := w.heap.size + 1) (i := 2) (v := .slice none 0 0) (by omega)))
        have HBF := Frame.hid (Below.setCell (Below.setCell (Below.setCell (Below.setCell (Below.setCell (Below.setCell HC2.out.bel (p := ⟨w.heap.size + 1, 0, none⟩) (by simp) (.int .i64 0)) (p := ⟨w.heap.size + 1, 1, none⟩) (by simp) (.int .i64 0)) (p := ⟨w.heap.size + 1, 2, none⟩) (by simp) (.slice none 0 0)) (p := ⟨w.heap.size + 1 + 1, 0, none⟩) (by simp; omega) (.int .i64 0)) (p := ⟨w.heap.size + 1 + 1, 1, none⟩) (by simp; omega) (.int .i64 0)) (p := ⟨w.heap.size + 1 + 1, 2, none⟩) (by simp; omega) (.slice none 0 0))
        obtain ⟨r0, r1, r2, -⟩ := HSA.out
        obtain ⟨s0, s1, s2, -⟩ := HSB.out
        refine bodyPost_ret (v := .tuple #[.agg #[.int .i64 0, .int .i64 0, .slice none 0 0], .agg #[.int .i64 0, .int .i64 0, .slice none 0 0], .bool false]) (by clear HSA HSB HBF; simp [results, Try.results16, go_sem, r0, r1, r2, s0, s1, s2]) rfl ⟨.slice none 0 0, .slice none 0 0, zs1, zr, HFF.out, HLAT.out, .inr ⟨by rw [HV.out]; rfl, rfl⟩, HBF.out⟩
      · have HV := Frame.hid hv1
        clear hv1
        go_wp2_with fail
        refine (HV2.out _ HB2.out).mono ?_
        rintro e w3 ⟨rfl, hB3⟩
        have HC3 := Frame.hid (HC2.out.below hB3)
        clear hB3
        cases hv2 : shB p j zr
        · have HVV := Frame.hid hv2
          clear hv2
          have a0 := HC3.out.r4.c0
          have a1 := HC3.out.r4.c1
          have a2 := HC3.out.r4.c2
          have b0 : w3.cell? ⟨w.heap.size + 1 + 1, 0, none⟩ = some (.int .i64 0) := HC3.out.r5.c0
          have b1 : w3.cell? ⟨w.heap.size + 1 + 1, 1, none⟩ = some (.int .i64 0) := HC3.out.r5.c1
          have b2 : w3.cell? ⟨w.heap.size + 1 + 1, 2, none⟩ = some (.slice none 0 0) := HC3.out.r5.c2
          have fa0 := HC3.out.fz (w.heap.size + 1) 0 (by omega) (.inr (.inr (.inl rfl)))
          have fa1 := HC3.out.fz (w.heap.size + 1) 1 (by omega) (.inr (.inr (.inl rfl)))
          have fa2 := HC3.out.fz (w.heap.size + 1) 2 (by omega) (.inr (.inr (.inl rfl)))
          have fb0 : w3.frozen? ⟨w.heap.size + 1 + 1, 0, none⟩ = false := HC3.out.fz (w.heap.size + 2) 0 (by omega) (.inr (.inr (.inr rfl)))
          have fb1 : w3.frozen? ⟨w.heap.size + 1 + 1, 1, none⟩ = false := HC3.out.fz (w.heap.size + 2) 1 (by omega) (.inr (.inr (.inr rfl)))
          have fb2 : w3.frozen? ⟨w.heap.size + 1 + 1, 2, none⟩ = false := HC3.out.fz (w.heap.size + 2) 2 (by omega) (.inr (.inr (.inr rfl)))
          go_wp2_with fail
          have HSA := Frame.hid (sh3_other (sh3_other (sh3_other (sh3_store (a' := 0) (b' := 0) (s' := .slice none 0 0) HC3.out.r4) (k := w.heap.size + 1 + 1) (i := 0) (v := .int .i64 0) (by omega)) (k := w.heap.size + 1 + 1) (i := 1) (v := .int .i64 0) (by omega)) (k := w.heap.size + 1 + 1) (i := 2) (v := .slice none 0 0) (by omega))
          have HSB := Frame.hid (sh3_store (a' := 0) (b' := 0) (s' := .slice none 0 0) (show Sh3 _ (w.heap.size + 1 + 1) 0 0 (.slice none 0 0) from sh3_other (sh3_other (sh3_other HC3.out.r5 (k := w.heap.size + 1) (i := 0) (v := .int .i64 0) (by omega)) (k := w.heap.size + 1) (i := 1) (v := .int .i64 0) (by omega)) (k := w.heap.size + 1) (i := 2) (v := .slice none 0 0) (by omega)))
          have HBF := Frame.hid (Below.setCell (Below.setCell (Below.setCell (Below.setCell (Below.setCell (Below.setCell HC3.out.bel (p := ⟨w.heap.size + 1, 0, none⟩) (by simp) (.int .i64 0)) (p := ⟨w.heap.size + 1, 1, none⟩) (by simp) (.int .i64 0)) (p := ⟨w.heap.size + 1, 2, none⟩) (by simp) (.slice none 0 0)) (p := ⟨w.heap.size + 1 + 1, 0, none⟩) (by simp; omega) (.int .i64 0)) (p := ⟨w.heap.size + 1 + 1, 1, none⟩) (by simp; omega) (.int .i64 0)) (p := ⟨w.heap.size + 1 + 1, 2, none⟩) (by simp; omega) (.slice none 0 0))
          obtain ⟨r0, r1, r2, -⟩ := HSA.out
          obtain ⟨s0, s1, s2, -⟩ := HSB.out
          refine bodyPost_ret (v := .tuple #[.agg #[.int .i64 0, .int .i64 0, .slice none 0 0], .agg #[.int .i64 0, .int .i64 0, .slice none 0 0], .bool false]) (by clear HSA HSB HBF; simp [results, Try.results16, go_sem, r0, r1, r2, s0, s1, s2]) rfl ⟨.slice none 0 0, .slice none 0 0, zs1, zr, HFF.out, HLAT.out, .inr ⟨by rw [HVV.out, Bool.and_false], rfl⟩, HBF.out⟩
        · have HVV := Frame.hid hv2
          clear hv2
          go_wp2_with fail
          have hlt := HC3.out.lt
          have HN : Hid (gL ≠ w.heap.size + 1 ∧ gL ≠ w.heap.size + 1 + 1 ∧ gR ≠ w.heap.size + 1 ∧ gR ≠ w.heap.size + 1 + 1 ∧ w.heap.size + 1 + 1 < gL) := ⟨by omega, by omega, by omega, by omega, by omega⟩
          clear hlt
          refine region_hand 3 (fun W => Sh3 W gL p j (.slice A1 zs1.length k1) ∧ Sh3 W gR p j (.slice (some ⟨gr, 0, none⟩) zr.length cr)) (by kernel_rfl) ?_
          have hBd : Below w3.heap.size w3 w3.drew := (Below.refl _ _).drew
          have HCd := Frame.hid (HC3.out.below hBd)
          clear hBd
          generalize w3.drew = wd at HCd ⊢
          have hS0 := And.intro HCd.out.f HCd.out.l
          refine' wpEnd_take 0 rfl (by kernel_rfl) hS0 (Or.inl ⟨by rfl, fun wq' hSq => _⟩) _
          rotate_left
          · (obtain ⟨⟨q0, q1, q2, -⟩, -⟩ := hSq; go_simp; (try with_reducible rfl))
          simp only [Act.put, List.setIfInBounds_toArray, List.set_cons_zero, List.set_cons_succ]
          refine' wpEnd_take 1 rfl (by kernel_rfl) hS0 (Or.inl ⟨by rfl, fun wq' hSq => _⟩) _
          rotate_left
          · (obtain ⟨-, ⟨q0, q1, q2, -⟩⟩ := hSq; go_simp; (try with_reducible rfl))
          simp only [Act.put, List.setIfInBounds_toArray, List.set_cons_zero, List.set_cons_succ]
          clear hS0
          have a0 := HCd.out.r4.c0
          have a1 := HCd.out.r4.c1
          have a2 := HCd.out.r4.c2
          have b0 : wd.cell? ⟨w.heap.size + 1 + 1, 0, none⟩ = some (.int .i64 0) := HCd.out.r5.c0
          have b1 : wd.cell? ⟨w.heap.size + 1 + 1, 1, none⟩ = some (.int .i64 0) := HCd.out.r5.c1
          have b2 : wd.cell? ⟨w.heap.size + 1 + 1, 2, none⟩ = some (.slice none 0 0) := HCd.out.r5.c2
          have fa0 := HCd.out.fz (w.heap.size + 1) 0 (by omega) (.inr (.inr (.inl rfl)))
          have fa1 := HCd.out.fz (w.heap.size + 1) 1 (by omega) (.inr (.inr (.inl rfl)))
          have fa2 := HCd.out.fz (w.heap.size + 1) 2 (by omega) (.inr (.inr (.inl rfl)))
          have fb0 : wd.frozen? ⟨w.heap.size + 1 + 1, 0, none⟩ = false := HCd.out.fz (w.heap.size + 2) 0 (by omega) (.inr (.inr (.inr rfl)))
          have fb1 : wd.frozen? ⟨w.heap.size + 1 + 1, 1, none⟩ = false := HCd.out.fz (w.heap.size + 2) 1 (by omega) (.inr (.inr (.inr rfl)))
          have fb2 : wd.frozen? ⟨w.heap.size + 1 + 1, 2, none⟩ = false := HCd.out.fz (w.heap.size + 2) 2 (by omega) (.inr (.inr (.inr rfl)))
          refine wpEnd_ready [2] (by kernel_rfl) rfl (AllE.cons rfl (fun K hK => ?_) AllE.nil)
          go_simp
          refine hK.out _ _ (.inr ⟨sh3_other (sh3_other (sh3_other HCd.out.f HN.out.1) HN.out.1) HN.out.1, sh3_other (sh3_other (sh3_other HCd.out.l HN.out.2.2.1) HN.out.2.2.1) HN.out.2.2.1⟩) ?_
          clear hK K
          (try simp only [Act.put, List.setIfInBounds_toArray, List.set_cons_zero, List.set_cons_succ])
          refine wpEnd_ready [3] (by kernel_rfl) rfl (AllE.cons rfl (fun K hK => ?_) AllE.nil)
          go_simp
          refine hK.out _ _ (by first | exact .inl rfl | exact .inl trivial) ?_
          clear hK K
          (try simp only [Act.put, List.setIfInBounds_toArray, List.set_cons_zero, List.set_cons_succ])
          refine wpEnd_ready [4] (by kernel_rfl) rfl (AllE.cons rfl (fun K hK => ?_) AllE.nil)
          go_simp
          refine hK.out _ _ (.inr ⟨sh3_other (sh3_other (sh3_other (sh3_other (sh3_other (sh3_other HCd.out.f HN.out.1) HN.out.1) HN.out.1) HN.out.2.1) HN.out.2.1) HN.out.2.1, sh3_other (sh3_other (sh3_other (sh3_other (sh3_other (sh3_other HCd.out.l HN.out.2.2.1) HN.out.2.2.1) HN.out.2.2.1) HN.out.2.2.2.1) HN.out.2.2.2.1) HN.out.2.2.2.1⟩) ?_
          clear hK K
          (try simp only [Act.put, List.setIfInBounds_toArray, List.set_cons_zero, List.set_cons_succ])
          refine wpEnd_done (by kernel_rfl) ?_
          clear a0 a1 a2 b0 b1 b2 fa0 fa1 fa2 fb0 fb1 fb2
          go_wp2_with fail
          have HSA := Frame.hid (sh3_other (sh3_other (sh3_other (sh3_store (a' := p) (b' := j) (s' := .slice A1 zs1.length k1) HCd.out.r4) (k := w.heap.size + 1 + 1) (i := 0) (v := .int .i64 p) (by omega)) (k := w.heap.size + 1 + 1) (i := 1) (v := .int .i64 j) (by omega)) (k := w.heap.size + 1 + 1) (i := 2) (v := .slice (some ⟨gr, 0, none⟩) zr.length cr) (by omega))
          have HSB := Frame.hid (sh3_store (a' := p) (b' := j) (s' := .slice (some ⟨gr, 0, none⟩) zr.length cr) (show Sh3 _ (w.heap.size + 1 + 1) 0 0 (.slice none 0 0) from sh3_other (sh3_other (sh3_other HCd.out.r5 (k := w.heap.size + 1) (i := 0) (v := .int .i64 p) (by omega)) (k := w.heap.size + 1) (i := 1) (v := .int .i64 j) (by omega)) (k := w.heap.size + 1) (i := 2) (v := .slice A1 zs1.length k1) (by omega)))
          have HBF := Frame.hid (Below.setCell (Below.setCell (Below.setCell (Below.setCell (Below.setCell (Below.setCell HCd.out.bel (p := ⟨w.heap.size + 1, 0, none⟩) (by simp) (.int .i64 p)) (p := ⟨w.heap.size + 1, 1, none⟩) (by simp) (.int .i64 j)) (p := ⟨w.heap.size + 1, 2, none⟩) (by simp) (.slice A1 zs1.length k1)) (p := ⟨w.heap.size + 1 + 1, 0, none⟩) (by simp; omega) (.int .i64 p)) (p := ⟨w.heap.size + 1 + 1, 1, none⟩) (by simp; omega) (.int .i64 j)) (p := ⟨w.heap.size + 1 + 1, 2, none⟩) (by simp; omega) (.slice (some ⟨gr, 0, none⟩) zr.length cr))
          have hlR := HCd.out.lt
          have hlt4 : w.heap.size + 1 < gR + 1 := by have := HN.out.2.2.2.2; omega
          have hlt5 : w.heap.size + 1 + 1 < gR + 1 := by have := HN.out.2.2.2.2; omega
          have hlt6 : w.heap.size + 1 < gL + 1 := by have := HN.out.2.2.2.2; omega
          have hlt7 : w.heap.size + 1 + 1 < gL + 1 := by have := HN.out.2.2.2.2; omega
          have HO1 := Frame.hid ((((((HCd.out.o1.setO (i := 0) (u := .int .i64 p) hlt4).setO (i := 1) (u := .int .i64 j) hlt4).setO (i := 2) (u := .slice A1 zs1.length k1) hlt4).setO (i := 0) (u := .int .i64 p) hlt5).setO (i := 1) (u := .int .i64 j) hlt5).setO (i := 2) (u := .slice (some ⟨gr, 0, none⟩) zr.length cr) hlt5)
          have HO2 := Frame.hid ((((((HCd.out.o2.setO (i := 0) (u := .int .i64 p) hlt6).setO (i := 1) (u := .int .i64 j) hlt6).setO (i := 2) (u := .slice A1 zs1.length k1) hlt6).setO (i := 0) (u := .int .i64 p) hlt7).setO (i := 1) (u := .int .i64 j) hlt7).setO (i := 2) (u := .slice (some ⟨gr, 0, none⟩) zr.length cr) hlt7)
          obtain ⟨r0, r1, r2, -⟩ := HSA.out
          obtain ⟨s0, s1, s2, -⟩ := HSB.out
          refine bodyPost_ret (v := .tuple #[.agg #[.int .i64 p, .int .i64 j, .slice A1 zs1.length k1], .agg #[.int .i64 p, .int .i64 j, .slice (some ⟨gr, 0, none⟩) zr.length cr], .bool true]) (by clear HSA HSB HBF HO1 HO2; simp [results, Try.results16, go_sem, r0, r1, r2, s0, s1, s2]) rfl ⟨.slice A1 zs1.length k1, .slice (some ⟨gr, 0, none⟩) zr.length cr, zs1, zr, HFF.out, HLAT.out, .inl ⟨by rw [HV.out, HVV.out]; rfl, rfl, HO1.out.mono' (by omega), HO2.out.mono' (by omega), .inr (fun e => ?_)⟩, HBF.out⟩
          have := (World.ownsRow.lt HCd.out.o1 gr e).1
          omega

end

section
open Go.RowKit Go.Shelf Fl Ieee Go.WideShapes Go.Deep
attribute [local go_sem] kstore_f kalloc_drewN kset_drewN hstore_i hstore_s

set_option maxRecDepth 100000 in
set_option maxHeartbeats 4000000 in
theorem specCutSheet_no (A : Option Addr) (xs : List (Nat × Nat × Nat)) (n c : Nat) (hxn : n = xs.length) (hn : n ≤ 1048576) (p q : Int) (u : Nat) (hno : (shB p q xs && isShareB u) = false) (w : World) (hA : RdS w A xs) :
    Calls Try.prog 16 #[.agg #[.int .i64 p, .int .i64 q, .slice A n c], .float .f32 u] w fun e w' => e = .returned (.tuple #[.agg #[.int .i64 0, .int .i64 0, .slice none 0 0], .agg #[.int .i64 0, .int .i64 0, .slice none 0 0], .bool false]) ∧ Below w.heap.size w w' := by
  have HVS := Frame.hid (fun (g : Nat) (W : World) (hS : Sh3 W g p q (.slice A n c)) (hW : Below w.heap.size w W) => l04Is_calls g A xs c n hxn p q W hn hS (hA.below hW))
  have HNO := Frame.hid hno
  clear hA hxn hno
  obtain ⟨w0, hw0⟩ : ∃ w0, w0 = ((w.alloc (.cells #[.int .i64 p, .int .i64 q, .slice A n c] 29)).alloc (.cells #[.int .i64 0, .int .i64 0, .slice none 0 0] 29)).alloc (.cells #[.int .i64 0, .int .i64 0, .slice none 0 0] 29) := ⟨_, rfl⟩
  have hW0 : Below w.heap.size w w0 := by rw [hw0]; exact (((Below.refl _ _).alloc (Nat.le_refl _) _).alloc (by simp) _).alloc (by simp; omega) _
  have hs0 : Sh3 w0 w.heap.size p q (.slice A n c) := by rw [hw0]; refine ⟨?_, ?_, ?_, by simp; omega⟩ <;> simp [go_sem]
  have hs1 : Sh3 w0 (w.heap.size + 1) 0 0 (.slice none 0 0) := by rw [hw0]; refine ⟨?_, ?_, ?_, by simp⟩ <;> simp [go_sem]
  have hs2 : Sh3 w0 (w.heap.size + 2) 0 0 (.slice none 0 0) := by rw [hw0]; refine ⟨?_, ?_, ?_, by simp⟩ <;> simp [go_sem]
  have hfz : ∀ b i, (b = w.heap.size + 1 ∨ b = w.heap.size + 2) → w0.frozen? ⟨b, i, none⟩ = false := by rw [hw0]; rintro b i (rfl | rfl) <;> simp [go_sem]
  have hz0 : w0.heap.size = w.heap.size + 3 := by rw [hw0]; simp
  go_enter Try.func16, Try.ntmps16
  go_wp2_with fail
  go_at_call 56
  rw [← hw0]
  clear hw0
  refine (HVS.out _ _ hs0 hW0).mono ?_
  rintro e w1 ⟨rfl, hB1⟩
  have HW1 := Frame.hid (hW0.trans (hB1.mono hW0.size))
  have HS1 := Frame.hid (hs1.below hB1)
  have HS2 := Frame.hid (hs2.below hB1)
  have HFZ := Frame.hid (fun b i (hb : b = w.heap.size + 1 ∨ b = w.heap.size + 2) => (hB1.frozen (p := ⟨b, i, none⟩) (by show b < w0.heap.size; omega)).trans (hfz b i hb))
  have a0 := HS1.out.c0
  have a1 := HS1.out.c1
  have a2 := HS1.out.c2
  have b0 : w1.cell? ⟨w.heap.size + 1 + 1, 0, none⟩ = some (.int .i64 0) := HS2.out.c0
  have b1 : w1.cell? ⟨w.heap.size + 1 + 1, 1, none⟩ = some (.int .i64 0) := HS2.out.c1
  have b2 : w1.cell? ⟨w.heap.size + 1 + 1, 2, none⟩ = some (.slice none 0 0) := HS2.out.c2
  have fa0 := HFZ.out (w.heap.size + 1) 0 (.inl rfl)
  have fa1 := HFZ.out (w.heap.size + 1) 1 (.inl rfl)
  have fa2 := HFZ.out (w.heap.size + 1) 2 (.inl rfl)
  have fb0 : w1.frozen? ⟨w.heap.size + 1 + 1, 0, none⟩ = false := HFZ.out (w.heap.size + 2) 0 (.inr rfl)
  have fb1 : w1.frozen? ⟨w.heap.size + 1 + 1, 1, none⟩ = false := HFZ.out (w.heap.size + 2) 1 (.inr rfl)
  have fb2 : w1.frozen? ⟨w.heap.size + 1 + 1, 2, none⟩ = false := HFZ.out (w.heap.size + 2) 2 (.inr rfl)
  clear hs0 hs1 hs2 hfz hB1 hW0 hz0 HVS
  cases hv : shB p q xs
  · clear hv
    go_wp2_with fail
    have HSA := Frame.hid (sh3_other (sh3_other (sh3_other (sh3_store (a' := 0) (b' := 0) (s' := .slice none 0 0) HS1.out) (k := w.heap.size + 1 + 1) (i := 0) (v := .int .i64 0) (by omega)) (k := w.heap.size + 1 + 1) (i := 1) (v := .int .i64 0) (by omega)) (k := w.heap.size + 1 + 1) (i := 2) (v := .slice none 0 0) (by omega))
    have HSB := Frame.hid (sh3_store (a' := 0) (b' := 0) (s' := .slice none 0 0) (show Sh3 _ (w.heap.size + 1 + 1) 0 0 (.slice none 0 0) from sh3_other (sh3_other (sh3_other HS2.out (k := w.heap.size + 1) (i := 0) (v := .int .i64 0) (by omega)) (k := w.heap.size + 1) (i := 1) (v := .int .i64 0) (by omega)) (k := w.heap.size + 1) (i := 2) (v := .slice none 0 0) (by omega)))
    have HBF := Frame.hid (Below.setCell (Below.setCell (Below.setCell (Below.setCell (Below.setCell (Below.setCell HW1.out (p := ⟨w.heap.size + 1, 0, none⟩) (by simp) (.int .i64 0)) (p := ⟨w.heap.size + 1, 1, none⟩) (by simp) (.int .i64 0)) (p := ⟨w.heap.size + 1, 2, none⟩) (by simp) (.slice none 0 0)) (p := ⟨w.heap.size + 1 + 1, 0, none⟩) (by simp; omega) (.int .i64 0)) (p := ⟨w.heap.size + 1 + 1, 1, none⟩) (by simp; omega) (.int .i64 0)) (p := ⟨w.heap.size + 1 + 1, 2, none⟩) (by simp; omega) (.slice none 0 0))
    obtain ⟨r0, r1, r2, -⟩ := HSA.out
    obtain ⟨s0, s1, s2, -⟩ := HSB.out
    refine bodyPost_ret (v := .tuple #[.agg #[.int .i64 0, .int .i64 0, .slice none 0 0], .agg #[.int .i64 0, .int .i64 0, .slice none 0 0], .bool false]) (by clear HSA HSB HBF; simp [results, Try.results16, go_sem, r0, r1, r2, s0, s1, s2]) rfl ⟨rfl, HBF.out⟩
  · have hs : isShareB u = false := by have h := HNO.out; rw [hv] at h; simpa using h
    have HS := Frame.hid hs
    clear hv hs
    go_wp2_with fail
    go_at_call 57
    refine (l02Share_calls _ _).mono ?_
    rintro e w' ⟨rfl, rfl⟩
    rw [HS.out]
    go_wp2_with fail
    have HSA := Frame.hid (sh3_other (sh3_other (sh3_other (sh3_store (a' := 0) (b' := 0) (s' := .slice none 0 0) HS1.out) (k := w.heap.size + 1 + 1) (i := 0) (v := .int .i64 0) (by omega)) (k := w.heap.size + 1 + 1) (i := 1) (v := .int .i64 0) (by omega)) (k := w.heap.size + 1 + 1) (i := 2) (v := .slice none 0 0) (by omega))
    have HSB := Frame.hid (sh3_store (a' := 0) (b' := 0) (s' := .slice none 0 0) (show Sh3 _ (w.heap.size + 1 + 1) 0 0 (.slice none 0 0) from sh3_other (sh3_other (sh3_other HS2.out (k := w.heap.size + 1) (i := 0) (v := .int .i64 0) (by omega)) (k := w.heap.size + 1) (i := 1) (v := .int .i64 0) (by omega)) (k := w.heap.size + 1) (i := 2) (v := .slice none 0 0) (by omega)))
    have HBF := Frame.hid (Below.setCell (Below.setCell (Below.setCell (Below.setCell (Below.setCell (Below.setCell HW1.out (p := ⟨w.heap.size + 1, 0, none⟩) (by simp) (.int .i64 0)) (p := ⟨w.heap.size + 1, 1, none⟩) (by simp) (.int .i64 0)) (p := ⟨w.heap.size + 1, 2, none⟩) (by simp) (.slice none 0 0)) (p := ⟨w.heap.size + 1 + 1, 0, none⟩) (by simp; omega) (.int .i64 0)) (p := ⟨w.heap.size + 1 + 1, 1, none⟩) (by simp; omega) (.int .i64 0)) (p := ⟨w.heap.size + 1 + 1, 2, none⟩) (by simp; omega) (.slice none 0 0))
    obtain ⟨r0, r1, r2, -⟩ := HSA.out
    obtain ⟨s0, s1, s2, -⟩ := HSB.out
    refine bodyPost_ret (v := .tuple #[.agg #[.int .i64 0, .int .i64 0, .slice none 0 0], .agg #[.int .i64 0, .int .i64 0, .slice none 0 0], .bool false]) (by clear HSA HSB HBF; simp [results, Try.results16, go_sem, r0, r1, r2, s0, s1, s2]) rfl ⟨rfl, HBF.out⟩

end

section
open Go.RowKit Go.Shelf Fl Ieee Go.WideShapes Go.Deep

theorem LS.symmE {xs ys : List (Nat × Nat × Nat)} (h : LS xs ys) : LS ys xs := ⟨h.l.symm, fun j hj => by obtain ⟨a, b, c⟩ := h.s j (by rw [h.l]; exact hj); exact ⟨a.symm, b.symm, c.symm⟩⟩
theorem LS.finE1 {xs ys : List (Nat × Nat × Nat)} (h : LS xs ys) (hx : finS xs = true) : finS ys = true := by
  cases hy : finS ys with
  | true => rfl
  | false =>
    exfalso
    have hall : ∀ j, j < ys.length → fin3 (sx ys j) (sy ys j) (sz ys j) = true := fun j hj => by
      rw [← (h.s j (by rw [h.l]; exact hj)).fin]
      cases hf : fin3 (sx xs j) (sy xs j) (sz xs j) with
      | true => rfl
      | false => rw [finS_bad (by rw [h.l]; exact hj) hf] at hx; cases hx
    rw [finS_upto hall] at hy
    cases hy
theorem LS.finE {xs ys : List (Nat × Nat × Nat)} (h : LS xs ys) : finS xs = finS ys := by
  cases hx : finS xs with
  | true => exact (h.finE1 hx).symm
  | false => cases hy : finS ys with
    | true => rw [h.symmE.finE1 hy] at hx; cases hx
    | false => rfl
theorem shB_same {a b : Int} {xs ys : List (Nat × Nat × Nat)} (h : LS xs ys) : shB a b xs = shB a b ys := by
  unfold shB
  rw [h.l, h.finE]
def CutO (p q : Int) (xs : List (Nat × Nat × Nat)) (u : Nat) (a b : Int) (zs1 zs2 : List (Nat × Nat × Nat)) (ok : Bool) : Prop :=
  (∃ P n ys1 ys2, 2 ≤ P ∧ p = ((P : Nat) : Int) ∧ n = xs.length ∧ FormP u P xs n ys1 ∧ LatP u P xs n ys2 ∧ (shB p q xs && isShareB u) = true ∧ ((shB p q ys1 && shB p q ys2) = true ∧ ok = true ∧ a = p ∧ b = q ∧ zs1 = ys1 ∧ zs2 = ys2 ∨ (shB p q ys1 && shB p q ys2) = false ∧ ok = false ∧ a = 0 ∧ b = 0 ∧ zs1 = [] ∧ zs2 = [])) ∨
  ((shB p q xs && isShareB u) = false ∧ ok = false ∧ a = 0 ∧ b = 0 ∧ zs1 = [] ∧ zs2 = [])
theorem CutO.same {p q a b a' b' : Int} {xs zs1 zs2 zs1' zs2' : List (Nat × Nat × Nat)} {u : Nat} {ok ok' : Bool} (h : CutO p q xs u a b zs1 zs2 ok) (g : CutO p q xs u a' b' zs1' zs2' ok') : ok = ok' ∧ a = a' ∧ b = b' ∧ LS zs1 zs1' ∧ LS zs2 zs2' := by
  rcases h with ⟨P, n, ys1, ys2, hP, hp, hn, hF, hL, hg, h⟩ | ⟨hg, rfl, rfl, rfl, rfl, rfl⟩
  · rcases g with ⟨P', n', ys1', ys2', _, hp', hn', hF', hL', _, g⟩ | ⟨hg', _⟩
    · have e1 : P' = P := by omega
      have e2 : n' = n := by rw [hn, hn']
      subst e1 e2
      have s1 : LS ys1 ys1' := PartP.same (by omega) (fun i hi => by omega) hF hF'
      have s2 : LS ys2 ys2' := PartP.same (by omega) (fun i hi => by omega) hL hL'
      rw [← shB_same s1, ← shB_same s2] at g
      rcases h with ⟨h1, rfl, rfl, rfl, rfl, rfl⟩ | ⟨h1, rfl, rfl, rfl, rfl, rfl⟩
      · rcases g with ⟨_, rfl, rfl, rfl, rfl, rfl⟩ | ⟨g1, _⟩
        · exact ⟨rfl, rfl, rfl, s1, s2⟩
        · rw [h1] at g1; cases g1
      · rcases g with ⟨g1, _⟩ | ⟨_, rfl, rfl, rfl, rfl, rfl⟩
        · rw [h1] at g1; cases g1
        · exact ⟨rfl, rfl, rfl, LS.refl _, LS.refl _⟩
    · rw [hg] at hg'; cases hg'
  · rcases g with ⟨P', n', ys1', ys2', _, hp', hn', hF', hL', hg', g⟩ | ⟨_, rfl, rfl, rfl, rfl, rfl⟩
    · rw [hg] at hg'; cases hg'
    · exact ⟨rfl, rfl, rfl, LS.refl _, LS.refl _⟩
theorem cutSheet_calls (A : Option Addr) (xs : List (Nat × Nat × Nat)) (n : Nat) (hxn : n = xs.length) (hn : n ≤ 1048576) (p q : Int) (u : Nat) (w : World) (hA : RdS w A xs) :
    Calls Try.prog 18 #[.agg #[.int .i64 p, .int .i64 q, .slice A n n], .float .f32 u] w fun e w' => ∃ a b v1 v2 zs1 zs2 ok, e = .returned (.tuple #[.agg #[.int .i64 a, .int .i64 b, v1], .agg #[.int .i64 a, .int .i64 b, v2], .bool ok]) ∧ CutO p q xs u a b zs1 zs2 ok ∧ OwnedS w' w.heap.size v1 zs1 ∧ OwnedS w' w.heap.size v2 zs2 ∧ (v1.ownBlock = none ∨ v1.ownBlock ≠ v2.ownBlock) ∧ Below w.heap.size w w' := by
  cases hg : (shB p q xs && isShareB u)
  · refine (cutSheet_no A xs n n hxn hn p q u hg w hA).mono ?_
    rintro e w' ⟨rfl, hB⟩
    exact ⟨0, 0, _, _, [], [], false, rfl, .inr ⟨hg, rfl, rfl, rfl, rfl, rfl⟩, OwnedS.nil _ _, OwnedS.nil _ _, .inl rfl, hB⟩
  · obtain ⟨hs, hu⟩ := Bool.and_eq_true _ _ ▸ hg
    obtain ⟨P, Q, rfl, rfl, hP, hQ, hl⟩ := shB_open hxn hs
    have h4 : 4 ≤ n := by rw [hl]; exact Nat.mul_le_mul hP.1 hQ.1
    obtain ⟨bk, off, rfl, -, -⟩ := hA.h (by omega)
    refine (cutSheet_yes bk off n P Q u xs hP hQ hxn hl hs hu w hA).mono ?_
    rintro e w' ⟨v1, v2, zs1, zs2, hF, hL, hor, hB⟩
    rcases hor with ⟨hok, rfl, h1, h2, h3⟩ | ⟨hok, rfl⟩
    · exact ⟨P, Q, v1, v2, zs1, zs2, true, rfl, .inl ⟨P, n, zs1, zs2, hP.1, rfl, hxn, hF, hL, hg, .inl ⟨hok, rfl, rfl, rfl, rfl, rfl⟩⟩, h1, h2, h3, hB⟩
    · exact ⟨0, 0, _, _, [], [], false, rfl, .inl ⟨P, n, zs1, zs2, hP.1, rfl, hxn, hF, hL, hg, .inr ⟨hok, rfl, rfl, rfl, rfl, rfl⟩⟩, OwnedS.nil _ _, OwnedS.nil _ _, .inl rfl, hB⟩
theorem specCutSheet_calls (A : Option Addr) (xs : List (Nat × Nat × Nat)) (n : Nat) (hxn : n = xs.length) (hn : n ≤ 1048576) (p q : Int) (u : Nat) (w : World) (hA : RdS w A xs) :
    Calls Try.prog 16 #[.agg #[.int .i64 p, .int .i64 q, .slice A n n], .float .f32 u] w fun e w' => ∃ a b v1 v2 zs1 zs2 ok, e = .returned (.tuple #[.agg #[.int .i64 a, .int .i64 b, v1], .agg #[.int .i64 a, .int .i64 b, v2], .bool ok]) ∧ CutO p q xs u a b zs1 zs2 ok ∧ OwnedS w' w.heap.size v1 zs1 ∧ OwnedS w' w.heap.size v2 zs2 ∧ (v1.ownBlock = none ∨ v1.ownBlock ≠ v2.ownBlock) ∧ Below w.heap.size w w' := by
  cases hg : (shB p q xs && isShareB u)
  · refine (specCutSheet_no A xs n n hxn hn p q u hg w hA).mono ?_
    rintro e w' ⟨rfl, hB⟩
    exact ⟨0, 0, _, _, [], [], false, rfl, .inr ⟨hg, rfl, rfl, rfl, rfl, rfl⟩, OwnedS.nil _ _, OwnedS.nil _ _, .inl rfl, hB⟩
  · obtain ⟨hs, hu⟩ := Bool.and_eq_true _ _ ▸ hg
    obtain ⟨P, Q, rfl, rfl, hP, hQ, hl⟩ := shB_open hxn hs
    have h4 : 4 ≤ n := by rw [hl]; exact Nat.mul_le_mul hP.1 hQ.1
    obtain ⟨bk, off, rfl, -, -⟩ := hA.h (by omega)
    refine (specCutSheet_yes bk off n P Q u xs hP hQ hxn hl hs hu w hA).mono ?_
    rintro e w' ⟨v1, v2, zs1, zs2, hF, hL, hor, hB⟩
    rcases hor with ⟨hok, rfl, h1, h2, h3⟩ | ⟨hok, rfl⟩
    · exact ⟨P, Q, v1, v2, zs1, zs2, true, rfl, .inl ⟨P, n, zs1, zs2, hP.1, rfl, hxn, hF, hL, hg, .inl ⟨hok, rfl, rfl, rfl, rfl, rfl⟩⟩, h1, h2, h3, hB⟩
    · exact ⟨0, 0, _, _, [], [], false, rfl, .inl ⟨P, n, zs1, zs2, hP.1, rfl, hxn, hF, hL, hg, .inr ⟨hok, rfl, rfl, rfl, rfl, rfl⟩⟩, OwnedS.nil _ _, OwnedS.nil _ _, .inl rfl, hB⟩

end

section
open Go.RowKit Go.Shelf Fl Ieee Go.WideShapes Go.Deep

theorem fsame_finE {x y : Nat} (h : FSame .f32 x y) (hf : fin .f32 x = true) : x = y := by
  rcases h with h | ⟨h1, _⟩
  · exact h
  · rw [fin_eq, h1] at hf; cases hf
theorem LS.eqE {xs ys : List (Nat × Nat × Nat)} (h : LS xs ys) (hf : finS xs = true) : xs = ys := by
  refine List.ext_getElem? fun k => ?_
  rcases Nat.lt_or_ge k xs.length with hlt | hge
  · have hlt' : k < ys.length := by have := h.l; omega
    have e1 := List.getElem?_eq_getElem hlt
    have e2 := List.getElem?_eq_getElem hlt'
    have hm := (List.all_eq_true.1 hf) _ (List.getElem_mem hlt)
    obtain ⟨s1, s2, s3⟩ := h.s k (by first | exact hlt | exact hlt')
    unfold fin3 at hm
    simp only [Bool.and_eq_true] at hm
    have d1 : xs.getD k (0, 0, 0) = xs[k] := by rw [List.getD_eq_getElem?_getD, e1]; rfl
    have d2 : ys.getD k (0, 0, 0) = ys[k] := by rw [List.getD_eq_getElem?_getD, e2]; rfl
    unfold sx at s1
    unfold sy at s2
    unfold sz at s3
    rw [d1, d2] at s1 s2 s3
    rw [e1, e2]
    congr 1
    exact Prod.ext (fsame_finE s1 hm.1.1) (Prod.ext (fsame_finE s2 hm.1.2) (fsame_finE s3 hm.2))
  · rw [List.getElem?_eq_none hge, List.getElem?_eq_none (by have := h.l; omega)]
theorem CutO.fin {p q a b : Int} {xs zs1 zs2 : List (Nat × Nat × Nat)} {u : Nat} {ok : Bool} (h : CutO p q xs u a b zs1 zs2 ok) : finS zs1 = true ∧ finS zs2 = true ∧ zs2.length = zs1.length ∧ zs1.length ≤ 36 := by
  rcases h with ⟨P, n, ys1, ys2, _, _, hn, hF, hL, hg, ⟨h1, rfl, rfl, rfl, rfl, rfl⟩ | ⟨h1, rfl, rfl, rfl, rfl, rfl⟩⟩ | ⟨hg, rfl, rfl, rfl, rfl, rfl⟩
  · simp only [Bool.and_eq_true] at h1 hg
    obtain ⟨s1, s2⟩ := h1
    have hs := (shB_len hg.1).2
    unfold shB at s1 s2
    simp only [Bool.and_eq_true] at s1 s2
    exact ⟨s1.2, s2.2, by rw [hF.1, hL.1], by rw [hF.1, hn]; exact hs⟩
  · exact ⟨rfl, rfl, rfl, Nat.zero_le _⟩
  · exact ⟨rfl, rfl, rfl, Nat.zero_le _⟩
/-- There is one answer for all calls. -/
theorem cutO_one (p q : Int) (xs : List (Nat × Nat × Nat)) (u : Nat) : ∃ (K : Bool) (a0 b0 : Int) (Z1 Z2 : List (Nat × Nat × Nat)), Z2.length = Z1.length ∧ Z1.length ≤ 36 ∧ ∀ a b zs1 zs2 ok, CutO p q xs u a b zs1 zs2 ok → ok = K ∧ a = a0 ∧ b = b0 ∧ zs1 = Z1 ∧ zs2 = Z2 := by
  by_cases h : ∃ K a0 b0 Z1 Z2, CutO p q xs u a0 b0 Z1 Z2 K
  · obtain ⟨K, a0, b0, Z1, Z2, h⟩ := h
    obtain ⟨f1, f2, l1, l2⟩ := h.fin
    refine ⟨K, a0, b0, Z1, Z2, l1, l2, fun a b zs1 zs2 ok g => ?_⟩
    obtain ⟨e1, e2, e3, s1, s2⟩ := h.same g
    exact ⟨e1.symm, e2.symm, e3.symm, (s1.eqE f1).symm, (s2.eqE f2).symm⟩
  · exact ⟨false, 0, 0, [], [], rfl, Nat.zero_le _, fun a b zs1 zs2 ok g => absurd ⟨_, _, _, _, _, g⟩ h⟩
def OutC (K : Bool) (a0 b0 : Int) (N : Nat) (Z1 Z2 : List (Nat × Nat × Nat)) (w : World) (e : Ending) (w' : World) : Prop :=
  ∃ v1 v2, e = .returned (.tuple #[.agg #[.int .i64 a0, .int .i64 b0, v1], .agg #[.int .i64 a0, .int .i64 b0, v2], .bool K]) ∧ Z1.length = N ∧ Z2.length = N ∧ OwnedS w' w.heap.size v1 Z1 ∧ OwnedS w' w.heap.size v2 Z2 ∧ (v1.ownBlock = none ∨ v1.ownBlock ≠ v2.ownBlock) ∧ Below w.heap.size w w'
theorem cutSheet_out (p q : Int) (xs : List (Nat × Nat × Nat)) (u : Nat) : ∃ (K : Bool) (a0 b0 : Int) (N : Nat) (Z1 Z2 : List (Nat × Nat × Nat)), Z1.length = N ∧ Z2.length = N ∧ N ≤ 36 ∧ ∀ (A : Option Addr) (n : Nat), n = xs.length → n ≤ 1048576 → ∀ w, RdS w A xs → Calls Try.prog 18 #[.agg #[.int .i64 p, .int .i64 q, .slice A n n], .float .f32 u] w (OutC K a0 b0 N Z1 Z2 w) ∧ Calls Try.prog 16 #[.agg #[.int .i64 p, .int .i64 q, .slice A n n], .float .f32 u] w (OutC K a0 b0 N Z1 Z2 w) := by
  obtain ⟨K, a0, b0, Z1, Z2, l1, l2, hone⟩ := cutO_one p q xs u
  refine ⟨K, a0, b0, Z1.length, Z1, Z2, rfl, l1, l2, fun A n hxn hn w hA => ⟨?_, ?_⟩⟩
  · refine (cutSheet_calls A xs n hxn hn p q u w hA).mono ?_
    rintro e w' ⟨a, b, v1, v2, zs1, zs2, ok, rfl, hO, h1, h2, h3, hB⟩
    obtain ⟨rfl, rfl, rfl, rfl, rfl⟩ := hone _ _ _ _ _ hO
    exact ⟨v1, v2, rfl, rfl, l1, h1, h2, h3, hB⟩
  · refine (specCutSheet_calls A xs n hxn hn p q u w hA).mono ?_
    rintro e w' ⟨a, b, v1, v2, zs1, zs2, ok, rfl, hO, h1, h2, h3, hB⟩
    obtain ⟨rfl, rfl, rfl, rfl, rfl⟩ := hone _ _ _ _ _ hO
    exact ⟨v1, v2, rfl, rfl, l1, h1, h2, h3, hB⟩

end

section
open Go.RowKit Fl Go.WideShapes Go.Deep
attribute [local go_sem] kstore_f kalloc_drewN kset_drewN hstore_i hstore_s

/-- It is marked, up to the k-th spot. -/
structure MkZ (s : Nat) (w : World) (B g n k : Nat) : Prop where
  r : ∃ cs : Array Value, w.heap[g]? = some (.cells cs 57 (0, 0)) ∧ n * 3 ≤ cs.size ∧ ∀ p, p < k * 3 → cs[p]? = some (.float .f32 (mkS (s + p)))
  b : B ≤ g
theorem MkZ.below {s : Nat} {w w' : World} {B g n k : Nat} (h : MkZ s w B g n k) (hB : Below w.heap.size w w') : MkZ s w' B g n k := ⟨by
  obtain ⟨cs, h1, h2, h3⟩ := h.r
  exact ⟨cs, by rw [hB.block g (Array.getElem?_eq_some_iff.1 h1).1]; exact h1, h2, h3⟩, h.b⟩
theorem MkZ.step {s : Nat} {w : World} {B g n k : Nat} (h : MkZ s w B g n k) (hk : k < n) :
    MkZ s (((w.setCell ⟨g, k * 3, none⟩ (.float .f32 (mkS (s + k * 3)))).setCell ⟨g, k * 3 + 1, none⟩ (.float .f32 (mkS (s + (k * 3 + 1))))).setCell ⟨g, k * 3 + 2, none⟩ (.float .f32 (mkS (s + (k * 3 + 2))))) B g n (k + 1) := ⟨by
  obtain ⟨cs, h1, h2, h3⟩ := h.r
  refine ⟨_, heap_setS _ (heap_setS _ (heap_setS _ h1)), by simpa using h2, fun p hp => ?_⟩
  rcases (by omega : p < k * 3 ∨ p = k * 3 ∨ p = k * 3 + 1 ∨ p = k * 3 + 2) with h | rfl | rfl | rfl
  · rw [Array.getElem?_setIfInBounds_ne (by omega), Array.getElem?_setIfInBounds_ne (by omega), Array.getElem?_setIfInBounds_ne (by omega)]
    exact h3 p h
  · rw [Array.getElem?_setIfInBounds_ne (by omega), Array.getElem?_setIfInBounds_ne (by omega), Array.getElem?_setIfInBounds_self_of_lt (by omega)]
  · rw [Array.getElem?_setIfInBounds_ne (by omega), Array.getElem?_setIfInBounds_self_of_lt (by simp; omega)]
  · rw [Array.getElem?_setIfInBounds_self_of_lt (by simp; omega)], h.b⟩
theorem MkZ.cells {s : Nat} {w : World} {B g n k : Nat} (h : MkZ s w B g n k) (j : Nat) (hj : j < n * 3) : ∃ u, w.cell? ⟨g, j, none⟩ = some u := by
  obtain ⟨cs, h1, h2, h3⟩ := h.r
  exact ⟨cs[j]'(by omega), by rw [cell_of_row w g _ cs _ (0, 0) h1, Array.getElem?_eq_getElem]⟩
theorem MkZ.froz {s : Nat} {w : World} {B g n k : Nat} (h : MkZ s w B g n k) (i : Nat) : w.frozen? ⟨g, i, none⟩ = false := by
  obtain ⟨cs, h1, _⟩ := h.r
  exact frozen_rowS h1
theorem MkZ.mark {s : Nat} {w : World} {B g n k p : Nat} (h : MkZ s w B g n k) (hp : p < k * 3) : w.cell? ⟨g, p, none⟩ = some (.float .f32 (mkS (s + p))) := by
  obtain ⟨cs, h1, h2, h3⟩ := h.r
  rw [cell_of_row w g _ cs _ (0, 0) h1]
  exact h3 p hp
/-- The slice is marked. -/
structure MarkedZ (s : Nat) (w : World) (B : Nat) (v : Value) (n : Nat) : Prop where
  h : (v = .slice none 0 0 ∧ n = 0) ∨ ∃ g cap, v = .slice (some ⟨g, 0, none⟩) n cap ∧ MkZ s w B g n n
theorem MarkedZ.below {s : Nat} {w w' : World} {B n : Nat} {v : Value} (h : MarkedZ s w B v n) (hB : Below w.heap.size w w') : MarkedZ s w' B v n := ⟨by
  rcases h.h with h1 | ⟨g, cap, rfl, hg⟩
  · exact .inl h1
  · exact .inr ⟨g, cap, rfl, hg.below hB⟩⟩

set_option maxRecDepth 100000 in
set_option maxHeartbeats 2000000 in
theorem markSpotS_someZ (B g n cap : Nat) (hn : n ≤ 36) (s : Nat) (hs : s ≤ 200) (w : World) (hM : MkZ s w B g n 0) :
    Calls Try.prog 54 #[.slice (some ⟨g, 0, none⟩) n cap, .int .i64 (1 + (s : Int))] w fun e w' => e = .returned (.int .i64 (1 + (s : Int) + 3 * (n : Int))) ∧ MkZ s w' B g n n ∧ Below B w w' ∧ ∀ k, k ≠ g → w'.heap[k]? = w.heap[k]? := by
  have HM := Frame.hid hM
  clear hM
  go_enter Try.func54, Try.ntmps54
  go_wp2
  go_loopw [1, 5] (fun kv i wr => ∃ q : Nat, q ≤ n ∧ kv = .int .i64 (1 + (s : Int) + 3 * (q : Int)) ∧ i = .int .i64 q ∧ MkZ s wr B g n q ∧ Below B w wr ∧ ∀ k, k ≠ g → wr.heap[k]? = w.heap[k]?) (fun _ i _ => n - (intOf i).toNat)
  case atStart => exact ⟨0, Nat.zero_le _, by simp, rfl, HM.out, Below.refl _ _, fun _ _ => rfl⟩
  case round =>
    obtain ⟨q, hq, rfl, rfl, hM, hB, hO⟩ := hrel
    by_cases hlt : q < n
    · obtain ⟨u0, c0⟩ := hM.cells (q * 3) (by omega)
      obtain ⟨u1, c1⟩ := hM.cells (q * 3 + 1) (by omega)
      obtain ⟨u2, c2⟩ := hM.cells (q * 3 + 2) (by omega)
      have fz := hM.froz
      have HM := Frame.hid hM
      have HB := Frame.hid hB
      have HO := Frame.hid hO
      clear hM hB hO
      go_wp2
      go_roundw
      case rel =>
        have e0 : floatOfInt .f32 (1 + (s : Int) + 3 * (q : Int)) = mkS (s + q * 3) := by unfold mkS; congr 1; push_cast; omega
        have e1 : floatOfInt .f32 (1 + (s : Int) + 3 * (q : Int) + 1) = mkS (s + (q * 3 + 1)) := by unfold mkS; congr 1; push_cast; omega
        have e2 : floatOfInt .f32 (1 + (s : Int) + 3 * (q : Int) + 1 + 1) = mkS (s + (q * 3 + 2)) := by unfold mkS; congr 1; push_cast; omega
        rw [e0, e1, e2]
        refine ⟨q + 1, by omega, ?_, by go_num, HM.out.step hlt, ((HB.out.setCell (p := ⟨g, _, none⟩) HM.out.b _).setCell (p := ⟨g, _, none⟩) HM.out.b _).setCell (p := ⟨g, _, none⟩) HM.out.b _, fun k hk => ?_⟩
        · have : 1 + (s : Int) + 3 * (q : Int) + 1 + 1 + 1 = 1 + (s : Int) + 3 * ((q + 1 : Nat) : Int) := by push_cast; omega
          rw [this]
        · rw [Below.heap_setCell _ _ _ _ hk, Below.heap_setCell _ _ _ _ hk, Below.heap_setCell _ _ _ _ hk]
          exact HO.out k hk
      case measure => simp [intOf]; omega
    · have hqn : q = n := by omega
      subst hqn
      have HM := Frame.hid hM
      have HB := Frame.hid hB
      have HO := Frame.hid hO
      clear hM hB hO
      go_wp2
      go_ret
      exact ⟨rfl, HM.out, HB.out, HO.out⟩

set_option maxRecDepth 100000 in
set_option maxHeartbeats 2000000 in
theorem heldSpotS_someZ (B g n cap : Nat) (hn : n ≤ 36) (s : Nat) (hs : s ≤ 200) (w : World) (hM : MkZ s w B g n n) :
    Calls Try.prog 55 #[.slice (some ⟨g, 0, none⟩) n cap, .int .i64 (1 + (s : Int))] w fun e w' => e = .returned (.int .i64 (1 + (s : Int) + 3 * (n : Int))) ∧ w' = w := by
  have HM := Frame.hid hM
  clear hM
  go_enter Try.func55, Try.ntmps55
  go_wp2
  go_loopw [1, 5] (fun kv i wr => ∃ q : Nat, q ≤ n ∧ kv = .int .i64 (1 + (s : Int) + 3 * (q : Int)) ∧ i = .int .i64 q ∧ wr = w) (fun _ i _ => n - (intOf i).toNat)
  case atStart => exact ⟨0, Nat.zero_le _, by simp, rfl, rfl⟩
  case round =>
    obtain ⟨q, hq, rfl, rfl, rfl⟩ := hrel
    by_cases hlt : q < n
    · have c0 := HM.out.mark (p := q * 3) (by omega)
      have c1 := HM.out.mark (p := q * 3 + 1) (by omega)
      have c2 := HM.out.mark (p := q * 3 + 2) (by omega)
      have e0 : floatOfInt .f32 (1 + (s : Int) + 3 * (q : Int)) = mkS (s + q * 3) := by unfold mkS; congr 1; push_cast; omega
      have e1 : floatOfInt .f32 (1 + (s : Int) + 3 * (q : Int) + 1) = mkS (s + (q * 3 + 1)) := by unfold mkS; congr 1; push_cast; omega
      have e2 : floatOfInt .f32 (1 + (s : Int) + 3 * (q : Int) + 1 + 1) = mkS (s + (q * 3 + 2)) := by unfold mkS; congr 1; push_cast; omega
      have o0 := mkS_self (p := s + q * 3) (by omega)
      have o1 := mkS_self (p := s + (q * 3 + 1)) (by omega)
      have o2 := mkS_self (p := s + (q * 3 + 2)) (by omega)
      go_wp2
      go_roundw
      case rel =>
        refine ⟨q + 1, by omega, ?_, by go_num, by first | rfl | trivial⟩
        have : 1 + (s : Int) + 3 * (q : Int) + 1 + 1 + 1 = 1 + (s : Int) + 3 * ((q + 1 : Nat) : Int) := by push_cast; omega
        rw [this]
      case measure => simp [intOf]; omega
    · have hqn : q = n := by omega
      subst hqn
      go_wp2
      go_ret
      first | exact ⟨rfl, trivial⟩ | exact ⟨rfl, rfl⟩

set_option maxRecDepth 100000 in
theorem markSpotS_nilZ (s : Nat) (w : World) : Calls Try.prog 54 #[.slice none 0 0, .int .i64 (1 + (s : Int))] w fun e w' => e = .returned (.int .i64 (1 + (s : Int))) ∧ w' = w := by
  go_enter Try.func54, Try.ntmps54
  go_wp2
  go_loopw [1, 5] (fun k i wr => k = .int .i64 (1 + (s : Int)) ∧ i = .int .i64 0 ∧ wr = w) (fun _ _ _ => 0)
  case atStart => exact ⟨rfl, rfl, rfl⟩
  case round =>
    obtain ⟨rfl, rfl, rfl⟩ := hrel
    go_wp2
    go_ret
    first | exact ⟨rfl, trivial⟩ | exact ⟨rfl, rfl⟩

set_option maxRecDepth 100000 in
theorem heldSpotS_nilZ (s : Nat) (w : World) : Calls Try.prog 55 #[.slice none 0 0, .int .i64 (1 + (s : Int))] w fun e w' => e = .returned (.int .i64 (1 + (s : Int))) ∧ w' = w := by
  go_enter Try.func55, Try.ntmps55
  go_wp2
  go_loopw [1, 5] (fun k i wr => k = .int .i64 (1 + (s : Int)) ∧ i = .int .i64 0 ∧ wr = w) (fun _ _ _ => 0)
  case atStart => exact ⟨rfl, rfl, rfl⟩
  case round =>
    obtain ⟨rfl, rfl, rfl⟩ := hrel
    go_wp2
    go_ret
    first | exact ⟨rfl, trivial⟩ | exact ⟨rfl, rfl⟩

theorem markSpotS_callsZ (B n : Nat) (v : Value) (hn : n ≤ 36) (s : Nat) (hs : s ≤ 200) (w : World) (hO : OwS w B v n) :
    Calls Try.prog 54 #[v, .int .i64 (1 + (s : Int))] w fun e w' => e = .returned (.int .i64 (1 + (s : Int) + 3 * (n : Int))) ∧ MarkedZ s w' B v n ∧ Below B w w' ∧ ∀ k, v.ownBlock ≠ some k → w'.heap[k]? = w.heap[k]? := by
  rcases hO.h with ⟨rfl, rfl⟩ | ⟨g, cap, cs, rfl, hg, hh, hsz⟩
  · refine (markSpotS_nilZ s w).mono ?_
    rintro e w' ⟨rfl, rfl⟩
    exact ⟨by simp, ⟨.inl ⟨rfl, rfl⟩⟩, Below.refl _ _, fun _ _ => rfl⟩
  · refine (markSpotS_someZ B g n cap (by omega) s hs w ⟨⟨cs, hh, hsz, fun p hp => absurd hp (by omega)⟩, hg⟩).mono ?_
    rintro e w' ⟨rfl, hM, hB, hF⟩
    exact ⟨rfl, ⟨.inr ⟨g, cap, rfl, hM⟩⟩, hB, fun k hk => hF k (fun e => hk (by rw [e]; rfl))⟩
theorem heldSpotS_callsZ (B n : Nat) (v : Value) (hn : n ≤ 36) (s : Nat) (hs : s ≤ 200) (w : World) (hM : MarkedZ s w B v n) :
    Calls Try.prog 55 #[v, .int .i64 (1 + (s : Int))] w fun e w' => e = .returned (.int .i64 (1 + (s : Int) + 3 * (n : Int))) ∧ w' = w := by
  rcases hM.h with ⟨rfl, rfl⟩ | ⟨g, cap, rfl, hg⟩
  · refine (heldSpotS_nilZ s w).mono ?_
    rintro e w' ⟨rfl, rfl⟩
    exact ⟨by simp, rfl⟩
  · exact heldSpotS_someZ B g n cap hn s hs w hg

theorem MarkedZ.form {s : Nat} {w : World} {B n : Nat} {v : Value} (h : MarkedZ s w B v n) : ∃ A c, v = .slice A n c := by
  rcases h.h with ⟨rfl, rfl⟩ | ⟨g, cap, rfl, _⟩
  · exact ⟨_, _, rfl⟩
  · exact ⟨_, _, rfl⟩

set_option maxRecDepth 100000 in
set_option maxHeartbeats 2000000 in
theorem markSheet_callsZ (B n : Nat) (a b : Int) (v : Value) (hn : n ≤ 36) (s : Nat) (hs : s ≤ 200) (w : World) (hO : OwS w B v n) (hB : B ≤ w.heap.size) :
    Calls Try.prog 20 #[.agg #[.int .i64 a, .int .i64 b, v], .int .i64 (1 + (s : Int))] w fun e w' => e = .returned (.int .i64 (1 + (s : Int) + 3 * (n : Int))) ∧ MarkedZ s w' B v n ∧ Below B w w' ∧ ∀ k, k < w.heap.size → v.ownBlock ≠ some k → w'.heap[k]? = w.heap[k]? := by
  have HC := Frame.hid (markSpotS_callsZ B n v hn s hs _ (hO.below ((Below.refl _ _).alloc (Nat.le_refl _) (.cells #[.int .i64 a, .int .i64 b, v] 29))))
  obtain ⟨A, c, rfl⟩ := hO.form
  clear hO
  go_enter Try.func20, Try.ntmps20
  go_wp2_with (go_at_call 54; refine HC.out.mono ?_; rintro e w' ⟨rfl, hM, hB', hF⟩)
  go_ret
  exact ⟨rfl, hM, ((Below.refl _ _).alloc hB _).trans hB', fun k hk hv => (hF k hv).trans (Below.heap_alloc _ _ _ hk)⟩

set_option maxRecDepth 100000 in
set_option maxHeartbeats 2000000 in
theorem heldSheet_callsZ (B n : Nat) (a b : Int) (v : Value) (hn : n ≤ 36) (s : Nat) (hs : s ≤ 200) (w : World) (hM : MarkedZ s w B v n) :
    Calls Try.prog 21 #[.agg #[.int .i64 a, .int .i64 b, v], .int .i64 (1 + (s : Int))] w fun e w' => e = .returned (.int .i64 (1 + (s : Int) + 3 * (n : Int))) ∧ Below w.heap.size w w' := by
  have HC := Frame.hid (heldSpotS_callsZ B n v hn s hs _ (hM.below ((Below.refl _ _).alloc (Nat.le_refl _) (.cells #[.int .i64 a, .int .i64 b, v] 29))))
  obtain ⟨A, c, rfl⟩ := hM.form
  have hk : ¬ (1 + (s : Int) + 3 * (n : Int) < 0) := by omega
  clear hM
  go_enter Try.func21, Try.ntmps21
  go_wp2_with (go_at_call 55; refine HC.out.mono ?_; rintro e w' ⟨rfl, rfl⟩)
  go_ret
  exact ⟨rfl, by (apply bel_of; (repeat (first | apply below_dn | apply below_al)); exact below_st _)⟩

end

end Go.Proofs.Ytnbgnaenlbphcaa
