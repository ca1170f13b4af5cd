/-
  A curve that a call builds in a box of its own: its points and weights are appended one by one.
-/
import Derived.Test.YtbdmmpkphiilkaaLo
namespace Go.Proofs.Ytbdmmpkphiilkaa
open Go.RowKit Fl Ieee

/-- The box O holds a curve of the call's own: the points ys, and q weights of one; R is another box. -/
structure CvB (w : World) (R O : Nat) (vA vB : Value) (ys : List (Nat × Nat)) (q : Nat) (wr : World) : Prop where
  below : Below w.heap.size w wr
  lo : w.heap.size ≤ O ∧ w.heap.size ≤ R ∧ R ≠ O
  box : wr.heap[O]? = some (.cells #[vA, vB] 37 (0, 0))
  res : ∃ x y, wr.heap[R]? = some (.cells #[x, y] 37 (0, 0))
  pts : wr.ownsRow w.heap.size 26 1 vA ys.length (cl ys)
  wts : wr.ownsRow w.heap.size 27 1 vB q (fl (List.replicate q 1065353216))

theorem own_type {w : World} {base : Nat} {e : TypeId} {size : Nat} {v : Value} {n : Nat} {xs : List Value} (h : w.ownsRow base e size v n xs) {k : Nat} (hk : v.ownBlock = some k) {cs : Array Value} {t : TypeId} (hb : w.heap[k]? = some (.cells cs t (0, 0))) : t = e := by
  rcases h.2 with ⟨rfl, _⟩ | ⟨g, cap, cur, rfl, _, hg, _⟩
  · cases hk
  · have e1 : g = k := by injection hk
    rw [e1, hb] at hg
    injection hg with hg
    injection hg with _ h2 _
theorem own_apart {w : World} {base : Nat} {e : TypeId} {size : Nat} {v : Value} {n : Nat} {xs : List Value} (h : w.ownsRow base e size v n xs) {k : Nat} {cs : Array Value} {t : TypeId} (hb : w.heap[k]? = some (.cells cs t (0, 0))) (hne : t ≠ e) : v.ownBlock ≠ some k := fun hk => hne (own_type h hk hb)
theorem own_two {w : World} {base : Nat} {e e' : TypeId} {size size' : Nat} {v v' : Value} {n n' : Nat} {xs xs' : List Value} (h : w.ownsRow base e size v n xs) (h' : w.ownsRow base e' size' v' n' xs') (hne : e ≠ e') : v.ownBlock = none ∨ v.ownBlock ≠ v'.ownBlock := by
  cases hv : v.ownBlock with
  | none => exact .inl rfl
  | some k =>
    right
    intro e1
    rcases h.2 with ⟨rfl, _⟩ | ⟨g, cap, cur, rfl, _, hg, _⟩
    · cases hv
    · have e2 : g = k := by injection hv
      subst e2
      exact hne (own_type h' e1.symm hg)
theorem set_grown (w : World) (O j : Nat) (v : Value) : w.grownBy (w.setCell ⟨O, j, none⟩ v) (some O) :=
  ⟨rfl, rfl, rfl, by simp, fun k _ hk => heap_setCell_other w ⟨O, j, none⟩ k v (fun e => hk (by rw [e]))⟩
theorem tCF : (37 : Nat) ≠ 27 ∧ (37 : Nat) ≠ 26 ∧ (26 : Nat) ≠ 27 := by decide

theorem CvB.appB {w wr w' : World} {R O : Nat} {vA vB v' : Value} {ys : List (Nat × Nat)} {q : Nat} (h : CvB w R O vA vB ys q wr) (o : Obj) (hg : (wr.alloc o).grownBy w' vB.ownBlock)
    (hown : w'.ownsRow w.heap.size 27 1 v' (q + 1) (fl (List.replicate q 1065353216) ++ [.float .f32 1065353216])) : CvB w R O vA v' ys (q + 1) (w'.setCell ⟨O, 1, none⟩ v') := by
  obtain ⟨t1, t2, t3⟩ := tCF
  have hO : O < wr.heap.size := (Array.getElem?_eq_some_iff.1 h.box).1
  obtain ⟨x, y, hr⟩ := h.res
  have hR : R < wr.heap.size := (Array.getElem?_eq_some_iff.1 hr).1
  have b1 : vB.ownBlock ≠ some O := own_apart h.wts h.box t1
  have b2 : vB.ownBlock ≠ some R := own_apart h.wts hr t1
  have kO : w'.heap[O]? = some (.cells #[vA, vB] 37 (0, 0)) := by
    rw [hg.block O (by simp; omega) (fun e => b1 e.symm), heap_alloc_old wr o hO]
    exact h.box
  have kR : w'.heap[R]? = some (.cells #[x, y] 37 (0, 0)) := by
    rw [hg.block R (by simp; omega) (fun e => b2 e.symm), heap_alloc_old wr o hR]
    exact hr
  have hp : w'.ownsRow w.heap.size 26 1 vA ys.length (cl ys) := World.ownsRow.kept (World.ownsRow.alloc h.pts o) hg (own_two h.pts h.wts t3)
  have hfl : fl (List.replicate (q + 1) 1065353216) = fl (List.replicate q 1065353216) ++ [.float .f32 1065353216] := by
    rw [List.replicate_succ', ← fl_app]
    rfl
  refine ⟨?_, h.lo, ?_, ⟨x, y, ?_⟩, ?_, ?_⟩
  · refine Below.setCell (p := ⟨O, 1, none⟩) (Below.grown (h.below.alloc h.below.size o) hg (by have := h.below.size; simp; omega) (fun k hk => ?_)) h.lo.1 _
    exact (World.ownsRow.lt h.wts k hk).1
  · rw [heap_setCell_same w' O 1 _ _ _ kO]
    rfl
  · rw [heap_setCell_other w' ⟨O, 1, none⟩ R _ h.lo.2.2]
    exact kR
  · exact World.ownsRow.kept hp (set_grown w' O 1 v') (.inr (own_apart hp kO t2))
  · rw [hfl]
    exact World.ownsRow.kept hown (set_grown w' O 1 v') (.inr (own_apart hown kO t1))

theorem CvB.appA {w wr w' : World} {R O : Nat} {vA vB v' : Value} {ys : List (Nat × Nat)} {q : Nat} {z : Nat × Nat} (h : CvB w R O vA vB ys q wr) (o : Obj) (hg : (wr.alloc o).grownBy w' vA.ownBlock)
    (hown : w'.ownsRow w.heap.size 26 1 v' (ys.length + 1) (cl ys ++ [cx z])) : CvB w R O v' vB (ys ++ [z]) q (w'.setCell ⟨O, 0, none⟩ v') := by
  obtain ⟨t1, t2, t3⟩ := tCF
  have hO : O < wr.heap.size := (Array.getElem?_eq_some_iff.1 h.box).1
  obtain ⟨x, y, hr⟩ := h.res
  have hR : R < wr.heap.size := (Array.getElem?_eq_some_iff.1 hr).1
  have b1 : vA.ownBlock ≠ some O := own_apart h.pts h.box t2
  have b2 : vA.ownBlock ≠ some R := own_apart h.pts hr t2
  have kO : w'.heap[O]? = some (.cells #[vA, vB] 37 (0, 0)) := by
    rw [hg.block O (by simp; omega) (fun e => b1 e.symm), heap_alloc_old wr o hO]
    exact h.box
  have kR : w'.heap[R]? = some (.cells #[x, y] 37 (0, 0)) := by
    rw [hg.block R (by simp; omega) (fun e => b2 e.symm), heap_alloc_old wr o hR]
    exact hr
  have hp : w'.ownsRow w.heap.size 27 1 vB q (fl (List.replicate q 1065353216)) := World.ownsRow.kept (World.ownsRow.alloc h.wts o) hg (own_two h.wts h.pts (fun e => t3 e.symm))
  refine ⟨?_, h.lo, ?_, ⟨x, y, ?_⟩, ?_, ?_⟩
  · refine Below.setCell (p := ⟨O, 0, none⟩) (Below.grown (h.below.alloc h.below.size o) hg (by have := h.below.size; simp; omega) (fun k hk => ?_)) h.lo.1 _
    exact (World.ownsRow.lt h.pts k hk).1
  · rw [heap_setCell_same w' O 0 _ _ _ kO]
    rfl
  · rw [heap_setCell_other w' ⟨O, 0, none⟩ R _ h.lo.2.2]
    exact kR
  · rw [List.length_append, ← cl_app]
    exact World.ownsRow.kept hown (set_grown w' O 0 v') (.inr (own_apart hown kO t2))
  · exact World.ownsRow.kept hp (set_grown w' O 0 v') (.inr (own_apart hp kO t1))

theorem CvB.cells {w : World} {R O : Nat} {vA vB : Value} {ys : List (Nat × Nat)} {q : Nat} {wr : World} (h : CvB w R O vA vB ys q wr) : wr.cell? ⟨O, 0, none⟩ = some vA ∧ wr.cell? ⟨O, 1, none⟩ = some vB ∧ (∀ j, wr.frozen? ⟨O, j, none⟩ = false) ∧ (∃ x, wr.cell? ⟨R, 0, none⟩ = some x) ∧ (∃ y, wr.cell? ⟨R, 1, none⟩ = some y) ∧ ∀ j, wr.frozen? ⟨R, j, none⟩ = false := by
  obtain ⟨x, y, hr⟩ := h.res
  refine ⟨by rw [cell_of_row _ _ _ _ _ _ h.box]; rfl, by rw [cell_of_row _ _ _ _ _ _ h.box]; rfl, fun j => frozen_of_row _ _ _ _ _ h.box, ⟨x, by rw [cell_of_row _ _ _ _ _ _ hr]; rfl⟩, ⟨y, by rw [cell_of_row _ _ _ _ _ _ hr]; rfl⟩, fun j => frozen_of_row _ _ _ _ _ hr⟩
/-- What the box holds reads as the curve. -/
theorem CvB.reads {w : World} {R O : Nat} {vA vB : Value} {ys : List (Nat × Nat)} {q : Nat} {wr : World} (h : CvB w R O vA vB ys q wr) (hq : q = ys.length) (h0 : 0 < q) : ∃ g c1 g' c2, vA = .slice (some ⟨g, 0, none⟩) ys.length c1 ∧ vB = .slice (some ⟨g', 0, none⟩) ys.length c2 ∧ RdC wr (some ⟨g, 0, none⟩) ys ∧ RdOne wr (some ⟨g', 0, none⟩) ys.length := by
  subst hq
  have hA : OwnC wr w.heap.size vA ys := h.pts
  have hB : OwnF wr w.heap.size vB (List.replicate ys.length 1065353216) := by unfold OwnF; rw [List.length_replicate]; exact h.wts
  rcases hA.form with ⟨_, h2⟩ | ⟨g, c1, rfl, _⟩
  · subst h2; simp at h0
  · obtain ⟨g', c2, hv, _, hlt⟩ := hB.shape (by simpa using h0)
    rw [List.length_replicate] at hv
    subst hv
    refine ⟨g, c1, g', c2, rfl, rfl, hA.rd', fun _ => ⟨g', 0, rfl, hlt, fun j hj => ?_⟩⟩
    have hc := hB.cell (by simp) (j := j) (by simpa using hj)
    rw [Nat.zero_add, hc, List.getD_eq_getElem?_getD, List.getElem?_replicate, if_pos hj]
    rfl

theorem CvB.start {w w3 : World} {R : Nat} {vA : Value} {ys : List (Nat × Nat)} (hb : Below w.heap.size w w3) (hR : w.heap.size ≤ R) {x y : Value} (hr : w3.heap[R]? = some (.cells #[x, y] 37 (0, 0))) (hp : w3.ownsRow w.heap.size 26 1 vA ys.length (cl ys)) :
    CvB w R (w3.heap.size + 1) vA (.slice (some ⟨w3.heap.size, 0, none⟩) 0 0) ys 0 ((w3.alloc (.cells #[] 27)).alloc (.cells #[vA, .slice (some ⟨w3.heap.size, 0, none⟩) 0 0] 37)) := by
  have hs := hb.size
  have hRl : R < w3.heap.size := (Array.getElem?_eq_some_iff.1 hr).1
  have hf : (w3.alloc (.cells #[] 27)).ownsRow w.heap.size 27 1 (.slice (some ⟨w3.heap.size, 0, none⟩) 0 0) 0 [] := World.ownsRow_lit w3 #[] 0 hs (by unfold maxLen; omega) rfl
  refine ⟨(hb.alloc hs _).alloc (by simp; omega) _, ⟨by omega, hR, by omega⟩, heap_alloc2_new _ _ _, ⟨x, y, ?_⟩, World.ownsRow.alloc (World.ownsRow.alloc hp _) _, World.ownsRow.alloc hf _⟩
  rw [heap_alloc_old _ _ (by simp; omega), heap_alloc_old _ _ hRl]
  exact hr
theorem own_form {w : World} {base : Nat} {e : TypeId} {size : Nat} {v : Value} {n : Nat} {xs : List Value} (h : w.ownsRow base e size v (n + 1) xs) : ∃ g cap, v = .slice (some ⟨g, 0, none⟩) (n + 1) cap := by
  rcases h.2 with ⟨_, h2⟩ | ⟨g, cap, _, hv, _⟩
  · omega
  · exact ⟨g, cap, hv⟩
theorem CvB.after {w wr w' : World} {R O : Nat} {vA vB : Value} {ys : List (Nat × Nat)} {q : Nat} (h : CvB w R O vA vB ys q wr) (o : Obj) {row : Option Nat} (hg : (wr.alloc o).grownBy w' row) (hrow : row = vA.ownBlock ∨ row = vB.ownBlock) : w'.cell? ⟨O, 0, none⟩ = some vA ∧ w'.cell? ⟨O, 1, none⟩ = some vB ∧ ∀ j, w'.frozen? ⟨O, j, none⟩ = false := by
  obtain ⟨t1, t2, t3⟩ := tCF
  have hO : O < wr.heap.size := (Array.getElem?_eq_some_iff.1 h.box).1
  have hne : some O ≠ row := by
    rcases hrow with rfl | rfl
    · exact fun e => own_apart h.pts h.box t2 e.symm
    · exact fun e => own_apart h.wts h.box t1 e.symm
  have kO : w'.heap[O]? = some (.cells #[vA, vB] 37 (0, 0)) := by
    rw [hg.block O (by simp; omega) hne, heap_alloc_old wr o hO]
    exact h.box
  exact ⟨by rw [cell_of_row _ _ _ _ _ _ kO]; rfl, by rw [cell_of_row _ _ _ _ _ _ kO]; rfl, fun j => frozen_of_row _ _ _ _ _ kO⟩

theorem RdC.set {w : World} {g R j : Nat} {v : Value} {zs : List (Nat × Nat)} (h : RdC w (some ⟨g, 0, none⟩) zs) (hne : g ≠ R) : RdC (w.setCell ⟨R, j, none⟩ v) (some ⟨g, 0, none⟩) zs := fun h0 => by
  obtain ⟨b, off, e, hlt, hc⟩ := h h0
  injection e with e
  injection e with e1 e2
  subst e1 e2
  exact ⟨_, _, rfl, by simpa using hlt, fun i hi => by rw [World.cell?_setCell_other _ _ _ _ (by intro e; injection e with e1 _; exact hne e1.symm)]; exact hc i hi⟩
theorem RdOne.set {w : World} {g R j n : Nat} {v : Value} (h : RdOne w (some ⟨g, 0, none⟩) n) (hne : g ≠ R) : RdOne (w.setCell ⟨R, j, none⟩ v) (some ⟨g, 0, none⟩) n := fun h0 => by
  obtain ⟨b, off, e, hlt, hc⟩ := h h0
  injection e with e
  injection e with e1 e2
  subst e1 e2
  exact ⟨_, _, rfl, by simpa using hlt, fun i hi => by rw [World.cell?_setCell_other _ _ _ _ (by intro e; injection e with e1 _; exact hne e1.symm)]; exact hc i hi⟩

/-- The curve, given back through the result's box. -/
theorem CvB.done {w : World} {R O : Nat} {vA vB : Value} {ys : List (Nat × Nat)} {q : Nat} {wr : World} (h : CvB w R O vA vB ys q wr) (hq : q = ys.length) (h0 : 0 < q) : ∃ g c1 g' c2, vA = .slice (some ⟨g, 0, none⟩) ys.length c1 ∧ vB = .slice (some ⟨g', 0, none⟩) ys.length c2 ∧
    RdC ((wr.setCell ⟨R, 0, none⟩ vA).setCell ⟨R, 1, none⟩ vB) (some ⟨g, 0, none⟩) ys ∧ RdOne ((wr.setCell ⟨R, 0, none⟩ vA).setCell ⟨R, 1, none⟩ vB) (some ⟨g', 0, none⟩) ys.length ∧ Below w.heap.size w ((wr.setCell ⟨R, 0, none⟩ vA).setCell ⟨R, 1, none⟩ vB) ∧
    ((wr.setCell ⟨R, 0, none⟩ vA).setCell ⟨R, 1, none⟩ vB).cell? ⟨R, 0, none⟩ = some vA ∧ ((wr.setCell ⟨R, 0, none⟩ vA).setCell ⟨R, 1, none⟩ vB).cell? ⟨R, 1, none⟩ = some vB ∧ w.heap.size ≤ g ∧ w.heap.size ≤ g' := by
  obtain ⟨t1, t2, t3⟩ := tCF
  obtain ⟨x, y, hr⟩ := h.res
  obtain ⟨_, _, _, ⟨x', hx⟩, ⟨y', hy⟩, _⟩ := h.cells
  have n1 := own_apart h.pts hr t2
  have n2 := own_apart h.wts hr t1
  obtain ⟨g, c1, g', c2, e1, e2, hA, hB⟩ := h.reads hq h0
  subst e1 e2
  have g1 : g ≠ R := fun e => n1 (by rw [← e]; rfl)
  have g2 : g' ≠ R := fun e => n2 (by rw [← e]; rfl)
  refine ⟨g, c1, g', c2, rfl, rfl, (hA.set g1).set g1, (hB.set g2).set g2, (h.below.setCell (p := ⟨R, 0, none⟩) h.lo.2.1 _).setCell (p := ⟨R, 1, none⟩) h.lo.2.1 _, ?_, ?_, (World.ownsRow.lt h.pts g rfl).1, (World.ownsRow.lt h.wts g' rfl).1⟩
  · rw [World.cell?_setCell_other _ _ _ _ (by simp)]
    exact World.cell?_setCell_same' _ _ _ (by rw [hx]; rfl)
  · refine World.cell?_setCell_same' _ _ _ ?_
    rw [World.cell?_setCell_other _ _ _ _ (by simp), hy]
    rfl

end Go.Proofs.Ytbdmmpkphiilkaa
