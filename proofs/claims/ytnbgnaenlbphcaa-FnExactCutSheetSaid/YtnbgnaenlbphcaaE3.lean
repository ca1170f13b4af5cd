/-
  A loop whose round holds a range over a function: the marks that the rounds leave; a range over a function with two variables, of which the second alone is kept.
-/
import Derived.Test.YtnbgnaenlbphcaaE2
import Derived.RangeFuncLeaves
namespace Go.Proofs.Ytnbgnaenlbphcaa
open Go.RowKit Go.Shelf Fl Ieee Go.WideShapes Go.Deep

/-- The marks of ranges over functions that are over: blocks from B on, ahead of C. -/
def Marks (B C : Nat) : List Deferred → World → Prop
  | [], _ => True
  | d :: ds, W => (∃ D, B ≤ D ∧ D < C ∧ d = { target := .collected D, args := #[] } ∧ W.heap[D]? = some (.deferred (some [])) ∧ ∀ d' ∈ ds, ∀ D', d'.target = .collected D' → D' ≠ D) ∧ Marks B C ds W
theorem Marks.keep {B C C' : Nat} {W W' : World} (hC : C ≤ C') (hk : ∀ k o, B ≤ k → k < C → W.heap[k]? = some o → o.isCells = false → W'.heap[k]? = some o) : ∀ {ds : List Deferred}, Marks B C ds W → Marks B C' ds W'
  | [], _ => trivial
  | _ :: _, ⟨⟨D, h1, h2, h3, h4, h5⟩, h6⟩ => ⟨⟨D, h1, Nat.lt_of_lt_of_le h2 hC, h3, hk D _ h1 h2 h4 rfl, h5⟩, Marks.keep hC hk h6⟩
theorem Marks.low {B C : Nat} {W : World} : ∀ {ds : List Deferred}, Marks B C ds W → ∀ d ∈ ds, ∀ D, d.target = .collected D → D < C
  | _ :: _, ⟨⟨D, _, h2, h3, _, _⟩, h6⟩, d, hd, D', e => by
    rcases List.mem_cons.1 hd with rfl | hd
    · rw [h3] at e
      injection e with e
      omega
    · exact Marks.low h6 d hd D' e
theorem Marks.cons {B C D : Nat} {W : World} {ds : List Deferred} (h : Marks B C ds W) (hB : B ≤ D) (hC : C ≤ D) (hD : W.heap[D]? = some (.deferred (some []))) : Marks B (D + 1) ({ target := .collected D, args := #[] } :: ds) W :=
  ⟨⟨D, hB, by omega, rfl, hD, fun d hd D' e => by have := h.low d hd D' e; omega⟩, h.keep (by omega) (fun _ _ _ _ h _ => h)⟩
theorem Marks.take {B C D : Nat} {W : World} : ∀ {ds : List Deferred}, Marks B C ds W → (∀ d ∈ ds, ∀ D', d.target = .collected D' → D' ≠ D) → Marks B C ds (W.putObj D (.deferred none))
  | [], _, _ => trivial
  | d :: ds, ⟨⟨E, h1, h2, h3, h4, h5⟩, h6⟩, hd => ⟨⟨E, h1, h2, h3, by
      have hE : E ≠ D := hd d (List.mem_cons_self) E (by rw [h3])
      rw [World.putObj_heap_other hE]; exact h4, h5⟩, Marks.take h6 (fun d' hd' => hd d' (List.mem_cons_of_mem _ hd'))⟩
/-- Cells stay, and what lies below B. -/
def KeptC (B : Nat) (W W' : World) : Prop := (∀ (k : Nat) (o : Obj), W.heap[k]? = some o → o.isCells = true → W'.heap[k]? = some o) ∧ Below B W W'
theorem leaves_marks {F : Fence} {n : Nat} {P : Program} {fn : Func} {tmps : Array Value} {R : Ending → World → Prop} {B C : Nat} (hro : FrameMode.returning ≠ .run) : ∀ {ds : List Deferred} {W : World}, Marks B C ds W → (∀ W', KeptC B W W' → LeavesIn F n P fn tmps R [] .returning W') → LeavesInM F n P fn tmps R ds .returning W
  | [], W, _, h => h W ⟨fun _ _ h _ => h, Below.refl _ _⟩
  | d :: ds, W, ⟨⟨D, h1, h2, h3, h4, h5⟩, h6⟩, h => by
    refine ⟨hro, .inl ⟨D, _, by rw [h3], run_takeDeferred h4, ?_⟩⟩
    refine leaves_marks hro (h6.take h5) fun W' hk => h W' ⟨fun k o hko hc => hk.1 k o ?_ hc, ((Below.refl B W).grown (grownBy_putObj' W D (.deferred none)) (by have := (Array.getElem?_eq_some_iff.1 h4).1; omega) (fun k e => by cases e; exact h1)).trans hk.2⟩
    have hne : k ≠ D := fun e => by
      subst e
      rw [h4] at hko
      injection hko with hko
      subst hko
      cases hc
    rw [World.putObj_heap_other hne]
    exact hko

theorem range_tri {F : Fence} {n : Nat} {P : Program} {α : Type} {g : Operand} {ps : Array Tmp} {assign body : Code} {Q : Exit → Act → World → Prop} {a : Act} {w : World} (p q q' : Nat) (f f' : α → Value)
    (hro : F.round = none) (h1 : 1 ≤ n) {gf : Nat} {lb : Array Value} (hg : a.eval g = .func (.func gf) #[] lb) (hFg : F.fn gf) (eg : ∀ args w, (callFunc gf args).run P w = .ok (.enter gf args) w)
    {encs : α → Array Value} {Kp : World → World → Prop} {S Sp : List α → Prop} {N : Nat} {w0 : World} (hseq : SeqStopsK F (n - 1) P gf lb encs Kp S Sp N w0)
    (hKt : ∀ {A B C : World}, Kp A B → Kp B C → Kp A C) (hKb : ∀ (W : World) (l : Nat) (o o' : Obj), w.heap.size ≤ l → W.heap[l]? = some o → o.isCells = false → o.isWalk = false → Kp W (W.putObj l o')) (hb0 : Below w0.heap.size w0 w) (hps : ∀ x, (encs x).size = ps.size)
    (I : List α → World → Prop) (Ix : Code → List α → World → Prop) (hI : OwnFrom w.heap.size I) (hIx : ∀ c, OwnFrom w.heap.size (Ix c)) (h0 : I [] w)
    (hassign : ∀ (l : Nat) (pre : List α) (x : α) (W : World) (K : Act → World → Prop), I pre W → (∀ a' W', KeepsFrom w.heap.size W W' → Kp W W' → I pre W' → a' = { tmps := ((a.tmps.setIfInBounds p (f x)).setIfInBounds q (f' x)).setIfInBounds q' (f' x), defers := [] } → K a' W') →
      assign.wpIn (F.inRound l) (n - 1 - 1) P (Exit.then K (fun _ _ _ => False)) { tmps := (ps.zip (encs x)).foldl (fun t (p, v) => t.setIfInBounds p v) a.tmps, defers := [] } W)
    (hbody : ∀ (l : Nat) (pre : List α) (x : α) (W : World), w.heap.size ≤ l → (∃ r, W.heap[l]? = some (.loop r)) → I pre W → pre.length < N → body.wpIn (F.inRound l) (n - 1 - 1) P (ownPostG w.heap.size Kp I Ix (pre ++ [x]) W) { tmps := ((a.tmps.setIfInBounds p (f x)).setIfInBounds q (f' x)).setIfInBounds q' (f' x), defers := [] } W)
    (hdone : ∀ (D : Nat) (xs : List α) (W : World), w.heap.size ≤ D → S xs → I xs W → W.heap[D]? = some (.deferred (some [])) → Q .normal { a with defers := { target := .collected D, args := #[] } :: a.defers } W)
    (hstop : ∀ (D : Nat) (c : Code) (pre : List α) (W : World), w.heap.size ≤ D → Sp pre → Ix c pre W → W.heap[D]? = some (.deferred (some [])) → c.wpIn F n P Q { a with defers := { target := .collected D, args := #[] } :: a.defers } W) :
    (Code.rangeFunc g ps assign body).wpIn F n P Q a w :=
  wpIn_rangeFunc_ownH hro h1 hg hFg eg hseq hKt hKb hb0 hps I Ix hI hIx h0 (fun x a' _ => a' = { tmps := ((a.tmps.setIfInBounds p (f x)).setIfInBounds q (f' x)).setIfInBounds q' (f' x), defers := [] }) (fun _ _ _ _ _ _ hs _ _ => hs) hassign
    (fun l pre x a' W hl hr hi ha hlt => by rw [show a' = _ from ha]; exact hbody l pre x W hl hr hi hlt) hdone hstop

/-- While the steps of one row are taken: the blocks from lo on that lay in w3 stay; the parts' rows lie in none of them. -/
structure RnS (lo : Nat) (w3 : World) (v1 v2 : Value) (W : World) : Prop where
  keep : ∀ b, lo ≤ b → b < w3.heap.size → W.heap[b]? = w3.heap[b]?
  sz : w3.heap.size ≤ W.heap.size
  b1 : ∀ k, v1.ownBlock = some k → k < lo ∨ w3.heap.size ≤ k
  b2 : ∀ k, v2.ownBlock = some k → k < lo ∨ w3.heap.size ≤ k
  ko : KeepsOthers w3 W
theorem keepsO_below {W W' : World} (hB : Below W.heap.size W W') : KeepsOthers W W' := ⟨hB.size, fun k _ hk _ => (hB.block k (Array.getElem?_eq_some_iff.1 hk).1).trans hk⟩
theorem RnS.start {lo : Nat} {w3 : World} {v1 v2 : Value} (h1 : ∀ k, v1.ownBlock = some k → k < lo) (h2 : ∀ k, v2.ownBlock = some k → k < lo) : RnS lo w3 v1 v2 w3 := ⟨fun _ _ _ => rfl, Nat.le_refl _, fun k e => .inl (h1 k e), fun k e => .inl (h2 k e), KeepsOthers.refl _⟩
theorem rowS_cells {W : World} {base n : Nat} {v : Value} {xs : List Value} (h : W.ownsRow base 57 3 v n xs) : ∀ (j : Nat) (o : Obj), v.ownBlock = some j → W.heap[j]? = some o → o.isCells = true := by
  intro j o hv ho
  rcases h.2 with ⟨h0, _⟩ | ⟨g, cap, cur, e1, _, hh, _⟩
  · rw [h0] at hv; cases hv
  · rw [e1] at hv
    injection hv with hv
    subst hv
    rw [hh] at ho
    injection ho with ho
    subst ho
    rfl
theorem RnS.step {lo gk i base n : Nat} {w3 W W4 W5 : World} {v1 v2 v1' x : Value} {xs : List Value} (h : RnS lo w3 v1 v2 W) (hB : Below W.heap.size W W4) (ho : W4.ownsRow base 57 3 v1 n xs) (hg : W4.grownBy W5 v1.ownBlock) (hw : v1'.ownBlock = v1.ownBlock ∨ v1'.ownBlock = some W4.heap.size) (hgk : gk < lo) : RnS lo w3 v1' v2 (W5.setCell ⟨gk, i, none⟩ x) := by
  refine ⟨fun b h1 h2 => ?_, ?_, fun k e => ?_, h.b2, (h.ko.trans (keepsO_below hB)).trans ((KeepsOthers.of_grownBy hg (rowS_cells ho)).trans (KeepsOthers.setCell _ _ _))⟩
  · have hbw : b < W.heap.size := Nat.lt_of_lt_of_le h2 h.sz
    rw [Below.heap_setCell _ _ _ _ (by show b ≠ gk; omega), hg.block b (Nat.lt_of_lt_of_le hbw hB.size) (fun e => by have := h.b1 b e.symm; omega), hB.block b hbw]
    exact h.keep b h1 h2
  · have := h.sz
    have := hB.size
    have := hg.size
    simp
    omega
  · rcases hw with e' | e'
    · rw [e'] at e; exact h.b1 k e
    · rw [e'] at e
      injection e with e
      have := h.sz
      have := hB.size
      right
      omega
theorem RnS.flip {lo : Nat} {w3 W : World} {v1 v2 : Value} (h : RnS lo w3 v1 v2 W) : RnS lo w3 v2 v1 W := ⟨h.keep, h.sz, h.b2, h.b1, h.ko⟩

theorem RnS.kept {lo b0 : Nat} {w3 X Y : World} {v1 v2 : Value} {row : Option Nat} (h : RnS lo w3 v1 v2 X) (hg : X.grownBy Y row) (hr : ∀ r, row = some r → b0 ≤ r ∧ ∃ o : Obj, X.heap[r]? = some o ∧ o.isCells = false) (hb : w3.heap.size ≤ b0) : RnS lo w3 v1 v2 Y := by
  refine ⟨fun b h1 h2 => (hg.block b (Nat.lt_of_lt_of_le h2 h.sz) (fun e => by have := (hr b e.symm).1; omega)).trans (h.keep b h1 h2), Nat.le_trans h.sz hg.size, h.b1, h.b2, ⟨Nat.le_trans h.sz hg.size, fun k o hk hc => ?_⟩⟩
  have hlt := (Array.getElem?_eq_some_iff.1 hk).1
  exact (hg.block k (Nat.lt_of_lt_of_le hlt h.sz) (fun e => by have := (hr k e.symm).1; omega)).trans (h.ko.same k o hk hc)
theorem kpS_put {Bs b l : Nat} {W : World} {o : Obj} (h1 : Bs ≠ l) (h2 : b ≠ l) : KpS Bs b W (W.putObj l o) := by
  refine ⟨fun i => ?_, fun i => ?_⟩ <;> simp [World.cell?, World.putObj, Array.getElem?_setIfInBounds_ne, h1.symm, h2.symm]
theorem KpS.trans {Bs b : Nat} {A B C : World} (h : KpS Bs b A B) (k : KpS Bs b B C) : KpS Bs b A C := ⟨fun i => (k.1 i).trans (h.1 i), fun i => (k.2 i).trans (h.2 i)⟩
theorem RnS.kp {lo Bs b : Nat} {w3 X Y : World} {v1 v2 v1' v2' : Value} (h : RnS lo w3 v1 v2 X) (g : RnS lo w3 v1' v2' Y) (h1 : lo ≤ Bs ∧ Bs < w3.heap.size) (h2 : lo ≤ b ∧ b < w3.heap.size) : KpS Bs b X Y :=
  ⟨fun i => World.cell?_of_block (a := ⟨Bs, i, none⟩) ((g.keep Bs h1.1 h1.2).trans (h.keep Bs h1.1 h1.2).symm), fun i => World.cell?_of_block (a := ⟨b, i, none⟩) ((g.keep b h2.1 h2.2).trans (h.keep b h2.1 h2.2).symm)⟩
theorem fold2S (T : Array Value) (p q : Nat) (u v : Value) : Array.foldl (fun t (x : Nat × Value) => t.setIfInBounds x.fst x.snd) T (#[p, q].zip #[u, v]) = (T.setIfInBounds p u).setIfInBounds q v := by
  simp
theorem upTo_lastS {m : Nat} {pre : List (Fin m)} {x : Fin m} (h : pre ++ [x] = upTo m (pre.length + 1)) : pre = upTo m pre.length ∧ x.val = pre.length := by
  have hl : pre.length + 1 ≤ m := by
    have := congrArg List.length h
    rw [List.length_append] at this
    unfold upTo at this
    simp at this
    omega
  rw [upTo_succ (by omega)] at h
  have h1 := List.append_inj h (by rw [upTo_len (by omega)])
  refine ⟨h1.1, ?_⟩
  have := h1.2
  injection this with this
  rw [this]

end Go.Proofs.Ytnbgnaenlbphcaa
