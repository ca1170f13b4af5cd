/-
  The bends out of their rows: the program's side.
-/
import Derived.Test.YtfkdkdocbecjmaaC1
import Derived.Test.YtfkdkdocbecjmaaC2
import Derived.RangeFuncNested
import Derived.RangeFuncWrites
namespace Go.Proofs.Ytfkdkdocbecjmaa
open Go.RowKit Go.Shelf Fl Ieee Go.WideShapes Go.Deep
attribute [local go_sem] kstore_f kalloc_drewN kset_drewN Oper.semAt_some

theorem rowB_below {w w' : World} {base size n : Nat} {t : TypeId} {v : Value} {xs : List Value} (h : w.ownsRow base t size v n xs) (hb : Below w.heap.size w w') : w'.ownsRow base t size v n xs := by
  refine ⟨h.1, ?_⟩
  rcases h.2 with hn | ⟨g, cap, cur, hv, hbg, hg, rest⟩
  · exact .inl hn
  · exact .inr ⟨g, cap, cur, hv, hbg, by rw [hb.block g (Array.getElem?_eq_some_iff.1 hg).1]; exact hg, rest⟩
theorem make_fB (n : Nat) (hn : n ≤ 1000) (W : World) : (Instr.makeSlice 44 (.int .i64 (n : Int)) (.int .i64 (n : Int))).run Try.prog W = .ok (.slice (some ⟨W.heap.size, 0, none⟩) n n) (W.alloc (.cells (madeCells #[.float .f32 0] n) 25)) := by
  obtain ⟨i, hi, hz, hs, hb⟩ : ∃ i, Try.prog.info? 25 = some i ∧ i.zero = some (.float .f32 0) ∧ i.size = 1 ∧ i.bytes = 4 := by
    have h := Try.infoF
    cases hi : Try.prog.info? 25 with
    | none => rw [hi] at h; cases h
    | some i =>
      rw [hi] at h
      injection h with h
      injection h with h1 h2
      injection h2 with h2 h3
      exact ⟨i, rfl, h1, h2, h3⟩
  have hr := run_make (P := Try.prog) W 44 25 i _ Try.underlying44 hi hz .i64 .i64 n n (by omega) (Int.le_refl _) (by rw [hb]; omega) (by omega)
  rw [hs] at hr
  simp only [Int.toNat_natCast, Nat.mul_one] at hr
  exact hr
theorem made_ownB (n : Nat) (hn : n ≤ 1000) (W : World) (base : Nat) (hb : base ≤ W.heap.size) : OwnF (W.alloc (.cells (madeCells #[.float .f32 0] n) 25)) base (.slice (some ⟨W.heap.size, 0, none⟩) n n) (List.replicate n 0) := by
  show World.ownsRow _ _ _ _ _ _ _
  rw [List.length_replicate]
  refine ⟨by rw [fl_len, List.length_replicate, Nat.mul_one], .inr ⟨W.heap.size, n, madeCells #[.float .f32 0] n, rfl, hb, World.alloc_heap_new _ _, Nat.le_refl _, by unfold maxLen; omega, by rw [size_madeCells, Nat.mul_one], ?_⟩⟩
  rw [toList_madeCells_one, Nat.mul_one, List.take_of_length_le (by simp)]
  unfold fl
  rw [List.map_replicate]
/-- The rows of a call, in memory. -/
structure RwS (w : World) (A : Option Addr) (gr cr N base : Nat) (zs : List Nat) (W : World) : Prop where
  box : W.cell? ⟨w.heap.size, 0, none⟩ = some (.slice A N cr)
  row : W.ownsRow base 90 4 (.slice A N cr) N (fl zs)
  len : zs.length = N * 4
  keep : KeepX w gr W
  lt : w.heap.size < W.heap.size
  grl : (A = none ∧ N = 0) ∨ (gr < w.heap.size ∧ A = some ⟨gr, 0, none⟩)
  bel : Below base w W
  hbs : base ≤ w.heap.size
theorem RwS.yes {w W : World} {A : Option Addr} {gr cr N base : Nat} {zs : List Nat} (h : RwS w A gr cr N base zs W) (hN : 0 < N) : gr < w.heap.size ∧ A = some ⟨gr, 0, none⟩ := by
  rcases h.grl with ⟨_, h0⟩ | h1
  · omega
  · exact h1
theorem RwS.drewN {w W : World} {A : Option Addr} {gr cr N base : Nat} {zs : List Nat} (h : RwS w A gr cr N base zs W) (k : Nat) : RwS w A gr cr N base zs (W.drewN k) :=
  ⟨h.box, h.row, h.len, h.keep.drewN k, h.lt, h.grl, below_drewN h.bel k, h.hbs⟩
theorem RwS.below {w W W' : World} {A : Option Addr} {gr cr N base : Nat} {zs : List Nat} (h : RwS w A gr cr N base zs W) (hB : Below W.heap.size W W') : RwS w A gr cr N base zs W' :=
  ⟨(hB.cell (p := ⟨w.heap.size, 0, none⟩) h.lt).trans h.box, rowB_below h.row hB, h.len, h.keep.below hB, Nat.lt_of_lt_of_le h.lt hB.size, h.grl, h.bel.trans (hB.mono (Nat.le_trans h.hbs h.keep.s)), h.hbs⟩
theorem RwS.put {w W : World} {A : Option Addr} {gr cr N base : Nat} {zs : List Nat} (h : RwS w A gr cr N base zs W) (hN : 0 < N) (j r : Nat) : RwS w A gr cr N base (zs.set j r) (W.setCell ⟨gr, j, none⟩ (.float .f32 r)) := by
  obtain ⟨h1, rfl⟩ := h.yes hN
  refine ⟨?_, ?_, by rw [List.length_set]; exact h.len, h.keep.put, by simpa using h.lt, h.grl, h.bel.setCell (p := ⟨gr, j, none⟩) (World.ownsRow.lt h.row gr rfl).1 _, h.hbs⟩
  · rw [World.cell?_setCell_other _ _ _ _ (by intro e; injection e with e; omega)]; exact h.box
  · have := (World.ownsRow.stored h.row j (.float .f32 r)).1
    rwa [fl_set] at this
theorem RwS.cell {w W : World} {gr cr N base : Nat} {zs : List Nat} (h : RwS w (some ⟨gr, 0, none⟩) gr cr N base zs W) {j : Nat} (hj : j < N * 4) : W.cell? ⟨gr, j, none⟩ = some (.float .f32 (zs.getD j 0)) := by
  rw [World.ownsRow.cellAt h.row j hj, fl_get (by rw [h.len]; exact hj)]
theorem RwS.froz {w W : World} {gr cr N base : Nat} {zs : List Nat} (h : RwS w (some ⟨gr, 0, none⟩) gr cr N base zs W) (j : Nat) : W.frozen? ⟨gr, j, none⟩ = false := World.ownsRow.frozenAt h.row j
theorem RwS.start {w : World} {A : Option Addr} {gr cr N base : Nat} {zs : List Nat} (hrow : w.ownsRow base 90 4 (.slice A N cr) N (fl zs)) (hl : zs.length = N * 4) (hg : (A = none ∧ N = 0) ∨ (gr < w.heap.size ∧ A = some ⟨gr, 0, none⟩)) (hbs : base ≤ w.heap.size) :
    RwS w A gr cr N base zs (w.alloc (.cells #[.slice A N cr] 86)) := by
  have hB : Below w.heap.size w (w.alloc (.cells #[.slice A N cr] 86)) := (Below.refl _ _).alloc (Nat.le_refl _) _
  exact ⟨by simp [go_sem], rowB_below hrow hB, hl, (KeepX.refl w gr).below hB, by simp, hg, (Below.refl _ _).alloc hbs _, hbs⟩

theorem RwS.block {w W : World} {A : Option Addr} {gr cr N base : Nat} {zs : List Nat} (h : RwS w A gr cr N base zs W) {k : Nat} (hk : (Value.slice A N cr).ownBlock = some k) : k < w.heap.size ∧ ∃ cur t, W.heap[k]? = some (.cells cur t (0, 0)) := by
  rcases h.row.2 with ⟨h0, _⟩ | ⟨g', cap, cur, hv, _, hh, _⟩
  · rw [h0] at hk; cases hk
  · rw [hv] at hk
    injection hk with hk
    rcases h.grl with ⟨h1, _⟩ | ⟨h1, h2⟩
    · rw [h1] at hv; injection hv with hv; cases hv
    · rw [h2] at hv
      injection hv with hv
      injection hv with hv
      injection hv with hv
      subst hk
      subst hv
      exact ⟨h1, cur, _, hh⟩
theorem RwS.other {w W : World} {A : Option Addr} {gr cr N base : Nat} {zs : List Nat} (h : RwS w A gr cr N base zs W) {g : Nat} (hg : w.heap.size < g) (j : Nat) (v : Value) : RwS w A gr cr N base zs (W.setCell ⟨g, j, none⟩ v) := by
  refine ⟨?_, ?_, h.len, ?_, by simpa using h.lt, h.grl, h.bel.setCell (p := ⟨g, j, none⟩) (Nat.le_of_lt (Nat.lt_of_le_of_lt h.hbs hg)) _, h.hbs⟩
  · rw [World.cell?_setCell_other _ _ _ _ (by intro e; injection e with e; omega)]; exact h.box
  · refine ⟨h.row.1, ?_⟩
    rcases h.row.2 with h0 | ⟨g', cap, cur, hv, hb, hh, rest⟩
    · exact .inl h0
    · have hlt := (h.block (k := g') (by rw [hv]; rfl)).1
      exact .inr ⟨g', cap, cur, hv, hb, by rw [Below.heap_setCell _ _ _ _ (by simp; omega)]; exact hh, rest⟩
  · exact ⟨by simpa using h.keep.s, fun k hk hne => by rw [Below.heap_setCell _ _ _ _ (by simp; omega)]; exact h.keep.h k hk hne⟩
theorem RwS.kept {w X Y : World} {A : Option Addr} {gr cr N base b0 : Nat} {zs : List Nat} {row : Option Nat} (h : RwS w A gr cr N base zs X) (hg : X.grownBy Y row) (hr : ∀ r, row = some r → b0 ≤ r ∧ ∃ o : Obj, X.heap[r]? = some o ∧ o.isCells = false) (hb : w.heap.size ≤ b0) : RwS w A gr cr N base zs Y := by
  refine ⟨cell_kept h.box hg (fun r e => (hr r e).2), World.ownsRow.kept h.row hg ?_, h.len, h.keep.grown hg (fun r e => Nat.le_trans hb (hr r e).1), Nat.lt_of_lt_of_le h.lt hg.size, h.grl, h.bel.grown hg (Nat.le_trans h.hbs h.keep.s) (fun r e => Nat.le_trans h.hbs (Nat.le_trans hb (hr r e).1)), h.hbs⟩
  cases hv : (Value.slice A N cr).ownBlock with
  | none => exact .inl rfl
  | some k =>
    right
    intro e
    obtain ⟨h1, cur, t, h2⟩ := h.block hv
    obtain ⟨o, ho, hc⟩ := (hr k e.symm).2
    rw [h2] at ho
    injection ho with ho
    subst ho
    cases hc
/-- The rows and the bends of a call, in memory. -/
structure BkS (w : World) (A : Option Addr) (gr cr N base : Nat) (zs : List Nat) (g gs : Nat) (us : List Nat) (W : World) : Prop where
  rw_ : RwS w A gr cr N base zs W
  own : OwnF W w.heap.size (.slice (some ⟨g, 0, none⟩) N N) us
  len : us.length = N
  bS : W.cell? ⟨gs, 0, none⟩ = some (.slice (some ⟨g, 0, none⟩) N N)
  lt : w.heap.size < g ∧ g < gs ∧ gs < W.heap.size
theorem BkS.drewN {w W : World} {A : Option Addr} {gr cr N base g gs : Nat} {zs us : List Nat} (h : BkS w A gr cr N base zs g gs us W) (k : Nat) : BkS w A gr cr N base zs g gs us (W.drewN k) := ⟨h.rw_.drewN k, h.own, h.len, h.bS, h.lt⟩
theorem BkS.below {w W W' : World} {A : Option Addr} {gr cr N base g gs : Nat} {zs us : List Nat} (h : BkS w A gr cr N base zs g gs us W) (hB : Below W.heap.size W W') : BkS w A gr cr N base zs g gs us W' :=
  ⟨h.rw_.below hB, h.own.below hB, h.len, (hB.cell (p := ⟨gs, 0, none⟩) h.lt.2.2).trans h.bS, h.lt.1, h.lt.2.1, Nat.lt_of_lt_of_le h.lt.2.2 hB.size⟩
theorem BkS.put {w W : World} {A : Option Addr} {gr cr N base g gs : Nat} {zs us : List Nat} (h : BkS w A gr cr N base zs g gs us W) (j r : Nat) : BkS w A gr cr N base zs g gs (us.set j r) (W.setCell ⟨g, j, none⟩ (.float .f32 r)) := by
  have l := h.lt
  refine ⟨h.rw_.other l.1 _ _, h.own.put h.len.symm j r, by rw [List.length_set]; exact h.len, ?_, l.1, l.2.1, by simpa using l.2.2⟩
  rw [World.cell?_setCell_other _ _ _ _ (by intro e; injection e with e; omega)]; exact h.bS
theorem BkS.kept {w X Y : World} {A : Option Addr} {gr cr N base g gs b0 : Nat} {zs us : List Nat} {row : Option Nat} (h : BkS w A gr cr N base zs g gs us X) (hg : X.grownBy Y row) (hr : ∀ r, row = some r → b0 ≤ r ∧ ∃ o : Obj, X.heap[r]? = some o ∧ o.isCells = false) (hb : w.heap.size ≤ b0) : BkS w A gr cr N base zs g gs us Y := by
  have l := h.lt
  refine ⟨h.rw_.kept hg hr hb, h.own.grown hg ?_, h.len, cell_kept h.bS hg (fun r e => (hr r e).2), l.1, l.2.1, Nat.lt_of_lt_of_le l.2.2 hg.size⟩
  intro k hk g' hg' hgk
  obtain ⟨o, ho, hc⟩ := (hr k hk).2
  have hg0 : g' = g := by simp [Value.ownBlock] at hg'; exact hg'.symm
  subst hgk
  subst hg0
  rcases h.own.2 with ⟨h0, _⟩ | ⟨g2, cap, cur, hv, _, hh, _⟩
  · cases h0
  · injection hv with hv _ _
    injection hv with hv
    injection hv with hv
    subst hv
    rw [hh] at ho
    injection ho with ho
    subst ho
    cases hc
theorem keepsB (W : World) (k : Nat) : KeepsOthers W (W.drewN k) := ⟨Nat.le_refl _, fun _ _ h _ => h⟩
theorem fold2B (T : Array Value) (p q : Nat) (u v : Value) : Array.foldl (fun t (x : Nat × Value) => t.setIfInBounds x.fst x.snd) T (#[p, q].zip #[u, v]) = (T.setIfInBounds p u).setIfInBounds q v := by
  simp
theorem kpR_put {Bs b l : Nat} {W : World} {o : Obj} (h1 : Bs ≠ l) (h2 : b ≠ l) : KpR Bs b W (W.putObj l o) := by
  refine ⟨fun i => ?_, fun i => ?_⟩ <;> simp [World.cell?, World.putObj, Array.getElem?_setIfInBounds_ne, h1.symm, h2.symm]
theorem kpR_alloc {Bs b : Nat} {W : World} {o : Obj} (h1 : Bs < W.heap.size) (h2 : b < W.heap.size) : KpR Bs b W (W.alloc o) :=
  ⟨fun i => ((Below.refl W.heap.size W).alloc (Nat.le_refl _) o).cell (p := ⟨Bs, i, none⟩) h1, fun i => ((Below.refl W.heap.size W).alloc (Nat.le_refl _) o).cell (p := ⟨b, i, none⟩) h2⟩
theorem KpR.trans {Bs b : Nat} {A B C : World} (h : KpR Bs b A B) (k : KpR Bs b B C) : KpR Bs b A C := ⟨fun i => (k.1 i).trans (h.1 i), fun i => (k.2 i).trans (h.2 i)⟩
theorem upTo_lastB {m : Nat} {pre : List (Fin m)} {x : Fin m} (h : pre ++ [x] = upTo m (pre.length + 1)) : pre = upTo m pre.length ∧ x.val = pre.length := by
  have hl : pre.length + 1 ≤ m := by
    have := congrArg List.length h
    rw [List.length_append] at this
    unfold upTo at this
    simp at this
    omega
  rw [upTo_succ (by omega)] at h
  have h1 := List.append_inj h (by rw [upTo_len (by omega)])
  refine ⟨h1.1, ?_⟩
  have := h1.2
  injection this with this
  rw [this]
theorem row4_at {W : World} {Bx : Nat} {t : TypeId} {a b c d : Value} (h : W.heap[Bx]? = some (.cells #[a, b, c, d] t (0, 0))) : W.cell? ⟨Bx, 0, none⟩ = some a ∧ W.cell? ⟨Bx, 1, none⟩ = some b ∧ W.cell? ⟨Bx, 2, none⟩ = some c ∧ W.cell? ⟨Bx, 3, none⟩ = some d := by
  refine ⟨?_, ?_, ?_, ?_⟩ <;> (rw [cell_of_row W Bx _ _ _ (0, 0) h]; rfl)

theorem range_pair {F : Fence} {n : Nat} {P : Program} {α : Type} {g : Operand} {ps : Array Tmp} {assign body : Code} {Q : Exit → Act → World → Prop} {a : Act} {w : World} (p q p' q' : Nat) (f f' : α → Value) (cs : α → Array Value) (t : TypeId)
    (hro : F.round = none) (h1 : 1 ≤ n) {gf : Nat} {lb : Array Value} (hg : a.eval g = .func (.func gf) #[] lb) (hFg : F.fn gf) (eg : ∀ args w, (callFunc gf args).run P w = .ok (.enter gf args) w)
    {encs : α → Array Value} {Kp : World → World → Prop} {S Sp : List α → Prop} {N : Nat} {w0 : World} (hseq : SeqStopsK F (n - 1) P gf lb encs Kp S Sp N w0)
    (hKt : ∀ {A B C : World}, Kp A B → Kp B C → Kp A C) (hKb : ∀ (W : World) (l : Nat) (o o' : Obj), w.heap.size ≤ l → W.heap[l]? = some o → o.isCells = false → o.isWalk = false → Kp W (W.putObj l o')) (hb0 : Below w0.heap.size w0 w) (hps : ∀ x, (encs x).size = ps.size)
    (I : List α → World → Prop) (Ix : Code → List α → World → Prop) (hI : OwnFrom w.heap.size I) (hIx : ∀ c, OwnFrom w.heap.size (Ix c)) (h0 : I [] w)
    (hassign : ∀ (l : Nat) (pre : List α) (x : α) (W : World) (K : Act → World → Prop), I pre W → (∀ a' W', KeepsFrom w.heap.size W W' → Kp W W' → I pre W' → (∃ Bx, w.heap.size ≤ Bx ∧ W'.heap[Bx]? = some (.cells (cs x) t (0, 0)) ∧ a' = { tmps := (((a.tmps.setIfInBounds p (f x)).setIfInBounds q (f' x)).setIfInBounds p' (f x)).setIfInBounds q' (.pointer (some ⟨Bx, 0, none⟩)), defers := [] }) → K a' W') →
      assign.wpIn (F.inRound l) (n - 1 - 1) P (Exit.then K (fun _ _ _ => False)) { tmps := (ps.zip (encs x)).foldl (fun t (p, v) => t.setIfInBounds p v) a.tmps, defers := [] } W)
    (hbody : ∀ (l : Nat) (pre : List α) (x : α) (Bx : Nat) (W : World), w.heap.size ≤ l → (∃ r, W.heap[l]? = some (.loop r)) → I pre W → w.heap.size ≤ Bx → W.heap[Bx]? = some (.cells (cs x) t (0, 0)) → pre.length < N → body.wpIn (F.inRound l) (n - 1 - 1) P (ownPostG w.heap.size Kp I Ix (pre ++ [x]) W) { tmps := (((a.tmps.setIfInBounds p (f x)).setIfInBounds q (f' x)).setIfInBounds p' (f x)).setIfInBounds q' (.pointer (some ⟨Bx, 0, none⟩)), defers := [] } W)
    (hdone : ∀ (D : Nat) (xs : List α) (W : World), w.heap.size ≤ D → S xs → I xs W → W.heap[D]? = some (.deferred (some [])) → Q .normal { a with defers := { target := .collected D, args := #[] } :: a.defers } W)
    (hstop : ∀ (D : Nat) (c : Code) (pre : List α) (W : World), w.heap.size ≤ D → Sp pre → Ix c pre W → W.heap[D]? = some (.deferred (some [])) → c.wpIn F n P Q { a with defers := { target := .collected D, args := #[] } :: a.defers } W) :
    (Code.rangeFunc g ps assign body).wpIn F n P Q a w :=
  wpIn_rangeFunc_ownH hro h1 hg hFg eg hseq hKt hKb hb0 hps I Ix hI hIx h0 (fun x a' W => ∃ Bx, w.heap.size ≤ Bx ∧ W.heap[Bx]? = some (.cells (cs x) t (0, 0)) ∧ a' = { tmps := (((a.tmps.setIfInBounds p (f x)).setIfInBounds q (f' x)).setIfInBounds p' (f x)).setIfInBounds q' (.pointer (some ⟨Bx, 0, none⟩)), defers := [] })
    (fun x a' _ X Y row hs hg hr => by
      obtain ⟨Bx, h1, h2, h3⟩ := hs
      refine ⟨Bx, h1, (hg.block Bx (Array.getElem?_eq_some_iff.1 h2).1 (fun e => ?_)).trans h2, h3⟩
      obtain ⟨o, ho, hc⟩ := (hr Bx e.symm).2
      rw [h2] at ho
      cases ho
      cases hc) hassign
    (fun l pre x a' W hl hr hi ha hlt => by
      obtain ⟨Bx, h1, h2, rfl⟩ := ha
      exact hbody l pre x Bx W hl hr hi h1 h2 hlt) hdone hstop

theorem back_first {xs ys : List Nat} {N q k v1 v3 b : Nat} {us : List Nat} (h : BackP xs ys N k us) (hq : q + k + 1 = N) (hl : ¬ (q + 1 < N)) (he : ElimR xs ys q v1 v3) (hb : FOp .quo .f32 v3 v1 b) : BackP xs ys N (k + 1) (us.set q b) := by
  refine h.step hq ?_
  obtain rfl : k = 0 := by omega
  exact ⟨v1, v3, by rw [show N - 1 = q by omega]; exact he, hb⟩
theorem back_next {xs ys : List Nat} {N q k v1 v2 v3 t u b ov : Nat} {us : List Nat} (h : BackP xs ys N k us) (hq : q + k + 1 = N) (hl : q + 1 < N) (he : ElimR xs ys q v1 v3) (hw : WdR xs (q + 1) v2) (ho : ov = us.getD (q + 1) 0) (ht : FOp .mul .f32 v2 ov t) (hu : FOp .sub .f32 v3 t u) (hb : FOp .quo .f32 u v1 b) : BackP xs ys N (k + 1) (us.set q b) := by
  refine h.step hq ?_
  obtain ⟨j, rfl⟩ : ∃ j, k = j + 1 := ⟨k - 1, by omega⟩
  have h1 := h.2 (q + 1) hl (by omega)
  rw [← ho, show N - 1 - (q + 1) = j by omega] at h1
  exact ⟨ov, v1, v3, v2, t, u, h1, by rw [show N - 1 - (j + 1) = q by omega]; exact he, by rw [show N - 1 - (j + 1) = q by omega]; exact hw, ht, hu, hb⟩

set_option maxRecDepth 100000 in
set_option maxHeartbeats 4000000 in
theorem solvedBends_calls (A : Option Addr) (gr cr N base : Nat) (xs ys zs : List Nat) (hN : N ≤ 46) (w : World) (hrow : w.ownsRow base 90 4 (.slice A N cr) N (fl zs)) (hg : (A = none ∧ N = 0) ∨ (gr < w.heap.size ∧ A = some ⟨gr, 0, none⟩)) (hbs : base ≤ w.heap.size) (hR : RowsE xs ys N 0 zs) :
    Calls Try.prog 55 #[.slice A N cr] w fun e w' => ∃ v bs, e = .returned v ∧ BackP xs ys N N bs ∧ OwnF w' w.heap.size v bs ∧ KeepX w gr w' ∧ Below base w w' := by
  have HS0 := Frame.hid (RwS.start hrow hR.1 hg hbs)
  have HR0 := Frame.hid hR
  clear hrow hg hR hbs
  refine (callsIn_wide (n := 9)).1 ?_
  refine callsIn_of_wp_marks Try.func55 rfl trivial ?_
  simp only [Try.ntmps55, List.size_toArray, List.length_cons, List.length_nil, Nat.reduceAdd, Nat.reduceSub, Array.replicate_succ, Array.replicate_zero, List.push_toArray, List.append_toArray, List.nil_append, List.cons_append]
  gi_wp2
  generalize w.alloc (.cells #[.slice A N cr] 86) = W0 at HS0 ⊢
  gi_loopw [3] (fun i wr => ∃ (j : Nat) (zs : List Nat), 1 ≤ j ∧ (j ≤ N ∨ j = 1) ∧ i = .int .i64 j ∧ RowsE xs ys N (j - 1) zs ∧ RwS w A gr cr N base zs wr) (fun i _ => N - (intOf i).toNat)
  case atStart => exact ⟨1, zs, Nat.le_refl _, .inr rfl, rfl, HR0.out, HS0.out⟩
  case round =>
    obtain ⟨j, zs, hj1, hjN, rfl, hE, hS⟩ := hrel
    clear HS0 HR0
    have q0 := hS.box
    by_cases hlt : j < N
    · obtain ⟨hgr, hAA⟩ := hS.yes (by omega)
      subst hAA
      obtain ⟨k, hk⟩ : ∃ k, j = k + 1 := ⟨j - 1, by omega⟩
      have hwk : IntKind.i64.wrap ((j : Int) - 1) = (k : Int) := by rw [IntKind.wrap_i64]; omega
      have hj0 : (0 : Int) ≤ (j : Int) := by omega
      have hjn : (j : Int) < (N : Int) := by omega
      have hk0 : (0 : Int) ≤ (k : Int) := by omega
      have hkn : (k : Int) < (N : Int) := by omega
      have hC : ∀ (zs : List Nat), zs.length = N * 4 → ∀ W, RwS w (some ⟨gr, 0, none⟩) gr cr N base zs W → W.cell? ⟨w.heap.size, 0, none⟩ = some (.slice (some ⟨gr, 0, none⟩) N cr) ∧ (∀ f, f < 4 → W.cell? ⟨gr, j * 4 + f, none⟩ = some (.float .f32 (zs.getD (j * 4 + f) 0))) ∧ (∀ f, f < 4 → W.cell? ⟨gr, k * 4 + f, none⟩ = some (.float .f32 (zs.getD (k * 4 + f) 0))) := fun zs _ W h => ⟨h.box, fun f hf => h.cell (by omega), fun f hf => h.cell (by omega)⟩
      have HC := Frame.hid hC
      have HE := Frame.hid hE
      have HK := Frame.hid hk
      have hzl := hS.len
      obtain ⟨bj, hbj⟩ : ∃ z, z = zs.getD (j * 4) 0 := ⟨_, rfl⟩
      obtain ⟨mk, hmk⟩ : ∃ z, z = zs.getD (k * 4 + 1) 0 := ⟨_, rfl⟩
      obtain ⟨hkk, hhk⟩ : ∃ z, z = zs.getD (k * 4 + 2) 0 := ⟨_, rfl⟩
      obtain ⟨rk, hrk⟩ : ∃ z, z = zs.getD (k * 4 + 3) 0 := ⟨_, rfl⟩
      obtain ⟨mj, hmj⟩ : ∃ z, z = zs.getD (j * 4 + 1) 0 := ⟨_, rfl⟩
      obtain ⟨rj, hrj⟩ : ∃ z, z = zs.getD (j * 4 + 3) 0 := ⟨_, rfl⟩
      have hV : ∀ W, RwS w (some ⟨gr, 0, none⟩) gr cr N base zs W → W.cell? ⟨w.heap.size, 0, none⟩ = some (.slice (some ⟨gr, 0, none⟩) N cr) ∧ W.cell? ⟨gr, j * 4, none⟩ = some (.float .f32 bj) ∧ W.cell? ⟨gr, k * 4 + 1, none⟩ = some (.float .f32 mk) ∧ W.cell? ⟨gr, k * 4 + 2, none⟩ = some (.float .f32 hkk) ∧ W.cell? ⟨gr, j * 4 + 1, none⟩ = some (.float .f32 mj) := fun W h => by
        rw [hbj, hmk, hhk, hmj]
        exact ⟨h.box, h.cell (by omega), h.cell (by omega), h.cell (by omega), h.cell (by omega)⟩
      have hV2 : ∀ m W, RwS w (some ⟨gr, 0, none⟩) gr cr N base (zs.set (j * 4 + 1) m) W → W.cell? ⟨w.heap.size, 0, none⟩ = some (.slice (some ⟨gr, 0, none⟩) N cr) ∧ W.cell? ⟨gr, k * 4 + 3, none⟩ = some (.float .f32 rk) ∧ W.cell? ⟨gr, j * 4 + 3, none⟩ = some (.float .f32 rj) := fun m W h => by
        rw [hrk, hrj]
        refine ⟨h.box, ?_, ?_⟩
        · rw [h.cell (j := k * 4 + 3) (by omega), getD_set_ne (by omega)]
        · rw [h.cell (j := j * 4 + 3) (by omega), getD_set_ne (by omega)]
      have HSTEP := Frame.hid (fun f t m u r (hf : FOp .quo .f32 bj mk f) (ht : FOp .mul .f32 f hkk t) (hm : FOp .sub .f32 mj t m) (hu : FOp .mul .f32 f rk u) (hr : FOp .sub .f32 rj u r) => (show RowsE xs ys N (j + 1 - 1) ((zs.set (j * 4 + 1) m).set (j * 4 + 3) r) from by
        have h := RowsE.step (k := k) (zs := zs) (f := f) (t := t) (m := m) (u := u) (r := r) (by rw [show k = j - 1 by omega]; exact hE) (by omega) (by rw [← hk, ← hbj, ← hmk]; exact hf) (by rw [← hhk]; exact ht) (by rw [← hk, ← hmj]; exact hm) (by rw [← hrk]; exact hu) (by rw [← hk, ← hrj]; exact hr)
        rw [← hk] at h
        exact h))
      have HV := Frame.hid hV
      have HV2 := Frame.hid hV2
      have HS := Frame.hid hS
      clear hV hV2 hE hk hC hbj hmk hhk hrk hmj hrj hzl
      gi_wp2
      clear q0
      have hCe : ∃ W, RwS w (some ⟨gr, 0, none⟩) gr cr N base zs W := ⟨_, HS.out⟩
      have hCd : ∀ W n, RwS w (some ⟨gr, 0, none⟩) gr cr N base zs W → RwS w (some ⟨gr, 0, none⟩) gr cr N base zs (W.drewN n) := fun W n h => h.drewN n
      refine region_mayI_n 12 (fun W => RwS w (some ⟨gr, 0, none⟩) gr cr N base zs W) RelNo rfl (by kernel_rfl) (by kernel_rfl) (HS.out.drewN 1) ?_
      refine' rI_read hCe (fun c hc => by cases hc) (fun _ _ _ => trivial) (Or.inl ⟨by rfl, fun wq hSq => _⟩) _
      rotate_left
      · obtain ⟨q0, q1, q2, q3, q4⟩ := HV.out wq hSq
        go_simp
        try with_reducible rfl
      simp only [Act.put, List.setIfInBounds_toArray, List.set_cons_zero, List.set_cons_succ]
      refine' rI_read hCe (fun c hc => by cases hc) (fun _ _ _ => trivial) (Or.inl ⟨by rfl, fun wq hSq => _⟩) _
      rotate_left
      · obtain ⟨q0, q1, q2, q3, q4⟩ := HV.out wq hSq
        go_simp
        try with_reducible rfl
      simp only [Act.put, List.setIfInBounds_toArray, List.set_cons_zero, List.set_cons_succ]
      refine' rI_read hCe (fun c hc => by cases hc) (fun _ _ _ => trivial) (Or.inl ⟨by rfl, fun wq hSq => _⟩) _
      rotate_left
      · obtain ⟨q0, q1, q2, q3, q4⟩ := HV.out wq hSq
        go_simp
        try with_reducible rfl
      simp only [Act.put, List.setIfInBounds_toArray, List.set_cons_zero, List.set_cons_succ]
      refine' rI_read hCe (fun c hc => by cases hc) (fun _ _ _ => trivial) (Or.inl ⟨by rfl, fun wq hSq => _⟩) _
      rotate_left
      · obtain ⟨q0, q1, q2, q3, q4⟩ := HV.out wq hSq
        go_simp
        try with_reducible rfl
      simp only [Act.put, List.setIfInBounds_toArray, List.set_cons_zero, List.set_cons_succ]
      refine' rI_read hCe (fun c hc => by cases hc) (fun _ _ _ => trivial) (Or.inl ⟨by rfl, fun wq hSq => _⟩) _
      rotate_left
      · obtain ⟨q0, q1, q2, q3, q4⟩ := HV.out wq hSq
        go_simp
        try with_reducible rfl
      simp only [Act.put, List.setIfInBounds_toArray, List.set_cons_zero, List.set_cons_succ]
      refine' rI_read hCe (fun c hc => by cases hc) (fun _ _ _ => trivial) (Or.inl ⟨by rfl, fun wq hSq => _⟩) _
      rotate_left
      · obtain ⟨q0, q1, q2, q3, q4⟩ := HV.out wq hSq
        go_simp
        try with_reducible rfl
      simp only [Act.put, List.setIfInBounds_toArray, List.set_cons_zero, List.set_cons_succ]
      refine' rI_read hCe (fun c hc => by cases hc) (fun _ _ _ => trivial) (Or.inl ⟨by rfl, fun wq hSq => _⟩) _
      rotate_left
      · obtain ⟨q0, q1, q2, q3, q4⟩ := HV.out wq hSq
        go_simp
        try with_reducible rfl
      simp only [Act.put, List.setIfInBounds_toArray, List.set_cons_zero, List.set_cons_succ]
      refine' rI_read hCe (fun c hc => by cases hc) (fun _ _ _ => trivial) (Or.inl ⟨by rfl, fun wq hSq => _⟩) _
      rotate_left
      · obtain ⟨q0, q1, q2, q3, q4⟩ := HV.out wq hSq
        go_simp
        try with_reducible rfl
      simp only [Act.put, List.setIfInBounds_toArray, List.set_cons_zero, List.set_cons_succ]
      refine' rI_read hCe (fun c hc => by cases hc) (fun _ _ _ => trivial) (Or.inl ⟨by rfl, fun wq hSq => _⟩) _
      rotate_left
      · obtain ⟨q0, q1, q2, q3, q4⟩ := HV.out wq hSq
        go_simp
        try with_reducible rfl
      simp only [Act.put, List.setIfInBounds_toArray, List.set_cons_zero, List.set_cons_succ]
      refine' rI_read hCe (fun c hc => by cases hc) (fun _ _ _ => trivial) (Or.inl ⟨by rfl, fun wq hSq => _⟩) _
      rotate_left
      · obtain ⟨q0, q1, q2, q3, q4⟩ := HV.out wq hSq
        go_simp
        try with_reducible rfl
      simp only [Act.put, List.setIfInBounds_toArray, List.set_cons_zero, List.set_cons_succ]
      refine' rI_read hCe (fun c hc => by cases hc) (fun _ _ _ => trivial) (Or.inl ⟨by rfl, fun wq hSq => _⟩) _
      rotate_left
      · obtain ⟨q0, q1, q2, q3, q4⟩ := HV.out wq hSq
        go_simp
        try with_reducible rfl
      simp only [Act.put, List.setIfInBounds_toArray, List.set_cons_zero, List.set_cons_succ]
      refine rI_arith hCe (fun _ _ _ => trivial) hCd rfl _ _ _ _ _ rfl rfl _ _ _ rfl rfl ?_
      intro f hf
      simp only [Act.put, List.setIfInBounds_toArray, List.set_cons_zero, List.set_cons_succ]
      refine rI_nil (fun w3 hw3 => ?_)
      have HW3 := Frame.hid hw3
      have HF := Frame.hid hf
      clear hw3 hf HS
      gi_wp2
      clear hCe hCd
      refine region_handI 16 (fun W => RwS w (some ⟨gr, 0, none⟩) gr cr N base zs W) (by kernel_rfl) ?_
      have hS3 : RwS w (some ⟨gr, 0, none⟩) gr cr N base zs w3.drew := HW3.out.drewN 1
      generalize w3.drew = wd at hS3 ⊢
      refine' wpEndI_take (fun _ => trivial) 0 rfl (by kernel_rfl) hS3 (Or.inl ⟨by rfl, fun wq hSq => _⟩) _
      rotate_left
      · (obtain ⟨q0, q1, q2, q3, q4⟩ := HV.out wq hSq; go_simp; (try with_reducible rfl))
      simp only [Act.put, List.setIfInBounds_toArray, List.set_cons_zero, List.set_cons_succ]
      refine' wpEndI_take (fun _ => trivial) 1 rfl (by kernel_rfl) hS3 (Or.inl ⟨by rfl, fun wq hSq => _⟩) _
      rotate_left
      · (obtain ⟨q0, q1, q2, q3, q4⟩ := HV.out wq hSq; go_simp; (try with_reducible rfl))
      simp only [Act.put, List.setIfInBounds_toArray, List.set_cons_zero, List.set_cons_succ]
      refine' wpEndI_take (fun _ => trivial) 2 rfl (by kernel_rfl) hS3 (Or.inl ⟨by rfl, fun wq hSq => _⟩) _
      rotate_left
      · (obtain ⟨q0, q1, q2, q3, q4⟩ := HV.out wq hSq; go_simp; (try with_reducible rfl))
      simp only [Act.put, List.setIfInBounds_toArray, List.set_cons_zero, List.set_cons_succ]
      refine' wpEndI_take (fun _ => trivial) 3 rfl (by kernel_rfl) hS3 (Or.inl ⟨by rfl, fun wq hSq => _⟩) _
      rotate_left
      · (obtain ⟨q0, q1, q2, q3, q4⟩ := HV.out wq hSq; go_simp; (try with_reducible rfl))
      simp only [Act.put, List.setIfInBounds_toArray, List.set_cons_zero, List.set_cons_succ]
      refine' wpEndI_take (fun _ => trivial) 4 rfl (by kernel_rfl) hS3 (Or.inl ⟨by rfl, fun wq hSq => _⟩) _
      rotate_left
      · (obtain ⟨q0, q1, q2, q3, q4⟩ := HV.out wq hSq; go_simp; (try with_reducible rfl))
      simp only [Act.put, List.setIfInBounds_toArray, List.set_cons_zero, List.set_cons_succ]
      refine' wpEndI_take (fun _ => trivial) 5 rfl (by kernel_rfl) hS3 (Or.inl ⟨by rfl, fun wq hSq => _⟩) _
      rotate_left
      · (obtain ⟨q0, q1, q2, q3, q4⟩ := HV.out wq hSq; go_simp; (try with_reducible rfl))
      simp only [Act.put, List.setIfInBounds_toArray, List.set_cons_zero, List.set_cons_succ]
      refine' wpEndI_take (fun _ => trivial) 6 rfl (by kernel_rfl) hS3 (Or.inl ⟨by rfl, fun wq hSq => _⟩) _
      rotate_left
      · (obtain ⟨q0, q1, q2, q3, q4⟩ := HV.out wq hSq; go_simp; (try with_reducible rfl))
      simp only [Act.put, List.setIfInBounds_toArray, List.set_cons_zero, List.set_cons_succ]
      refine' wpEndI_take (fun _ => trivial) 7 rfl (by kernel_rfl) hS3 (Or.inl ⟨by rfl, fun wq hSq => _⟩) _
      rotate_left
      · (obtain ⟨q0, q1, q2, q3, q4⟩ := HV.out wq hSq; go_simp; (try with_reducible rfl))
      simp only [Act.put, List.setIfInBounds_toArray, List.set_cons_zero, List.set_cons_succ]
      refine' wpEndI_take (fun _ => trivial) 8 rfl (by kernel_rfl) hS3 (Or.inl ⟨by rfl, fun wq hSq => _⟩) _
      rotate_left
      · (obtain ⟨q0, q1, q2, q3, q4⟩ := HV.out wq hSq; go_simp; (try with_reducible rfl))
      simp only [Act.put, List.setIfInBounds_toArray, List.set_cons_zero, List.set_cons_succ]
      refine' wpEndI_take (fun _ => trivial) 9 rfl (by kernel_rfl) hS3 (Or.inl ⟨by rfl, fun wq hSq => _⟩) _
      rotate_left
      · (obtain ⟨q0, q1, q2, q3, q4⟩ := HV.out wq hSq; go_simp; (try with_reducible rfl))
      simp only [Act.put, List.setIfInBounds_toArray, List.set_cons_zero, List.set_cons_succ]
      refine' wpEndI_take (fun _ => trivial) 10 rfl (by kernel_rfl) hS3 (Or.inl ⟨by rfl, fun wq hSq => _⟩) _
      rotate_left
      · (obtain ⟨q0, q1, q2, q3, q4⟩ := HV.out wq hSq; go_simp; (try with_reducible rfl))
      simp only [Act.put, List.setIfInBounds_toArray, List.set_cons_zero, List.set_cons_succ]
      refine' wpEndI_take (fun _ => trivial) 11 rfl (by kernel_rfl) hS3 (Or.inl ⟨by rfl, fun wq hSq => _⟩) _
      rotate_left
      · (obtain ⟨q0, q1, q2, q3, q4⟩ := HV.out wq hSq; go_simp; (try with_reducible rfl))
      simp only [Act.put, List.setIfInBounds_toArray, List.set_cons_zero, List.set_cons_succ]
      refine wpEndI_ready [12] (by kernel_rfl) rfl (AllI.cons rfl (fun K hK => ?_) AllI.nil)
      refine wpListIn_arithY rfl _ _ _ _ _ rfl rfl _ _ _ rfl rfl ?_
      intro t n_ ht _
      have hS3a := hS3.drewN n_
      generalize wd.drewN n_ = wd1 at hS3a ⊢
      refine wpListIn_nil ?_
      refine hK.out _ _ (.inr hS3a) ?_
      clear hK K hS3
      (try simp only [Act.put, List.setIfInBounds_toArray, List.set_cons_zero, List.set_cons_succ])
      refine wpEndI_ready [13] (by kernel_rfl) rfl (AllI.cons rfl (fun K hK => ?_) AllI.nil)
      refine wpListIn_arithY rfl _ _ _ _ _ rfl rfl _ _ _ rfl rfl ?_
      intro m n_ hm _
      have hS3b := hS3a.drewN n_
      generalize wd1.drewN n_ = w4 at hS3b ⊢
      refine wpListIn_nil ?_
      refine hK.out _ _ (.inr hS3b) ?_
      clear hK K hS3a
      (try simp only [Act.put, List.setIfInBounds_toArray, List.set_cons_zero, List.set_cons_succ])
      refine wpEndI_ready [14] (by kernel_rfl) rfl (AllI.cons rfl (fun K hK => ?_) AllI.nil)
      gi_wp2
      refine hK.out _ _ (.inr hS3b) ?_
      clear hK K
      (try simp only [Act.put, List.setIfInBounds_toArray, List.set_cons_zero, List.set_cons_succ])
      refine wpEndI_ready [15] (by kernel_rfl) rfl (AllI.cons rfl (fun K hK => ?_) AllI.nil)
      gi_wp2
      refine hK.out _ _ (.inr hS3b) ?_
      clear hK K
      (try simp only [Act.put, List.setIfInBounds_toArray, List.set_cons_zero, List.set_cons_succ])
      obtain ⟨-, -, -, -, c4⟩ := HV.out w4 hS3b
      have f4 := hS3b.froz (j * 4 + 1)
      have HW5 := Frame.hid (hS3b.put (by omega) (j * 4 + 1) m)
      have HT := Frame.hid (And.intro ht hm)
      clear ht hm HW3 hS3b
      refine wpEndI_ready [16] (by kernel_rfl) rfl (AllI.cons rfl (fun K hK => ?_) AllI.nil)
      gi_wp2
      refine hK.out _ _ (by first | exact .inl rfl | exact .inl trivial) ?_
      clear hK K
      refine wpEndI_done (by kernel_rfl) ?_
      clear c4 f4
      generalize w4.setCell ⟨gr, j * 4 + 1, none⟩ (.float .f32 m) = w5 at HW5 ⊢
      gi_wp2
      refine region_handI 16 (fun W => RwS w (some ⟨gr, 0, none⟩) gr cr N base (zs.set (j * 4 + 1) m) W) (by kernel_rfl) ?_
      have hS3 : RwS w (some ⟨gr, 0, none⟩) gr cr N base (zs.set (j * 4 + 1) m) w5.drew := HW5.out.drewN 1
      generalize w5.drew = wd at hS3 ⊢
      refine' wpEndI_take (fun _ => trivial) 0 rfl (by kernel_rfl) hS3 (Or.inl ⟨by rfl, fun wq hSq => _⟩) _
      rotate_left
      · (obtain ⟨q0, q1, q2⟩ := HV2.out _ wq hSq; go_simp; (try with_reducible rfl))
      simp only [Act.put, List.setIfInBounds_toArray, List.set_cons_zero, List.set_cons_succ]
      refine' wpEndI_take (fun _ => trivial) 1 rfl (by kernel_rfl) hS3 (Or.inl ⟨by rfl, fun wq hSq => _⟩) _
      rotate_left
      · (obtain ⟨q0, q1, q2⟩ := HV2.out _ wq hSq; go_simp; (try with_reducible rfl))
      simp only [Act.put, List.setIfInBounds_toArray, List.set_cons_zero, List.set_cons_succ]
      refine' wpEndI_take (fun _ => trivial) 2 rfl (by kernel_rfl) hS3 (Or.inl ⟨by rfl, fun wq hSq => _⟩) _
      rotate_left
      · (obtain ⟨q0, q1, q2⟩ := HV2.out _ wq hSq; go_simp; (try with_reducible rfl))
      simp only [Act.put, List.setIfInBounds_toArray, List.set_cons_zero, List.set_cons_succ]
      refine' wpEndI_take (fun _ => trivial) 3 rfl (by kernel_rfl) hS3 (Or.inl ⟨by rfl, fun wq hSq => _⟩) _
      rotate_left
      · (obtain ⟨q0, q1, q2⟩ := HV2.out _ wq hSq; go_simp; (try with_reducible rfl))
      simp only [Act.put, List.setIfInBounds_toArray, List.set_cons_zero, List.set_cons_succ]
      refine' wpEndI_take (fun _ => trivial) 4 rfl (by kernel_rfl) hS3 (Or.inl ⟨by rfl, fun wq hSq => _⟩) _
      rotate_left
      · (obtain ⟨q0, q1, q2⟩ := HV2.out _ wq hSq; go_simp; (try with_reducible rfl))
      simp only [Act.put, List.setIfInBounds_toArray, List.set_cons_zero, List.set_cons_succ]
      refine' wpEndI_take (fun _ => trivial) 5 rfl (by kernel_rfl) hS3 (Or.inl ⟨by rfl, fun wq hSq => _⟩) _
      rotate_left
      · (obtain ⟨q0, q1, q2⟩ := HV2.out _ wq hSq; go_simp; (try with_reducible rfl))
      simp only [Act.put, List.setIfInBounds_toArray, List.set_cons_zero, List.set_cons_succ]
      refine' wpEndI_take (fun _ => trivial) 6 rfl (by kernel_rfl) hS3 (Or.inl ⟨by rfl, fun wq hSq => _⟩) _
      rotate_left
      · (obtain ⟨q0, q1, q2⟩ := HV2.out _ wq hSq; go_simp; (try with_reducible rfl))
      simp only [Act.put, List.setIfInBounds_toArray, List.set_cons_zero, List.set_cons_succ]
      refine' wpEndI_take (fun _ => trivial) 7 rfl (by kernel_rfl) hS3 (Or.inl ⟨by rfl, fun wq hSq => _⟩) _
      rotate_left
      · (obtain ⟨q0, q1, q2⟩ := HV2.out _ wq hSq; go_simp; (try with_reducible rfl))
      simp only [Act.put, List.setIfInBounds_toArray, List.set_cons_zero, List.set_cons_succ]
      refine' wpEndI_take (fun _ => trivial) 8 rfl (by kernel_rfl) hS3 (Or.inl ⟨by rfl, fun wq hSq => _⟩) _
      rotate_left
      · (obtain ⟨q0, q1, q2⟩ := HV2.out _ wq hSq; go_simp; (try with_reducible rfl))
      simp only [Act.put, List.setIfInBounds_toArray, List.set_cons_zero, List.set_cons_succ]
      refine' wpEndI_take (fun _ => trivial) 9 rfl (by kernel_rfl) hS3 (Or.inl ⟨by rfl, fun wq hSq => _⟩) _
      rotate_left
      · (obtain ⟨q0, q1, q2⟩ := HV2.out _ wq hSq; go_simp; (try with_reducible rfl))
      simp only [Act.put, List.setIfInBounds_toArray, List.set_cons_zero, List.set_cons_succ]
      refine' wpEndI_take (fun _ => trivial) 10 rfl (by kernel_rfl) hS3 (Or.inl ⟨by rfl, fun wq hSq => _⟩) _
      rotate_left
      · (obtain ⟨q0, q1, q2⟩ := HV2.out _ wq hSq; go_simp; (try with_reducible rfl))
      simp only [Act.put, List.setIfInBounds_toArray, List.set_cons_zero, List.set_cons_succ]
      refine' wpEndI_take (fun _ => trivial) 11 rfl (by kernel_rfl) hS3 (Or.inl ⟨by rfl, fun wq hSq => _⟩) _
      rotate_left
      · (obtain ⟨q0, q1, q2⟩ := HV2.out _ wq hSq; go_simp; (try with_reducible rfl))
      simp only [Act.put, List.setIfInBounds_toArray, List.set_cons_zero, List.set_cons_succ]
      refine wpEndI_ready [12] (by kernel_rfl) rfl (AllI.cons rfl (fun K hK => ?_) AllI.nil)
      refine wpListIn_arithY rfl _ _ _ _ _ rfl rfl _ _ _ rfl rfl ?_
      intro u n_ hu _
      have hS3a := hS3.drewN n_
      generalize wd.drewN n_ = wd1 at hS3a ⊢
      refine wpListIn_nil ?_
      refine hK.out _ _ (.inr hS3a) ?_
      clear hK K hS3
      (try simp only [Act.put, List.setIfInBounds_toArray, List.set_cons_zero, List.set_cons_succ])
      refine wpEndI_ready [13] (by kernel_rfl) rfl (AllI.cons rfl (fun K hK => ?_) AllI.nil)
      refine wpListIn_arithY rfl _ _ _ _ _ rfl rfl _ _ _ rfl rfl ?_
      intro r n_ hr _
      have hS3b := hS3a.drewN n_
      generalize wd1.drewN n_ = w6 at hS3b ⊢
      refine wpListIn_nil ?_
      refine hK.out _ _ (.inr hS3b) ?_
      clear hK K hS3a
      (try simp only [Act.put, List.setIfInBounds_toArray, List.set_cons_zero, List.set_cons_succ])
      refine wpEndI_ready [14] (by kernel_rfl) rfl (AllI.cons rfl (fun K hK => ?_) AllI.nil)
      gi_wp2
      refine hK.out _ _ (.inr hS3b) ?_
      clear hK K
      (try simp only [Act.put, List.setIfInBounds_toArray, List.set_cons_zero, List.set_cons_succ])
      refine wpEndI_ready [15] (by kernel_rfl) rfl (AllI.cons rfl (fun K hK => ?_) AllI.nil)
      gi_wp2
      refine hK.out _ _ (.inr hS3b) ?_
      clear hK K
      (try simp only [Act.put, List.setIfInBounds_toArray, List.set_cons_zero, List.set_cons_succ])
      obtain ⟨-, -, c6⟩ := HV2.out m w6 hS3b
      have f6 := hS3b.froz (j * 4 + 3)
      have HW7 := Frame.hid (hS3b.put (by omega) (j * 4 + 3) r)
      have HU := Frame.hid (And.intro hu hr)
      clear hu hr HW5 hS3b
      refine wpEndI_ready [16] (by kernel_rfl) rfl (AllI.cons rfl (fun K hK => ?_) AllI.nil)
      gi_wp2
      refine hK.out _ _ (by first | exact .inl rfl | exact .inl trivial) ?_
      clear hK K
      refine wpEndI_done (by kernel_rfl) ?_
      clear c6 f6
      gi_wp2
      go_roundw
      case rel => exact ⟨j + 1, _, by omega, .inl (by omega), by go_num, HSTEP.out f t m u r HF.out HT.out.1 HT.out.2 HU.out.1 HU.out.2, HW7.out⟩
      case measure => simp [intOf]; omega
    · have hALL : ∀ i, i < N → WdR xs (i + 1) (zs.getD (i * 4 + 2) 0) ∧ ElimR xs ys i (zs.getD (i * 4 + 1) 0) (zs.getD (i * 4 + 3) 0) := fun i hi => ⟨(hE.2 i hi).2.1, (hE.2 i hi).2.2.1 (by omega)⟩
      have HALL := Frame.hid hALL
      have HS := Frame.hid hS
      have hmk := make_fB N (by omega)
      have hlw := hS.lt
      have hlw1 : w.heap.size ≠ wr.heap.size := by omega
      have hlw2 : w.heap.size ≠ wr.heap.size + 1 := by omega
      clear hALL hE
      gi_wp2_with (refine ⟨trivial, ?_⟩; gi_at_call 85; refine (backB_in Fence.wide 8 trivial rfl _ _ _ _).mono ?_; rintro e w' ⟨rfl, rfl⟩)
      obtain ⟨g, hgd⟩ : ∃ g, g = wr.heap.size := ⟨_, rfl⟩
      obtain ⟨gs, hgsd⟩ : ∃ gs, gs = wr.heap.size + 1 := ⟨_, rfl⟩
      obtain ⟨W1, hW1⟩ : ∃ W1, W1 = (wr.alloc (.cells (madeCells #[.float .f32 0] N) 25)).alloc (.cells #[.slice (some ⟨wr.heap.size, 0, none⟩) N N] 44) := ⟨_, rfl⟩
      obtain ⟨Bs, hBs⟩ : ∃ Bs, Bs = W1.heap.size := ⟨_, rfl⟩
      obtain ⟨W0, hW0⟩ : ∃ W0, W0 = W1.alloc (.cells #[.slice A N cr] 86) := ⟨_, rfl⟩
      have hBW1 : Below wr.heap.size wr W1 := by rw [hW1]; exact ((Below.refl _ _).alloc (Nat.le_refl _) _).alloc (by simp) _
      have hs1 : W1.heap.size = wr.heap.size + 2 := by rw [hW1]; simp
      have hK1 : BkS w A gr cr N base zs g gs (List.replicate N 0) W1 := by
        refine ⟨HS.out.below hBW1, ?_, by simp, ?_, by omega, by omega, by omega⟩
        · have h := made_ownB N (by omega) wr w.heap.size (Nat.le_of_lt hlw)
          rw [← hgd] at h
          rw [hW1]
          exact (h.below ((Below.refl _ _).alloc (Nat.le_refl _) _) : OwnF _ _ _ _)
        · rw [hW1, hgsd, hgd]; simp [go_sem]
      have hK0 : BkS w A gr cr N base zs g gs (List.replicate N 0) W0 := by rw [hW0]; exact hK1.below ((Below.refl _ _).alloc (Nat.le_refl _) _)
      have hBl : Bs < W0.heap.size := by rw [hW0, hBs]; simp
      have hBc : W0.cell? ⟨Bs, 0, none⟩ = some (.slice A N cr) := by rw [hW0, hBs]; simp [go_sem]
      have hgBs : gs < Bs := by have := hK1.lt; omega
      have hszb : (wr.alloc (.cells (madeCells #[.float .f32 0] N) 25)).heap.size + 1 = Bs := by rw [hBs, hs1]; simp
      have hwW : w.heap.size ≤ W0.heap.size := by rw [hW0]; simp; omega
      obtain ⟨b0, hb0, hb1⟩ : ∃ b0, b0 < W0.heap.size ∧ b0 ≠ g ∧ (0 < N → A = some ⟨b0, 0, none⟩ ∧ b0 = gr) := by
        by_cases hN0 : 0 < N
        · have := hS.yes hN0
          exact ⟨gr, by omega, by omega, fun _ => ⟨this.2, rfl⟩⟩
        · exact ⟨Bs, hBl, by omega, fun h => absurd h hN0⟩
      have hx0 : ∀ j, j < N * 4 → W0.cell? ⟨b0, 0 + j, none⟩ = some (.float .f32 (zs.getD j 0)) := fun j hj => by
        obtain ⟨e1, e2⟩ := hb1.2 (by omega)
        subst e2
        rw [Nat.zero_add]
        have h := hK0.rw_
        rw [e1] at h
        exact h.cell hj
      have HK0 := Frame.hid hK0
      have HBX := Frame.hid (And.intro hBc hx0)
      have hBs2 : gs + 1 = Bs := by omega
      rw [← hgd, ← hgsd] at *
      rw [← hW1, ← hW0, hBs2]
      have HB1 := Frame.hid hb1
      clear hb1 hW1 hW0 hBs hBW1 hs1 hK1 hBc hszb hx0 hK0 hmk q0 hS
      refine range_pair 64 65 6 7 (fun x : Fin N => .int .i64 ((N : Int) - 1 - (x.val : Int))) (fun x : Fin N => .agg #[.float .f32 (zs.getD ((N - 1 - x.val) * 4) 0), .float .f32 (zs.getD ((N - 1 - x.val) * 4 + 1) 0), .float .f32 (zs.getD ((N - 1 - x.val) * 4 + 2) 0), .float .f32 (zs.getD ((N - 1 - x.val) * 4 + 3) 0)]) (fun x : Fin N => #[.float .f32 (zs.getD ((N - 1 - x.val) * 4) 0), .float .f32 (zs.getD ((N - 1 - x.val) * 4 + 1) 0), .float .f32 (zs.getD ((N - 1 - x.val) * 4 + 2) 0), .float .f32 (zs.getD ((N - 1 - x.val) * 4 + 3) 0)]) 90 rfl (by omega) (gf := 97) (lb := #[.pointer (some ⟨Bs, 0, none⟩)]) rfl trivial (enters_of Try.func97 (by kernel_rfl) rfl)
        (backB_stops Fence.wide 8 trivial rfl (by omega) Bs b0 0 N cr A (fun h => (HB1.out.2 h).1) (by omega) zs W0 hBl (fun _ => hb0) HBX.out.1 HBX.out.2) (fun h k => h.trans k) (fun W l o o' hl _ _ _ => kpR_put (by omega) (by omega)) (Below.refl _ _) (fun _ => rfl)
        (fun pre W => (∃ us, BkS w A gr cr N base zs g gs us W ∧ (pre = upTo N pre.length → BackP xs ys N pre.length us)) ∧ W0.heap.size ≤ W.heap.size) (fun _ _ _ => False)
        (fun pre X Y row h hg hr => by obtain ⟨⟨us, h1, h2⟩, h3⟩ := h; exact ⟨⟨us, h1.kept hg hr hwW, h2⟩, Nat.le_trans h3 hg.size⟩)
        (fun _ _ _ _ _ h _ _ => h)
        ⟨⟨List.replicate N 0, HK0.out, fun _ => ⟨by simp, fun i h1 h2 => by simp at h2; omega⟩⟩, Nat.le_refl _⟩
        ?assign ?body ?done ?stop
      case assign =>
        rintro l pre x W K hI hK
        have HKK := Frame.hid hK
        obtain ⟨⟨us, hB, hP⟩, hsW⟩ := hI
        have hxN : 0 < N := by have := x.isLt; omega
        have hlW := hB.lt
        have HI := Frame.hid (show ∃ us, BkS w A gr cr N base zs g gs us W ∧ (pre = upTo N pre.length → BackP xs ys N pre.length us) from ⟨us, hB, hP⟩)
        have HB := Frame.hid hB
        clear hK hB hP
        dsimp only [encBackB]
        rw [fold2B]
        obtain ⟨zi, hzi⟩ : ∃ zi, zi = (N : Int) - 1 - (x.val : Int) := ⟨_, rfl⟩
        obtain ⟨v0, hv0⟩ : ∃ v, v = zs.getD ((N - 1 - x.val) * 4) 0 := ⟨_, rfl⟩
        obtain ⟨v1, hv1⟩ : ∃ v, v = zs.getD ((N - 1 - x.val) * 4 + 1) 0 := ⟨_, rfl⟩
        obtain ⟨v2, hv2⟩ : ∃ v, v = zs.getD ((N - 1 - x.val) * 4 + 2) 0 := ⟨_, rfl⟩
        obtain ⟨v3, hv3⟩ : ∃ v, v = zs.getD ((N - 1 - x.val) * 4 + 3) 0 := ⟨_, rfl⟩
        rw [← hzi, ← hv0, ← hv1, ← hv2, ← hv3]
        have HZX := Frame.hid (And.intro hzi (And.intro hv0 (And.intro hv1 (And.intro hv2 hv3))))
        clear hzi hv0 hv1 hv2 hv3
        simp only [List.setIfInBounds_toArray, List.set_cons_zero, List.set_cons_succ]
        gi_wp2
        have hB := HB.out
        obtain ⟨rfl, rfl, rfl, rfl, rfl⟩ := HZX.out
        refine HKK.out _ _ ((KeepsOthers.alloc _ _).from _) (kpR_alloc (by omega) (by omega)) ?_ ⟨W.heap.size, hsW, World.alloc_heap_new _ _, ?_⟩
        · obtain ⟨us, h1, h2⟩ := HI.out
          exact ⟨⟨us, h1.below ((Below.refl _ _).alloc (Nat.le_refl _) _), h2⟩, by simp; omega⟩
        · simp only [List.setIfInBounds_toArray, List.set_cons_zero, List.set_cons_succ]
      case body =>
        rintro l pre x Bx W hl ⟨rl, hr⟩ ⟨⟨us, hB, hP⟩, hsW⟩ hBx hBh hlt
        have hxN : 0 < N := by have := x.isLt; omega
        have hgr := (hB.rw_.yes hxN).1
        simp only [List.setIfInBounds_toArray, List.set_cons_zero, List.set_cons_succ]
        obtain ⟨q, hq⟩ : ∃ q, q + x.val + 1 = N := ⟨N - 1 - x.val, by have := x.isLt; omega⟩
        have e1 : (N : Int) - 1 - (x.val : Int) = (q : Int) := by omega
        have e2 : N - 1 - x.val = q := by omega
        rw [e1, e2]
        rw [e2] at hBh
        obtain ⟨r0, r1, r2, r3⟩ := row4_at hBh
        obtain ⟨wh, el⟩ := HALL.out q (by omega)
        have HWE := Frame.hid (And.intro wh el)
        generalize zs.getD (q * 4) 0 = v0 at r0 hBh ⊢
        generalize zs.getD (q * 4 + 1) 0 = v1 at r1 hBh HWE ⊢
        generalize zs.getD (q * 4 + 2) 0 = v2 at r2 hBh HWE ⊢
        generalize zs.getD (q * 4 + 3) 0 = v3 at r3 hBh HWE ⊢
        have hbox := hB.rw_.box
        have hbS := hB.bS
        have hlW := hB.lt
        have hfz := hB.own.froz hB.len.symm q
        have hcq := hB.own.cell hB.len.symm (j := q) (by have := hB.len; omega)
        generalize us.getD q 0 = oq at hcq
        have HB := Frame.hid hB
        have HP := Frame.hid hP
        have HQ := Frame.hid hq
        have HBX2 := Frame.hid (And.intro hBx (And.intro hsW hl))
        have b0' : (q : Int) < (N : Int) := by omega
        have b1 : (0 : Int) ≤ (q : Int) := by omega
        have a1 : ¬ ((q : Int) + 1 < 0) := by omega
        have a2 : (0 : Int) ≤ (q : Int) + 1 := by omega
        have a3 : ((q : Int) + 1).toNat = q + 1 := by omega
        have a5 : IntKind.i64.wrap ((q : Int) + 1) = (q : Int) + 1 := by rw [IntKind.wrap_i64]; omega
        have hWq := hB.lt
        clear hB hP e1 e2 wh el hlt hr hBx hsW hl hBh
        by_cases hlast : (q : Int) + 1 < (N : Int)
        · have hco := HB.out.own.cell HB.out.len.symm (j := q + 1) (by have := HB.out.len; omega)
          obtain ⟨ov, hov⟩ : ∃ ov, ov = us.getD (q + 1) 0 := ⟨_, rfl⟩
          rw [← hov] at hco
          have HOV := Frame.hid hov
          have HV := Frame.hid (And.intro r2 (And.intro hbS hco))
          clear hov
          gi_wp2
          have hCe : ∃ W', ∃ q, W' = W.drewN q := ⟨W, 0, rfl⟩
          have hCd : ∀ W' nn, (∃ q, W' = W.drewN q) → ∃ q, W'.drewN nn = W.drewN q := fun W' nn ⟨q, hq⟩ => ⟨q + nn, by rw [hq]; exact World.drewN_drewN _ _ _⟩
          refine region_mayI_n 10 (fun W' => ∃ q, W' = W.drewN q) RelNo rfl (by kernel_rfl) (by kernel_rfl) (hCd _ 1 ⟨0, rfl⟩) ?_
          refine' rI_read hCe (fun c hc => by cases hc) (fun _ _ _ => trivial) (Or.inl ⟨by rfl, fun wq hSq => _⟩) _
          rotate_left
          · obtain ⟨kq, rfl⟩ := hSq; have q0 : (W.drewN kq).cell? ⟨Bx, 2, none⟩ = some (.float .f32 v2) := HV.out.1; have q1 : (W.drewN kq).cell? ⟨gs, 0, none⟩ = some (.slice (some ⟨g, 0, none⟩) N N) := HV.out.2.1; have q2 : (W.drewN kq).cell? ⟨g, q + 1, none⟩ = some (.float .f32 ov) := HV.out.2.2
            go_simp
            try with_reducible rfl
          simp only [Act.put, List.setIfInBounds_toArray, List.set_cons_zero, List.set_cons_succ]
          refine' rI_read hCe (fun c hc => by cases hc) (fun _ _ _ => trivial) (Or.inl ⟨by rfl, fun wq hSq => _⟩) _
          rotate_left
          · obtain ⟨kq, rfl⟩ := hSq; have q0 : (W.drewN kq).cell? ⟨Bx, 2, none⟩ = some (.float .f32 v2) := HV.out.1; have q1 : (W.drewN kq).cell? ⟨gs, 0, none⟩ = some (.slice (some ⟨g, 0, none⟩) N N) := HV.out.2.1; have q2 : (W.drewN kq).cell? ⟨g, q + 1, none⟩ = some (.float .f32 ov) := HV.out.2.2
            go_simp
            try with_reducible rfl
          simp only [Act.put, List.setIfInBounds_toArray, List.set_cons_zero, List.set_cons_succ]
          refine' rI_read hCe (fun c hc => by cases hc) (fun _ _ _ => trivial) (Or.inl ⟨by rfl, fun wq hSq => _⟩) _
          rotate_left
          · obtain ⟨kq, rfl⟩ := hSq; have q0 : (W.drewN kq).cell? ⟨Bx, 2, none⟩ = some (.float .f32 v2) := HV.out.1; have q1 : (W.drewN kq).cell? ⟨gs, 0, none⟩ = some (.slice (some ⟨g, 0, none⟩) N N) := HV.out.2.1; have q2 : (W.drewN kq).cell? ⟨g, q + 1, none⟩ = some (.float .f32 ov) := HV.out.2.2
            go_simp
            try with_reducible rfl
          simp only [Act.put, List.setIfInBounds_toArray, List.set_cons_zero, List.set_cons_succ]
          refine' rI_read hCe (fun c hc => by cases hc) (fun _ _ _ => trivial) (Or.inl ⟨by rfl, fun wq hSq => _⟩) _
          rotate_left
          · obtain ⟨kq, rfl⟩ := hSq; have q0 : (W.drewN kq).cell? ⟨Bx, 2, none⟩ = some (.float .f32 v2) := HV.out.1; have q1 : (W.drewN kq).cell? ⟨gs, 0, none⟩ = some (.slice (some ⟨g, 0, none⟩) N N) := HV.out.2.1; have q2 : (W.drewN kq).cell? ⟨g, q + 1, none⟩ = some (.float .f32 ov) := HV.out.2.2
            go_simp
            try with_reducible rfl
          simp only [Act.put, List.setIfInBounds_toArray, List.set_cons_zero, List.set_cons_succ]
          refine' rI_read hCe (fun c hc => by cases hc) (fun _ _ _ => trivial) (Or.inl ⟨by rfl, fun wq hSq => _⟩) _
          rotate_left
          · obtain ⟨kq, rfl⟩ := hSq; have q0 : (W.drewN kq).cell? ⟨Bx, 2, none⟩ = some (.float .f32 v2) := HV.out.1; have q1 : (W.drewN kq).cell? ⟨gs, 0, none⟩ = some (.slice (some ⟨g, 0, none⟩) N N) := HV.out.2.1; have q2 : (W.drewN kq).cell? ⟨g, q + 1, none⟩ = some (.float .f32 ov) := HV.out.2.2
            go_simp
            try with_reducible rfl
          simp only [Act.put, List.setIfInBounds_toArray, List.set_cons_zero, List.set_cons_succ]
          refine' rI_read hCe (fun c hc => by cases hc) (fun _ _ _ => trivial) (Or.inl ⟨by rfl, fun wq hSq => _⟩) _
          rotate_left
          · obtain ⟨kq, rfl⟩ := hSq; have q0 : (W.drewN kq).cell? ⟨Bx, 2, none⟩ = some (.float .f32 v2) := HV.out.1; have q1 : (W.drewN kq).cell? ⟨gs, 0, none⟩ = some (.slice (some ⟨g, 0, none⟩) N N) := HV.out.2.1; have q2 : (W.drewN kq).cell? ⟨g, q + 1, none⟩ = some (.float .f32 ov) := HV.out.2.2
            go_simp
            try with_reducible rfl
          simp only [Act.put, List.setIfInBounds_toArray, List.set_cons_zero, List.set_cons_succ]
          refine' rI_read hCe (fun c hc => by cases hc) (fun _ _ _ => trivial) (Or.inl ⟨by rfl, fun wq hSq => _⟩) _
          rotate_left
          · obtain ⟨kq, rfl⟩ := hSq; have q0 : (W.drewN kq).cell? ⟨Bx, 2, none⟩ = some (.float .f32 v2) := HV.out.1; have q1 : (W.drewN kq).cell? ⟨gs, 0, none⟩ = some (.slice (some ⟨g, 0, none⟩) N N) := HV.out.2.1; have q2 : (W.drewN kq).cell? ⟨g, q + 1, none⟩ = some (.float .f32 ov) := HV.out.2.2
            go_simp
            try with_reducible rfl
          simp only [Act.put, List.setIfInBounds_toArray, List.set_cons_zero, List.set_cons_succ]
          refine' rI_read hCe (fun c hc => by cases hc) (fun _ _ _ => trivial) (Or.inl ⟨by rfl, fun wq hSq => _⟩) _
          rotate_left
          · obtain ⟨kq, rfl⟩ := hSq; have q0 : (W.drewN kq).cell? ⟨Bx, 2, none⟩ = some (.float .f32 v2) := HV.out.1; have q1 : (W.drewN kq).cell? ⟨gs, 0, none⟩ = some (.slice (some ⟨g, 0, none⟩) N N) := HV.out.2.1; have q2 : (W.drewN kq).cell? ⟨g, q + 1, none⟩ = some (.float .f32 ov) := HV.out.2.2
            go_simp
            try with_reducible rfl
          simp only [Act.put, List.setIfInBounds_toArray, List.set_cons_zero, List.set_cons_succ]
          refine rI_arith hCe (fun _ _ _ => trivial) hCd rfl _ _ _ _ _ rfl rfl _ _ _ rfl rfl ?_
          intro t ht
          simp only [Act.put, List.setIfInBounds_toArray, List.set_cons_zero, List.set_cons_succ]
          refine rI_arith hCe (fun _ _ _ => trivial) hCd rfl _ _ _ _ _ rfl rfl _ _ _ rfl rfl ?_
          intro u hu
          simp only [Act.put, List.setIfInBounds_toArray, List.set_cons_zero, List.set_cons_succ]
          refine rI_nil (fun w3 hw3 => ?_)
          obtain ⟨q3, rfl⟩ := hw3
          have HTU := Frame.hid (And.intro ht hu)
          clear ht hu hCe hCd
          gi_wp2_with (refine wpListIn_arithY rfl _ _ _ _ _ rfl rfl _ _ _ rfl rfl ?_; intro r' n' hr' hl')
          refine ⟨((KeepsOthers.setCell _ _ _).trans (keepsB _ _)).from _, ⟨fun i => ?_, fun i => ?_⟩, ⟨_, (HB.out.put q _).drewN _, fun hp => ?_⟩, by simpa using HBX2.out.2.1⟩
          · show (W.setCell _ _).cell? _ = _
            rw [World.cell?_setCell_other _ _ _ _ (by intro e; injection e with e; omega)]
          · show (W.setCell _ _).cell? _ = _
            rw [World.cell?_setCell_other _ _ _ _ (by intro e; injection e with e; have := HB1.out.1; omega)]
          · have hl1 : (pre ++ [x]).length = pre.length + 1 := by simp
            rw [hl1] at hp ⊢
            obtain ⟨g1, g2⟩ := upTo_lastB hp
            exact back_next (HP.out g1) (by have := HQ.out; omega) (by omega) HWE.out.2 HWE.out.1 HOV.out HTU.out.1 HTU.out.2 hr'
        · gi_wp2_with (refine wpListIn_arithY rfl _ _ _ _ _ rfl rfl _ _ _ rfl rfl ?_; intro r' n' hr' hl')
          refine ⟨((KeepsOthers.setCell _ _ _).trans (keepsB _ _)).from _, ⟨fun i => ?_, fun i => ?_⟩, ⟨_, (HB.out.put q _).drewN _, fun hp => ?_⟩, by simpa using HBX2.out.2.1⟩
          · show (W.setCell _ _).cell? _ = _
            rw [World.cell?_setCell_other _ _ _ _ (by intro e; injection e with e; omega)]
          · show (W.setCell _ _).cell? _ = _
            rw [World.cell?_setCell_other _ _ _ _ (by intro e; injection e with e; have := HB1.out.1; omega)]
          · have hl1 : (pre ++ [x]).length = pre.length + 1 := by simp
            rw [hl1] at hp ⊢
            obtain ⟨g1, g2⟩ := upTo_lastB hp
            exact back_first (HP.out g1) (by have := HQ.out; omega) (by omega) HWE.out.2 hr'
      case stop => exact fun D cd pre W hD hpre h hK => h.elim
      case done =>
        rintro D pre W hD rfl ⟨⟨us, hB, hP⟩, hsW⟩ hK
        have hP1 : BackP xs ys N N us := by
          have h := hP (by rw [List.length_finRange]; exact (upTo_all N).symm)
          rw [List.length_finRange] at h
          exact h
        have HP1 := Frame.hid hP1
        have hbS := hB.bS
        have HB := Frame.hid hB
        have HKD := Frame.hid hK
        clear hP hP1 hB hK
        gi_wp2
        refine ⟨by simp, .inl ⟨_, _, rfl, run_takeDeferred (P := Try.prog) (by exact HKD.out), ?_⟩⟩
        have hE := HB.out.kept (b0 := w.heap.size) (grownBy_putObj' W D (.deferred none)) (fun r e => by cases e; exact ⟨by omega, _, HKD.out, rfl⟩) (Nat.le_refl _)
        exact ⟨.slice (some ⟨g, 0, none⟩) N N, by simp [results, Try.f55, go_sem], .slice (some ⟨g, 0, none⟩) N N, rfl, us, HP1.out, hE.own, hE.rw_.keep, hE.rw_.bel⟩

end Go.Proofs.Ytfkdkdocbecjmaa
