/-
  CutSheet: what both sides lay, up to not-a-numbers; the program's memory; steps backward.
-/
import Derived.Test.YtnbgnaenlbphcaaE1
import Derived.Test.YtnbgnaenlbphcaaJg
import Derived.Test.YtnbgnaenlbphcaaB2
import Derived.Test.YtnbgnaenlbphcaaZi
import Derived.Test.YtnbgnaenlbphcaaRz
import Derived.Test.YtnbgnaenlbphcaaH1
import Derived.Maps.OwnIn
import Derived.RangeFuncNested
import Derived.RangeFuncWrites
namespace Go.Proofs.Ytnbgnaenlbphcaa
open Go.RowKit Go.Shelf Fl Ieee Go.WideShapes Go.Deep
attribute [local go_sem] Oper.semAt_some

def encBackS (xs : List Value) {m : Nat} (x : Fin m) : Array Value := #[.int .i64 ((m : Int) - 1 - (x.val : Int)), xs.getD (m - 1 - x.val) undef]
/-- The two blocks that the walk reads stay. -/
def KpS (Bs b : Nat) (A B : World) : Prop := (∀ i, B.cell? ⟨Bs, i, none⟩ = A.cell? ⟨Bs, i, none⟩) ∧ (∀ i, B.cell? ⟨b, i, none⟩ = A.cell? ⟨b, i, none⟩)

set_option maxRecDepth 100000 in
set_option maxHeartbeats 1000000 in
theorem backS1_in (F : Fence) (n : Nat) (hF : F.fn 121) (hro : F.round = none) (hn : 1 ≤ n) (l Bs b off m c : Nat) (A : Option Addr) (hA : 0 < m → A = some ⟨b, off, none⟩) (hm : m ≤ 1000) (xs : List Value) (J Jx : List (Fin m) → World → Prop)
    (hY : ∀ pre x W, J pre W → pre.length < m → YieldAt F (n - 1) Try.prog l (encBackS xs x) W fun e W' => (e = .returned (.bool true) ∧ J (pre ++ [x]) W' ∧ KpS Bs b W W') ∨ (e = .returned (.bool false) ∧ Jx (pre ++ [x]) W'))
    (W : World) (hBs : W.cell? ⟨Bs, 0, none⟩ = some (.slice A m c)) (hxs : ∀ j, j < m → W.cell? ⟨b, off + j, none⟩ = some (xs.getD j undef)) (h0 : J [] W) :
    CallsIn F n Try.prog 121 #[.func (.yield l) #[] #[], .pointer (some ⟨Bs, 0, none⟩)] W fun e W' => (∃ v, e = .returned v) ∧
      ((∃ ys, ys = List.finRange m ∧ J ys W') ∨ (∃ pre, (∃ k, k ≤ m ∧ pre = upTo m k) ∧ Jx pre W')) := by
  refine callsIn_of_wp Try.func121 rfl hF ?_ hro
  simp only [Try.ntmps121, List.size_toArray, List.length_cons, List.length_nil, Nat.reduceAdd, Nat.reduceSub, Array.replicate_succ, Array.replicate_zero, List.push_toArray, List.append_toArray, List.nil_append, List.cons_append]
  have HXS := Frame.hid hxs
  clear hxs
  have hBX := hBs
  gi_wp2
  clear hBs
  gi_loopw [3] (fun p wr => ∃ (k : Nat) (z : Int), k ≤ m ∧ z = (m : Int) - 1 - (k : Int) ∧ p = .int .i64 z ∧ J (upTo m k) wr ∧ wr.cell? ⟨Bs, 0, none⟩ = some (.slice A m c) ∧ (∀ j, j < m → wr.cell? ⟨b, off + j, none⟩ = some (xs.getD j undef))) (fun p _ => (intOf p + 1).toNat)
  case atStart => exact ⟨0, _, Nat.zero_le _, by omega, rfl, h0, hBX, HXS.out⟩
  case round =>
    obtain ⟨k, z, hk, hz, rfl, hJs, hB1, hX1⟩ := hrel
    by_cases hlt : k < m
    · obtain ⟨q, hq⟩ : ∃ q, q + k + 1 = m := ⟨m - 1 - k, by omega⟩
      have hzq : z = (q : Int) := by omega
      subst hzq
      obtain ⟨fn, tmps, assign, body, hy, hR⟩ := hY (upTo m k) ⟨k, hlt⟩ wr hJs (by rw [upTo_len hk]; exact hlt)
      have e1 : (m : Int) - 1 - ((⟨k, hlt⟩ : Fin m).val : Int) = (q : Int) := by show (m : Int) - 1 - (k : Int) = _; omega
      have e2 : m - 1 - (⟨k, hlt⟩ : Fin m).val = q := by show m - 1 - k = q; omega
      unfold encBackS at hy
      rw [e1, e2] at hy
      have c1 := hX1 q (by omega)
      generalize xs.getD q undef = x at hy c1
      have HX1 := Frame.hid hX1
      have HB1 := Frame.hid hB1
      have hqm : (q : Int) < (m : Int) := by omega
      have HQ := Frame.hid hq
      clear hX1 hB1 e1 e2 hz hq
      have hB1 := HB1.out
      rw [hA (by omega)] at hB1
      gi_wp2
      refine hR.mono ?_
      rintro e W3 (⟨rfl, hJ3, hk3⟩ | ⟨rfl, hJx3⟩)
      · gi_wp2
        go_roundw
        case rel => exact ⟨k + 1, _, by omega, by have := HQ.out; omega, rfl, by rw [upTo_succ hlt]; exact hJ3, (hk3.1 0).trans HB1.out, fun j hj => (hk3.2 _).trans (HX1.out j hj)⟩
        case measure => simp [intOf]
      · gi_wp2
        refine bodyPost_ret (results_none rfl _ _ _) rfl ?_
        exact ⟨⟨_, rfl⟩, .inr ⟨_, ⟨k + 1, by omega, (upTo_succ hlt).symm⟩, hJx3⟩⟩
    · have hkm : k = m := by omega
      subst hkm
      have hz1 : z = -1 := by omega
      subst hz1
      gi_wp2
      go_end0
      exact ⟨⟨_, rfl⟩, .inl ⟨_, upTo_all k, hJs⟩⟩

set_option maxHeartbeats 1000000 in
theorem backS_in (F : Fence) (n : Nat) (hF : F.fn 64) (hro : F.round = none) (A : Option Addr) (m c : Nat) (w : World) :
    CallsIn F n Try.prog 64 #[.slice A m c] w fun e w' => e = .returned (.func (.func 121) #[] #[.pointer (some ⟨w.heap.size, 0, none⟩)]) ∧ w' = w.alloc (.cells #[.slice A m c] 82) := by
  refine callsIn_of_wp Try.func64 rfl hF ?_ hro
  simp only [Try.ntmps64, List.size_toArray, List.length_cons, List.length_nil, Nat.reduceAdd, Nat.reduceSub, Array.replicate_succ, Array.replicate_zero, List.push_toArray, List.append_toArray, List.nil_append, List.cons_append]
  gi_wp2
  go_ret
  exact ⟨rfl, rfl⟩

theorem backS_stops (F : Fence) (n : Nat) (hF : F.fn 121) (hro : F.round = none) (hn : 1 ≤ n) (Bs b off m c : Nat) (A : Option Addr) (hA : 0 < m → A = some ⟨b, off, none⟩) (hm : m ≤ 1000) (xs : List Value) (w : World) (hBl : Bs < w.heap.size) (hbl : 0 < m → b < w.heap.size)
    (hBs : w.cell? ⟨Bs, 0, none⟩ = some (.slice A m c)) (hxs : ∀ j, j < m → w.cell? ⟨b, off + j, none⟩ = some (xs.getD j undef)) :
    SeqStopsK F n Try.prog 121 #[.pointer (some ⟨Bs, 0, none⟩)] (fun x : Fin m => encBackS xs x) (KpS Bs b) (fun ys => ys = List.finRange m) (fun pre => ∃ k, k ≤ m ∧ pre = upTo m k) m w := fun l J Jx W hW _ _ hY h0 =>
  backS1_in F n hF hro hn l Bs b off m c A hA hm xs J Jx hY W ((hW.cell (p := ⟨Bs, 0, none⟩) hBl).trans hBs) (fun j hj => (hW.cell (p := ⟨b, off + j, none⟩) (hbl (by omega))).trans (hxs j hj)) h0


/-- A row of a sheet. -/
def rowP (xs : List (Nat × Nat × Nat)) (p j : Nat) : List (Nat × Nat × Nat) := partL xs (fun i => j * p + i) p
theorem rowP_len (xs : List (Nat × Nat × Nat)) (p j : Nat) : (rowP xs p j).length = p := partL_len _ _ _
/-- Spots of the steps of each row's cutting, c of them; st tells which step, pos which spot of it. -/
def PartP (st pos : Nat → Nat) (t p : Nat) (xs : List (Nat × Nat × Nat)) (c : Nat) (zs : List (Nat × Nat × Nat)) : Prop :=
  zs.length = c ∧ ∀ j i, i < p → j * p + i < c → ∃ ys, CutR t (st i) (rowP xs p j) ys ∧ zs.getD (j * p + i) (0, 0, 0) = ys.getD (pos i) (0, 0, 0)
theorem place_eq {p j i j' i' : Nat} (hi : i < p) (hi' : i' < p) (e : j * p + i = j' * p + i') : j = j' ∧ i = i' := by
  have h1 : (j * p + i) / p = j := by rw [Nat.mul_comm, Nat.mul_add_div (by omega), Nat.div_eq_of_lt hi]; rfl
  have h2 : (j' * p + i') / p = j' := by rw [Nat.mul_comm, Nat.mul_add_div (by omega), Nat.div_eq_of_lt hi']; rfl
  have h3 : j = j' := by rw [← h1, ← h2, e]
  subst h3
  exact ⟨rfl, by omega⟩
theorem PartP.nil (st pos : Nat → Nat) (t p : Nat) (xs : List (Nat × Nat × Nat)) : PartP st pos t p xs 0 [] := ⟨rfl, fun _ _ _ h => absurd h (by omega)⟩
theorem PartP.step {st pos : Nat → Nat} {t p c j i : Nat} {xs zs ys : List (Nat × Nat × Nat)} {e : Nat × Nat × Nat} (h : PartP st pos t p xs c zs) (hc : c = j * p + i) (hi : i < p) (hy : CutR t (st i) (rowP xs p j) ys) (he : e = ys.getD (pos i) (0, 0, 0)) : PartP st pos t p xs (c + 1) (zs ++ [e]) := by
  obtain ⟨h1, h2⟩ := h
  refine ⟨by rw [List.length_append, h1]; rfl, fun j' i' hi' hlt => ?_⟩
  by_cases hlt' : j' * p + i' < c
  · obtain ⟨ys', a, b⟩ := h2 j' i' hi' hlt'
    exact ⟨ys', a, by rw [List.getD_eq_getElem?_getD, List.getElem?_append_left (by omega), ← List.getD_eq_getElem?_getD]; exact b⟩
  · obtain ⟨rfl, rfl⟩ := place_eq hi' hi (show j' * p + i' = j * p + i by omega)
    refine ⟨ys, hy, ?_⟩
    rw [List.getD_eq_getElem?_getD, List.getElem?_append_right (by omega), h1, ← hc, Nat.sub_self, ← he]
    rfl
theorem PartP.same {st pos : Nat → Nat} {t p c : Nat} {xs zs zs' : List (Nat × Nat × Nat)} (hp : 1 ≤ p) (hpos : ∀ i, i < p → pos i < p - st i) (h : PartP st pos t p xs c zs) (g : PartP st pos t p xs c zs') : LS zs zs' := by
  refine ⟨by rw [h.1, g.1], fun k hk => ?_⟩
  rw [h.1] at hk
  have hm : k % p < p := Nat.mod_lt _ (by omega)
  have hd : k / p * p + k % p = k := by rw [Nat.mul_comm]; exact Nat.div_add_mod k p
  obtain ⟨ys, a, b⟩ := h.2 (k / p) (k % p) hm (by omega)
  obtain ⟨ys', a', b'⟩ := g.2 (k / p) (k % p) hm (by omega)
  rw [hd] at b b'
  have hL := CutR.same (FSame.refl _ _) (LS.refl _) a a'
  have hl := CutR.len a
  rw [rowP_len] at hl
  have h3 := hL.s (pos (k % p)) (by rw [hl]; exact hpos _ hm)
  unfold sx sy sz at h3 ⊢
  rw [b, b']
  exact h3
/-- The former part and the latter one. -/
def FormP (t p : Nat) (xs : List (Nat × Nat × Nat)) (c : Nat) (zs : List (Nat × Nat × Nat)) : Prop := PartP (fun i => i) (fun _ => 0) t p xs c zs
def LatP (t p : Nat) (xs : List (Nat × Nat × Nat)) (c : Nat) (zs : List (Nat × Nat × Nat)) : Prop := PartP (fun i => p - 1 - i) (fun i => i) t p xs c zs

theorem Sh3.keptB {X Y : World} {g : Nat} {a b : Int} {s : Value} {row : Option Nat} (h : Sh3 X g a b s) (hg : X.grownBy Y row) (hr : ∀ r, row = some r → ∃ o : Obj, X.heap[r]? = some o ∧ o.isCells = false) : Sh3 Y g a b s :=
  ⟨cell_kept h.c0 hg hr, cell_kept h.c1 hg hr, cell_kept h.c2 hg hr, Nat.lt_of_lt_of_le h.l hg.size⟩
theorem ownS_kept {X Y : World} {base n : Nat} {v : Value} {xs : List Value} {row : Option Nat} (h : X.ownsRow base 57 3 v n xs) (hg : X.grownBy Y row) (hr : ∀ r, row = some r → ∃ o : Obj, X.heap[r]? = some o ∧ o.isCells = false) : Y.ownsRow base 57 3 v n xs := by
  refine World.ownsRow.kept h hg ?_
  cases hv : v.ownBlock with
  | none => exact .inl rfl
  | some k =>
    right
    intro e
    obtain ⟨o, ho, hc⟩ := hr k e.symm
    rcases h.2 with ⟨h0, _⟩ | ⟨g, cap, cur, e1, _, hh, _⟩
    · rw [h0] at hv; cases hv
    · rw [e1] at hv
      injection hv with hv
      subst hv
      rw [hh] at ho
      injection ho with ho
      subst ho
      cases hc
theorem sh3_putO {w : World} {g k i : Nat} {a b : Int} {s u : Value} (h : Sh3 w g a b s) (hk : k ≠ g) : Sh3 (w.setCell ⟨k, i, none⟩ u) g a b s := by
  refine ⟨?_, ?_, ?_, by simpa using h.l⟩
  all_goals rw [World.cell?_setCell_other _ _ _ _ (by intro e; injection e with e1; exact hk e1)]
  · exact h.c0
  · exact h.c1
  · exact h.c2
theorem sh3_putL {w : World} {g : Nat} {a b : Int} {s : Value} (h : Sh3 w g a b s) (u : Value) : Sh3 (w.setCell ⟨g, 2, none⟩ u) g a b u := by
  refine ⟨?_, ?_, World.cell?_setCell_same' _ _ _ (by rw [h.c2]; rfl), by simpa using h.l⟩
  · rw [World.cell?_setCell_other _ _ _ _ (by simp)]; exact h.c0
  · rw [World.cell?_setCell_other _ _ _ _ (by simp)]; exact h.c1
theorem sh3_row {X Y : World} {g : Nat} {a b : Int} {s : Value} {row : Option Nat} (h : Sh3 X g a b s) (hg : X.grownBy Y row) (hr : ∀ r, row = some r → r ≠ g) : Sh3 Y g a b s := by
  have hb := hg.block g h.l (fun e => hr g e.symm rfl)
  exact ⟨(World.cell?_of_block (a := ⟨g, 0, none⟩) hb).trans h.c0, (World.cell?_of_block (a := ⟨g, 1, none⟩) hb).trans h.c1, (World.cell?_of_block (a := ⟨g, 2, none⟩) hb).trans h.c2, Nat.lt_of_lt_of_le h.l hg.size⟩
/-- What lies in memory while both parts are laid: the sheet in block B0, the parts in the blocks g7 and g8, their spots in rows that are new. -/
structure CsS (w : World) (p q : Int) (sv : Value) (g7 g8 : Nat) (v1 v2 : Value) (zs1 zs2 : List (Nat × Nat × Nat)) (W : World) : Prop where
  s : Sh3 W w.heap.size p q sv
  f : Sh3 W g7 p q v1
  l : Sh3 W g8 p q v2
  r4 : Sh3 W (w.heap.size + 1) 0 0 (.slice none 0 0)
  r5 : Sh3 W (w.heap.size + 2) 0 0 (.slice none 0 0)
  fz : ∀ b i, i < 3 → (b = g7 ∨ b = g8 ∨ b = w.heap.size + 1 ∨ b = w.heap.size + 2) → W.frozen? ⟨b, i, none⟩ = false
  o1 : OwnedS W (g8 + 1) v1 zs1
  o2 : OwnedS W (g8 + 1) v2 zs2
  ap : v1.ownBlock = none ∨ v1.ownBlock ≠ v2.ownBlock
  bel : Below w.heap.size w W
  lt : w.heap.size + 2 < g7 ∧ g7 < g8
theorem CsS.below {w W W' : World} {p q : Int} {sv v1 v2 : Value} {g7 g8 : Nat} {zs1 zs2 : List (Nat × Nat × Nat)} (h : CsS w p q sv g7 g8 v1 v2 zs1 zs2 W) (hB : Below W.heap.size W W') : CsS w p q sv g7 g8 v1 v2 zs1 zs2 W' := by
  refine ⟨h.s.below hB, h.f.below hB, h.l.below hB, h.r4.below hB, h.r5.below hB, fun b i hi hb => ?_, ownsRow_past h.o1 hB, ownsRow_past h.o2 hB, h.ap, h.bel.trans (hB.mono h.bel.size), h.lt⟩
  have hlt : b < W.heap.size := by rcases hb with rfl | rfl | rfl | rfl; exact h.f.l; exact h.l.l; exact h.r4.l; exact h.r5.l
  exact (hB.frozen (p := ⟨b, i, none⟩) hlt).trans (h.fz b i hi hb)
theorem CsS.kept {w X Y : World} {p q : Int} {sv v1 v2 : Value} {g7 g8 b0 : Nat} {zs1 zs2 : List (Nat × Nat × Nat)} {row : Option Nat} (h : CsS w p q sv g7 g8 v1 v2 zs1 zs2 X) (hg : X.grownBy Y row) (hr : ∀ r, row = some r → b0 ≤ r ∧ ∃ o : Obj, X.heap[r]? = some o ∧ o.isCells = false) (hb : w.heap.size ≤ b0) : CsS w p q sv g7 g8 v1 v2 zs1 zs2 Y := by
  have hr' : ∀ r, row = some r → ∃ o : Obj, X.heap[r]? = some o ∧ o.isCells = false := fun r e => (hr r e).2
  refine ⟨h.s.keptB hg hr', h.f.keptB hg hr', h.l.keptB hg hr', h.r4.keptB hg hr', h.r5.keptB hg hr', fun b i hi hbb => ?_, ownS_kept h.o1 hg hr', ownS_kept h.o2 hg hr', h.ap, h.bel.grown hg h.bel.size (fun r e => Nat.le_trans hb (hr r e).1), h.lt⟩
  have hv : ∃ v, X.cell? ⟨b, i, none⟩ = some v := by
    have h3 : ∃ x y z, Sh3 X b x y z := by rcases hbb with rfl | rfl | rfl | rfl; exact ⟨_, _, _, h.f⟩; exact ⟨_, _, _, h.l⟩; exact ⟨_, _, _, h.r4⟩; exact ⟨_, _, _, h.r5⟩
    obtain ⟨x, y, z, h3⟩ := h3
    match i, hi with
    | 0, _ => exact ⟨_, h3.c0⟩
    | 1, _ => exact ⟨_, h3.c1⟩
    | 2, _ => exact ⟨_, h3.c2⟩
  obtain ⟨v, hv⟩ := hv
  rw [frozen_kept hv hg hr']
  exact h.fz b i hi hbb
/-- The former part takes one more spot: the row grew (W to W1), then the part's slice is put. -/
theorem CsS.next1 {w W W1 : World} {p q : Int} {sv v1 v2 v1' : Value} {g7 g8 : Nat} {zs1 zs2 : List (Nat × Nat × Nat)} {e : Nat × Nat × Nat} (h : CsS w p q sv g7 g8 v1 v2 zs1 zs2 W) (ho : W1.ownsRow (g8 + 1) 57 3 v1' (zs1.length + 1) (cellsS zs1 ++ cellsS [e])) (hg : W.grownBy W1 v1.ownBlock) (hw : v1'.ownBlock = v1.ownBlock ∨ v1'.ownBlock = some W.heap.size) :
    CsS w p q sv g7 g8 v1' v2 (zs1 ++ [e]) zs2 (W1.setCell ⟨g7, 2, none⟩ v1') := by
  have l := h.lt
  have hb : ∀ r, v1.ownBlock = some r → g8 + 1 ≤ r := fun r e => (World.ownsRow.lt h.o1 r e).1
  have hs8 := h.l.l
  have o1' : OwnedS W1 (g8 + 1) v1' (zs1 ++ [e]) := by unfold OwnedS; rw [cellsS_append, List.length_append]; exact ho
  have o2' : OwnedS W1 (g8 + 1) v2 zs2 := World.ownsRow.kept h.o2 hg (by
    rcases h.ap with e | e
    · rw [e]; cases h2 : v2.ownBlock; exact .inl rfl; exact .inr (by simp)
    · exact .inr fun e' => e e'.symm)
  refine ⟨sh3_putO (sh3_row h.s hg (fun r e => by have := hb r e; omega)) (by omega), sh3_putL (sh3_row h.f hg (fun r e => by have := hb r e; omega)) _, sh3_putO (sh3_row h.l hg (fun r e => by have := hb r e; omega)) (by omega), sh3_putO (sh3_row h.r4 hg (fun r e => by have := hb r e; omega)) (by omega), sh3_putO (sh3_row h.r5 hg (fun r e => by have := hb r e; omega)) (by omega), fun b i hi hbb => ?_, o1'.setO (by omega), o2'.setO (by omega), ?_, (h.bel.grown hg h.bel.size (fun r e => by have := hb r e; omega)).setCell (p := ⟨g7, 2, none⟩) (by show w.heap.size ≤ g7; omega) _, l⟩
  · rw [World.frozen?_setCell]
    have hlt : b < W.heap.size := by rcases hbb with rfl | rfl | rfl | rfl; exact h.f.l; exact h.l.l; exact h.r4.l; exact h.r5.l
    have hbk := hg.block b hlt (fun e => by have := hb b e.symm; omega)
    have := h.fz b i hi hbb
    simp only [World.frozen?] at this ⊢
    rw [hbk]
    exact this
  · rcases hw with e | e
    · rw [e]; exact h.ap
    · right
      rw [e]
      intro e2
      have := (World.ownsRow.lt h.o2 _ e2.symm).2
      omega
/-- The latter part takes one more spot. -/
theorem CsS.next2 {w W W1 : World} {p q : Int} {sv v1 v2 v2' : Value} {g7 g8 : Nat} {zs1 zs2 : List (Nat × Nat × Nat)} {e : Nat × Nat × Nat} (h : CsS w p q sv g7 g8 v1 v2 zs1 zs2 W) (ho : W1.ownsRow (g8 + 1) 57 3 v2' (zs2.length + 1) (cellsS zs2 ++ cellsS [e])) (hg : W.grownBy W1 v2.ownBlock) (hw : v2'.ownBlock = v2.ownBlock ∨ v2'.ownBlock = some W.heap.size) :
    CsS w p q sv g7 g8 v1 v2' zs1 (zs2 ++ [e]) (W1.setCell ⟨g8, 2, none⟩ v2') := by
  have l := h.lt
  have hb : ∀ r, v2.ownBlock = some r → g8 + 1 ≤ r := fun r e => (World.ownsRow.lt h.o2 r e).1
  have hs8 := h.l.l
  have o2' : OwnedS W1 (g8 + 1) v2' (zs2 ++ [e]) := by unfold OwnedS; rw [cellsS_append, List.length_append]; exact ho
  have o1' : OwnedS W1 (g8 + 1) v1 zs1 := World.ownsRow.kept h.o1 hg (by
    rcases h.ap with e | e
    · exact .inl e
    · exact .inr e)
  refine ⟨sh3_putO (sh3_row h.s hg (fun r e => by have := hb r e; omega)) (by omega), sh3_putO (sh3_row h.f hg (fun r e => by have := hb r e; omega)) (by omega), sh3_putL (sh3_row h.l hg (fun r e => by have := hb r e; omega)) _, sh3_putO (sh3_row h.r4 hg (fun r e => by have := hb r e; omega)) (by omega), sh3_putO (sh3_row h.r5 hg (fun r e => by have := hb r e; omega)) (by omega), fun b i hi hbb => ?_, o1'.setO (by omega), o2'.setO (by omega), ?_, (h.bel.grown hg h.bel.size (fun r e => by have := hb r e; omega)).setCell (p := ⟨g8, 2, none⟩) (by show w.heap.size ≤ g8; omega) _, l⟩
  · rw [World.frozen?_setCell]
    have hlt : b < W.heap.size := by rcases hbb with rfl | rfl | rfl | rfl; exact h.f.l; exact h.l.l; exact h.r4.l; exact h.r5.l
    have hbk := hg.block b hlt (fun e => by have := hb b e.symm; omega)
    have := h.fz b i hi hbb
    simp only [World.frozen?] at this ⊢
    rw [hbk]
    exact this
  · rcases hw with e | e
    · rw [e]; exact h.ap
    · by_cases h1 : v1.ownBlock = none
      · exact .inl h1
      · right
        rw [e]
        intro e2
        have := (World.ownsRow.lt h.o1 _ e2).2
        omega

end Go.Proofs.Ytnbgnaenlbphcaa
