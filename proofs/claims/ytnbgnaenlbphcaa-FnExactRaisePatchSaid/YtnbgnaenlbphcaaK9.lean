/-
  FlipSheet, the specification's side: the sheet with rows and columns exchanged.
-/
import Derived.Test.YtnbgnaenlbphcaaK8
import Derived.Test.YtnbgnaenlbphcaaG5
import Derived.Deep.AppendLies
import Derived.Deep.QuietTactic
import Derived.BigQuiet
namespace Go.Proofs.Ytnbgnaenlbphcaa
open Go.RowKit Fl Go.WideShapes Go.Deep
attribute [local go_sem] kstore_f kalloc_drewN kset_drewN hstore_i hstore_s

theorem Sh3.far {w w' : World} {g B : Nat} {a b : Int} {s : Value} (h : Sh3 w g a b s) (hB : Below B w w') (hg : g < B) : Sh3 w' g a b s := ⟨(hB.cell hg).trans h.c0, (hB.cell hg).trans h.c1, (hB.cell hg).trans h.c2, Nat.lt_of_lt_of_le h.l hB.size⟩
theorem Sh3.putOther {w : World} {g k i : Nat} {a b : Int} {s u : Value} (h : Sh3 w g a b s) (hk : k ≠ g) : Sh3 (w.setCell ⟨k, i, none⟩ u) g a b s := by
  refine ⟨?_, ?_, ?_, by simpa using h.l⟩
  all_goals rw [World.cell?_setCell_other _ _ _ _ (by intro e; injection e with e1; exact hk e1)]
  · exact h.c0
  · exact h.c1
  · exact h.c2
theorem Sh3.putLast {w : World} {g : Nat} {a b : Int} {s : Value} (h : Sh3 w g a b s) (u : Value) : Sh3 (w.setCell ⟨g, 2, none⟩ u) g a b u := by
  refine ⟨?_, ?_, World.cell?_setCell_same' _ _ _ (by rw [h.c2]; rfl), by simpa using h.l⟩
  · rw [World.cell?_setCell_other _ _ _ _ (by simp)]; exact h.c0
  · rw [World.cell?_setCell_other _ _ _ _ (by simp)]; exact h.c1

/-- The spots of a sheet with rows and columns exchanged. -/
def flipL (p q : Nat) (xs : List (Nat × Nat × Nat)) : List (Nat × Nat × Nat) := (List.range (p * q)).map fun k => (sx xs (k % q * p + k / q), sy xs (k % q * p + k / q), sz xs (k % q * p + k / q))
theorem flipL_len (p q : Nat) (xs : List (Nat × Nat × Nat)) : (flipL p q xs).length = p * q := by simp [flipL]
theorem flipL_next (p q : Nat) (xs : List (Nat × Nat × Nat)) (k : Nat) (hk : k < p * q) : (flipL p q xs).take (k + 1) = (flipL p q xs).take k ++ [(sx xs (k % q * p + k / q), sy xs (k % q * p + k / q), sz xs (k % q * p + k / q))] := by
  rw [List.take_succ_eq_append_getElem (by rw [flipL_len]; exact hk)]
  congr 2
  simp [flipL]
theorem flip_at {p q k : Nat} (hq : 0 < q) (hk : k < p * q) : k % q * p + k / q < p * q := by
  have h1 : k % q < q := Nat.mod_lt _ hq
  have h2 : k / q < p := (Nat.div_lt_iff_lt_mul hq).2 hk
  have h3 : k % q * p ≤ (q - 1) * p := Nat.mul_le_mul_right p (by omega)
  have h4 : (q - 1) * p + p = q * p := by rw [← Nat.succ_mul]; congr 1; omega
  rw [Nat.mul_comm p q]
  omega

theorem OwnedS.kept {w W : World} {B : Nat} {v : Value} {xs : List (Nat × Nat × Nat)} (h : OwnedS w B v xs) (hB : Below w.heap.size w W) : OwnedS W B v xs :=
  ⟨h.1, h.2.imp id fun ⟨g, cap, cur, h1, h2, h3, h4⟩ => ⟨g, cap, cur, h1, h2, (by rw [hB.block g (Array.getElem?_eq_some_iff.1 h3).1]; exact h3), h4⟩⟩
theorem OwnedS.drewN' {w : World} {B : Nat} {v : Value} {xs : List (Nat × Nat × Nat)} (h : OwnedS w B v xs) (m : Nat) : OwnedS (w.drewN m) B v xs := h.kept (below_drewN (Below.refl _ _) m)
theorem OwnedS.nil (w : World) (B : Nat) : OwnedS w B (.slice none 0 0) [] := ⟨rfl, .inl ⟨rfl, rfl⟩⟩

theorem OwnedS.drew' {w : World} {B : Nat} {v : Value} {xs : List (Nat × Nat × Nat)} (h : OwnedS w B v xs) : OwnedS w.drew B v xs := h.kept (Below.refl _ _).drew
theorem OwnedS.alloc' {w : World} {B : Nat} {v : Value} {xs : List (Nat × Nat × Nat)} (h : OwnedS w B v xs) (o : Obj) : OwnedS (w.alloc o) B v xs := h.kept ((Below.refl _ _).alloc (Nat.le_refl _) o)
theorem news3 (w : World) (x y z m : Nat) (t : TypeId) : ∀ j u, (cellsS [(x, y, z)])[j]? = some u → ((w.alloc (.cells #[.float .f32 x, .float .f32 y, .float .f32 z] t)).drewN m).cell? ((⟨w.heap.size, 0, none⟩ : Addr).add j) = some u := by
  intro j u h
  rw [add_plain, Nat.zero_add]
  show (w.alloc _).cell? _ = _
  rw [World.cell?_alloc_new]
  simpa [cellsS] using h
theorem news3' (w : World) (x y z : Nat) (t : TypeId) : ∀ j u, (cellsS [(x, y, z)])[j]? = some u → (w.alloc (.cells #[.float .f32 x, .float .f32 y, .float .f32 z] t)).cell? ((⟨w.heap.size, 0, none⟩ : Addr).add j) = some u := news3 w x y z 0 t
theorem ownsRow_drewN {w : World} {base : Nat} {e : TypeId} {size : Nat} {v : Value} {n : Nat} {xs : List Value} (h : w.ownsRow base e size v n xs) (m : Nat) : (w.drewN m).ownsRow base e size v n xs := h
theorem SK.beyond {n : Nat} {wc W W' : World} {L : List (Addr × Value)} (h : SK n wc L W) (hB : Below n W W') : SK n wc L W' := ⟨fun p hp => (hB.cell (h.k p hp)).trans (h.c p hp), h.k, Nat.le_trans h.s hB.size, h.m.trans hB⟩

/-- What lies in memory while spots are put behind one another. -/
structure FillAt (w : World) (g0 : Nat) (a b : Int) (v : Value) (zs : List (Nat × Nat × Nat)) (wr : World) : Prop where
  sh : Sh3 wr g0 a b v
  own : OwnedS wr (g0 + 1) v zs
  lo : w.heap.size < g0
  bel : Below w.heap.size w wr
  fr : ∀ i, wr.frozen? ⟨g0, i, none⟩ = false
  rs : Sh3 wr w.heap.size 0 0 (.slice none 0 0)
  rf : ∀ i, wr.frozen? ⟨w.heap.size, i, none⟩ = false

theorem SK_of7 {n : Nat} {wc W : World} {p0 p1 p2 p3 p4 p5 p6 : Addr} {v0 v1 v2 v3 v4 v5 v6 : Value} (h : W.cell? p0 = some v0 ∧ W.cell? p1 = some v1 ∧ W.cell? p2 = some v2 ∧ W.cell? p3 = some v3 ∧ W.cell? p4 = some v4 ∧ W.cell? p5 = some v5 ∧ W.cell? p6 = some v6 ∧ n ≤ W.heap.size ∧ SK n wc [(p0, v0), (p1, v1), (p2, v2), (p3, v3), (p4, v4), (p5, v5), (p6, v6)] W) : SK n wc [(p0, v0), (p1, v1), (p2, v2), (p3, v3), (p4, v4), (p5, v5), (p6, v6)] W := h.2.2.2.2.2.2.2.2
theorem SK_all7 {n : Nat} {wc W : World} {p0 p1 p2 p3 p4 p5 p6 : Addr} {v0 v1 v2 v3 v4 v5 v6 : Value} (h : SK n wc [(p0, v0), (p1, v1), (p2, v2), (p3, v3), (p4, v4), (p5, v5), (p6, v6)] W) : W.cell? p0 = some v0 ∧ W.cell? p1 = some v1 ∧ W.cell? p2 = some v2 ∧ W.cell? p3 = some v3 ∧ W.cell? p4 = some v4 ∧ W.cell? p5 = some v5 ∧ W.cell? p6 = some v6 ∧ n ≤ W.heap.size ∧ SK n wc [(p0, v0), (p1, v1), (p2, v2), (p3, v3), (p4, v4), (p5, v5), (p6, v6)] W :=
  ⟨h.c (p0, v0) (by simp), h.c (p1, v1) (by simp), h.c (p2, v2) (by simp), h.c (p3, v3) (by simp), h.c (p4, v4) (by simp), h.c (p5, v5) (by simp), h.c (p6, v6) (by simp), h.s, h⟩

theorem FillAt.facts {w wr : World} {a b : Int} {v : Value} {zs : List (Nat × Nat × Nat)} (h : FillAt w (w.heap.size + 1) a b v zs wr) : wr.cell? ⟨w.heap.size + 1, 0, none⟩ = some (.int .i64 a) ∧ wr.cell? ⟨w.heap.size + 1, 1, none⟩ = some (.int .i64 b) ∧ wr.cell? ⟨w.heap.size + 1, 2, none⟩ = some v ∧ (∀ i, wr.frozen? ⟨w.heap.size + 1, i, none⟩ = false) ∧ wr.cell? ⟨w.heap.size, 0, none⟩ = some (.int .i64 0) ∧ wr.cell? ⟨w.heap.size, 1, none⟩ = some (.int .i64 0) ∧ wr.cell? ⟨w.heap.size, 2, none⟩ = some (.slice none 0 0) ∧ (∀ i, wr.frozen? ⟨w.heap.size, i, none⟩ = false) ∧ w.heap.size + 1 < wr.heap.size :=
  ⟨h.sh.c0, h.sh.c1, h.sh.c2, h.fr, h.rs.c0, h.rs.c1, h.rs.c2, h.rf, h.sh.l⟩
theorem FillAt.next {w wr w3 : World} {a b : Int} {v : Value} {zs zs' : List (Nat × Nat × Nat)} {p : Nat × Nat × Nat} {L c : Nat} {A : Option Addr} (h : FillAt w (w.heap.size + 1) a b v zs wr) (hB : Below (w.heap.size + 1 + 1) wr w3)
    (ho : w3.ownsRow (w.heap.size + 1 + 1) 57 3 (.slice A (L + 1) c) (L + 1) (cellsS zs ++ cellsS [p])) (hz : zs' = zs ++ [p]) (hL : L = zs.length) : FillAt w (w.heap.size + 1) a b (.slice A (L + 1) c) zs' (w3.setCell ⟨w.heap.size + 1, 2, none⟩ (.slice A (L + 1) c)) := by
  have hl := h.sh.l
  refine ⟨(h.sh.far hB (by omega)).putLast _, ?_, h.lo, (h.bel.trans (hB.mono (by omega))).setCell (p := ⟨w.heap.size + 1, 2, none⟩) (by simp) _, fun i => ?_, (h.rs.far hB (by omega)).putOther (by omega), fun i => ?_⟩
  · have : OwnedS w3 (w.heap.size + 1 + 1) (.slice A (L + 1) c) zs' := by
      unfold OwnedS
      rw [hz, cellsS_append, List.length_append, ← hL]
      exact ho
    exact this.setO (by omega)
  · rw [World.frozen?_setCell]; exact (hB.frozen (p := ⟨w.heap.size + 1, i, none⟩) (by simp)).trans (h.fr i)
  · rw [World.frozen?_setCell]; exact (hB.frozen (p := ⟨w.heap.size, i, none⟩) (by simp; omega)).trans (h.rf i)

end Go.Proofs.Ytnbgnaenlbphcaa
