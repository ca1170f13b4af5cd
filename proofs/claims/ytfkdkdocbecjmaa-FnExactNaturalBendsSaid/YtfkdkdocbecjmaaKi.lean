/-
  Slices of int64 of the call's own (chapter 4): what is appended, marked, compared.
-/
import Derived.Test.YtfkdkdocbecjmaaRows
import Derived.Test.YtfkdkdocbecjmaaFrame
import Derived.Laws.NewBlocks
import Derived.Laws.NewFold
import Derived.OwnWalk
import Derived.WalkKit
import Derived.BigCall
import Derived.WalkSmall
namespace Go.Proofs.Ytfkdkdocbecjmaa
open Go.RowKit

/-- A slice of integers of the call's own. -/
def OwnI (w : World) (base : Nat) (v : Value) (xs : List Int) : Prop := w.ownsRow base 2 1 v xs.length (xs.map (Value.int .i64))
theorem none_litI (w : World) : OwnI (w.alloc (.cells #[] 2)) w.heap.size (.slice (some ⟨w.heap.size, 0, none⟩) 0 0) [] :=
  World.ownsRow_lit w #[] 0 (Nat.le_refl _) (by unfold maxLen; omega) rfl
theorem infoI64 : (Try.prog.info? 2).map (fun i => (i.zero, i.size, i.bytes)) = some (some (.int .i64 0), 1, 8) := by kernel_rfl
theorem ownI_below {w w' : World} {base : Nat} {e : TypeId} {size : Nat} {v : Value} {n : Nat} {xs : List Value} (h : w.ownsRow base e size v n xs) (hb : Below w.heap.size w w') : w'.ownsRow base e size v n xs := by
  refine ⟨h.1, ?_⟩
  rcases h.2 with hn | ⟨g, cap, cur, hv, hbg, hg, rest⟩
  · exact .inl hn
  · exact .inr ⟨g, cap, cur, hv, hbg, by rw [hb.block g (Array.getElem?_eq_some_iff.1 hg).1]; exact hg, rest⟩
theorem OwnI.below {w w' : World} {base : Nat} {v : Value} {ys : List Int} (h : OwnI w base v ys) (hb : Below w.heap.size w w') : OwnI w' base v ys := ownI_below h hb
theorem OwnI.mono {w : World} {base base' : Nat} {v : Value} {ys : List Int} (h : OwnI w base v ys) (hb : base' ≤ base) : OwnI w base' v ys := by
  refine ⟨h.1, ?_⟩
  rcases h.2 with hn | ⟨g, cap, cur, hv, hbg, rest⟩
  · exact .inl hn
  · exact .inr ⟨g, cap, cur, hv, by omega, rest⟩
theorem OwnI.app {w3 : World} {B k : Nat} {v' : Value} {out news : List Int} (hk : k = out.length) (h : w3.ownsRow B 2 1 v' (k + news.length) (out.map (Value.int .i64) ++ news.map (Value.int .i64))) : OwnI w3 B v' (out ++ news) := by
  unfold OwnI
  rw [List.length_append, List.map_append, ← hk]
  exact h
theorem OwnI.cell {w : World} {base g n cap : Nat} {ys : List Int} (h : OwnI w base (.slice (some ⟨g, 0, none⟩) n cap) ys) (hn : n = ys.length) {j : Nat} (hj : j < ys.length) : w.cell? ⟨g, j, none⟩ = some (.int .i64 (ys.getD j 0)) := by
  subst hn
  have := World.ownsRow.cellAt h j (by omega)
  rw [this, List.getElem?_map, List.getD_eq_getElem?_getD, List.getElem?_eq_getElem hj]
  rfl
theorem OwnI.froz {w : World} {base g n cap : Nat} {ys : List Int} (h : OwnI w base (.slice (some ⟨g, 0, none⟩) n cap) ys) (hn : n = ys.length) (j : Nat) : w.frozen? ⟨g, j, none⟩ = false := by
  subst hn
  exact World.ownsRow.frozenAt h j
theorem OwnI.put {w : World} {base g n cap : Nat} {ys : List Int} (h : OwnI w base (.slice (some ⟨g, 0, none⟩) n cap) ys) (hn : n = ys.length) (j : Nat) (r : Int) :
    OwnI (w.setCell ⟨g, j, none⟩ (.int .i64 r)) base (.slice (some ⟨g, 0, none⟩) n cap) (ys.set j r) := by
  subst hn
  have := (World.ownsRow.stored h j (.int .i64 r)).1
  have e : (ys.map (Value.int .i64)).set j (.int .i64 r) = (ys.set j r).map (Value.int .i64) := by rw [List.map_set]
  rw [e] at this
  unfold OwnI
  rw [List.length_set]
  exact this
theorem OwnI.form {w : World} {base : Nat} {v : Value} {ys : List Int} (h : OwnI w base v ys) : (v = .slice none 0 0 ∧ ys = []) ∨ ∃ g cap, v = .slice (some ⟨g, 0, none⟩) ys.length cap ∧ base ≤ g ∧ g < w.heap.size := by
  rcases h.2 with ⟨hv, h0⟩ | ⟨g, cap, cur, hv, hb, hg, _⟩
  · exact .inl ⟨hv, List.eq_nil_of_length_eq_zero h0⟩
  · exact .inr ⟨g, cap, hv, hb, (Array.getElem?_eq_some_iff.1 hg).1⟩
theorem OwnI.nilv (w : World) (B : Nat) : OwnI w B (.slice none 0 0) [] := World.ownsRow_nil _ _ _ _

/-- The marks. -/
def marksI (m : Nat) : List Int := (List.range m).map (fun p : Nat => 1 + (p : Int))
theorem marksI_len (m : Nat) : (marksI m).length = m := by simp [marksI]
theorem marksI_get {m p : Nat} (h : p < m) : (marksI m).getD p 0 = 1 + (p : Int) := by
  have e : (marksI m)[p]? = some (1 + (p : Int)) := by unfold marksI; rw [List.getElem?_map, List.getElem?_range h]; rfl
  rw [List.getD_eq_getElem?_getD, e]; rfl
theorem marksI_of {m : Nat} {zs : List Int} (hl : zs.length = m) (h : ∀ p, p < m → zs.getD p 0 = 1 + (p : Int)) : zs = marksI m := by
  apply List.ext_getElem
  · rw [hl, marksI_len]
  · intro i h1 h2
    have a := h i (by omega)
    have b := marksI_get (m := m) (p := i) (by omega)
    rw [List.getD_eq_getElem?_getD, List.getElem?_eq_getElem h1] at a
    rw [List.getD_eq_getElem?_getD, List.getElem?_eq_getElem h2] at b
    exact (show zs[i] = _ from a).trans (show _ = (marksI m)[i] from b.symm)

def MarkIAt (B : Nat) (g m cap : Nat) (w : World) (k i : Value) (wr : World) : Prop :=
  ∃ q : Nat, q ≤ m ∧ k = .int .i64 (1 + (q : Int)) ∧ i = .int .i64 q ∧ ∃ zs, zs.length = m ∧ OwnI wr B (.slice (some ⟨g, 0, none⟩) m cap) zs ∧ (∀ p, p < q → zs.getD p 0 = 1 + (p : Int)) ∧ Below B w wr

end Go.Proofs.Ytfkdkdocbecjmaa
