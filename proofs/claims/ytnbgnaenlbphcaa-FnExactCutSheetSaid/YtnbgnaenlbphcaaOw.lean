/-
  Slices of 32-bit numbers that a call itself has made.
-/
import Derived.Test.YtnbgnaenlbphcaaSl
import Derived.Test.YtnbgnaenlbphcaaSr
import Derived.Laws.AppendOwn
import Derived.Laws.OwnMore
namespace Go.Proofs.Ytnbgnaenlbphcaa
open Go.RowKit Fl

def fl (ys : List Nat) : List Value := ys.map (Value.float .f32)
theorem fl_len (ys : List Nat) : (fl ys).length = ys.length := List.length_map _
theorem fl_get {ys : List Nat} {j : Nat} (h : j < ys.length) : (fl ys)[j]? = some (.float .f32 (ys.getD j 0)) := by
  unfold fl
  rw [List.getElem?_map, List.getD_eq_getElem?_getD, List.getElem?_eq_getElem h]
  rfl
theorem fl_set (ys : List Nat) (j r : Nat) : (fl ys).set j (.float .f32 r) = fl (ys.set j r) := by
  unfold fl
  rw [List.map_set]
theorem fl_app (xs ys : List Nat) : fl xs ++ fl ys = fl (xs ++ ys) := by unfold fl; rw [List.map_append]
theorem getD_set (ys : List Nat) (j r i : Nat) (h : j < ys.length) : (ys.set j r).getD i 0 = if i = j then r else ys.getD i 0 := by
  simp only [List.getD_eq_getElem?_getD, List.getElem?_set]
  by_cases hi : j = i
  · subst hi; simp [h]
  · rw [if_neg hi, if_neg (fun e => hi e.symm)]
theorem getD_snoc (ys : List Nat) (r i : Nat) : (ys ++ [r]).getD i 0 = if i = ys.length then r else ys.getD i 0 := by
  simp only [List.getD_eq_getElem?_getD, List.getElem?_append]
  by_cases h : i < ys.length
  · rw [if_pos h, if_neg (by omega)]
  · rw [if_neg h]
    by_cases h2 : i = ys.length
    · subst h2; simp
    · rw [if_neg h2]
      have e1 : ys[i]? = none := List.getElem?_eq_none (by omega)
      have e2 : ([r] : List Nat)[i - ys.length]? = none := List.getElem?_eq_none (by simp; omega)
      rw [e1, e2]

/-- The slice v is one of the call's own: it lies from block base on, and reads as ys. -/
def OwnF (w : World) (base : Nat) (v : Value) (ys : List Nat) : Prop := w.ownsRow base 25 1 v ys.length (fl ys)

theorem OwnF.shape {w : World} {base : Nat} {v : Value} {ys : List Nat} (h : OwnF w base v ys) (h0 : 0 < ys.length) : ∃ g cap, v = .slice (some ⟨g, 0, none⟩) ys.length cap ∧ base ≤ g ∧ g < w.heap.size := by
  have hlt := h.lt
  rcases h.2 with ⟨_, h'⟩ | ⟨g, cap, cur, hv, hb, hg, _⟩
  · omega
  · exact ⟨g, cap, hv, hb, (Array.getElem?_eq_some_iff.1 hg).1⟩
theorem OwnF.cell {w : World} {base g n cap : Nat} {ys : List Nat} (h : OwnF w base (.slice (some ⟨g, 0, none⟩) n cap) ys) (hn : n = ys.length) {j : Nat} (hj : j < ys.length) : w.cell? ⟨g, j, none⟩ = some (.float .f32 (ys.getD j 0)) := by
  subst hn
  have := World.ownsRow.cellAt h j (by omega)
  rw [this, fl_get hj]
theorem OwnF.froz {w : World} {base g n cap : Nat} {ys : List Nat} (h : OwnF w base (.slice (some ⟨g, 0, none⟩) n cap) ys) (hn : n = ys.length) (j : Nat) : w.frozen? ⟨g, j, none⟩ = false := by
  subst hn
  exact World.ownsRow.frozenAt h j
theorem OwnF.put {w : World} {base g n cap : Nat} {ys : List Nat} (h : OwnF w base (.slice (some ⟨g, 0, none⟩) n cap) ys) (hn : n = ys.length) (j r : Nat) :
    OwnF (w.setCell ⟨g, j, none⟩ (.float .f32 r)) base (.slice (some ⟨g, 0, none⟩) n cap) (ys.set j r) := by
  subst hn
  have := (World.ownsRow.stored h j (.float .f32 r)).1
  rw [fl_set] at this
  unfold OwnF
  rw [List.length_set]
  exact this
theorem OwnF.below {w w' : World} {base : Nat} {v : Value} {ys : List Nat} (h : OwnF w base v ys) (hb : Below w.heap.size w w') : OwnF w' base v ys := by
  refine ⟨h.1, ?_⟩
  rcases h.2 with hn | ⟨g, cap, cur, hv, hbg, hg, rest⟩
  · exact .inl hn
  · exact .inr ⟨g, cap, cur, hv, hbg, by rw [hb.block g (Array.getElem?_eq_some_iff.1 hg).1]; exact hg, rest⟩
theorem OwnF.mono {w : World} {base base' : Nat} {v : Value} {ys : List Nat} (h : OwnF w base v ys) (hb : base' ≤ base) : OwnF w base' v ys := by
  refine ⟨h.1, ?_⟩
  rcases h.2 with hn | ⟨g, cap, cur, hv, hbg, rest⟩
  · exact .inl hn
  · exact .inr ⟨g, cap, cur, hv, by omega, rest⟩
theorem OwnF.rd {w : World} {base g n cap : Nat} {ys : List Nat} (h : OwnF w base (.slice (some ⟨g, 0, none⟩) n cap) ys) (hn : n = ys.length) : RdF w (some ⟨g, 0, none⟩) ys := fun h0 => by
  obtain ⟨g', cap', hv, hb, hlt⟩ := h.shape h0
  cases hv
  refine ⟨g, 0, rfl, hlt, fun j hj => ?_⟩
  rw [Nat.zero_add]
  exact h.cell hn hj
/-- Another row, further up, is written or grows: this one stays. -/
theorem OwnF.grown {w w' : World} {base : Nat} {v : Value} {ys : List Nat} {row : Option Nat} (h : OwnF w base v ys) (hg : w.grownBy w' row) (hne : ∀ k, row = some k → ∀ g, v.ownBlock = some g → g ≠ k) : OwnF w' base v ys := by
  refine World.ownsRow.kept h hg ?_
  cases hv : v.ownBlock with
  | none => exact .inl rfl
  | some g =>
    right
    intro e
    exact hne g e.symm g hv rfl

end Go.Proofs.Ytnbgnaenlbphcaa
