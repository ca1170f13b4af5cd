/-
  ReadList: marks, what is held, and the law, walked.
-/
import Derived.Test.YtnflmdlhcjjfdadGreatDoorRm
namespace Go.Proofs.YtnflmdlhcjjfdadGreatDoor
open Go.RowKit Go.Lib Rd Go.WideShapes

theorem cell_below {w w' : World} {p : Addr} {v : Value} (h : w.cell? p = some v) (hb : Below w.heap.size w w') : w'.cell? p = some v := (hb.cell (World.block_lt_of_cell? w p h)).trans h

/-- The marks. -/
def marksI (m : Nat) : List Int := (List.range m).map (fun p : Nat => 1 + (p : Int))
theorem marksI_len (m : Nat) : (marksI m).length = m := by simp [marksI]
theorem marksI_get {m p : Nat} (h : p < m) : (marksI m).getD p 0 = 1 + (p : Int) := by
  have e : (marksI m)[p]? = some (1 + (p : Int)) := by unfold marksI; rw [List.getElem?_map, List.getElem?_range h]; rfl
  rw [List.getD_eq_getElem?_getD, e]; rfl
theorem marksI_of {m : Nat} {zs : List Int} (hl : zs.length = m) (h : ∀ p, p < m → zs.getD p 0 = 1 + (p : Int)) : zs = marksI m := by
  apply List.ext_getElem
  · rw [hl, marksI_len]
  · intro i h1 h2
    have a := h i (by omega)
    have b := marksI_get (m := m) (p := i) (by omega)
    rw [List.getD_eq_getElem?_getD, List.getElem?_eq_getElem h1] at a
    rw [List.getD_eq_getElem?_getD, List.getElem?_eq_getElem h2] at b
    exact (show zs[i] = _ from a).trans (show _ = (marksI m)[i] from b.symm)
theorem OwnI.below {w w' : World} {base : Nat} {v : Value} {ys : List Int} (h : OwnI w base v ys) (hb : Below w.heap.size w w') : OwnI w' base v ys := own_below h hb
theorem OwnI.mono {w : World} {base base' : Nat} {v : Value} {ys : List Int} (h : OwnI w base v ys) (hb : base' ≤ base) : OwnI w base' v ys := own_mono h hb
theorem OwnI.cell {w : World} {base g n cap : Nat} {ys : List Int} (h : OwnI w base (.slice (some ⟨g, 0, none⟩) n cap) ys) (hn : n = ys.length) {j : Nat} (hj : j < ys.length) : w.cell? ⟨g, j, none⟩ = some (.int .i64 (ys.getD j 0)) := by
  subst hn
  have := World.ownsRow.cellAt h j (by omega)
  rw [this, List.getElem?_map, List.getD_eq_getElem?_getD, List.getElem?_eq_getElem hj]
  rfl
theorem OwnI.froz {w : World} {base g n cap : Nat} {ys : List Int} (h : OwnI w base (.slice (some ⟨g, 0, none⟩) n cap) ys) (hn : n = ys.length) (j : Nat) : w.frozen? ⟨g, j, none⟩ = false := by
  subst hn
  exact World.ownsRow.frozenAt h j
theorem OwnI.put {w : World} {base g n cap : Nat} {ys : List Int} (h : OwnI w base (.slice (some ⟨g, 0, none⟩) n cap) ys) (hn : n = ys.length) (j : Nat) (r : Int) :
    OwnI (w.setCell ⟨g, j, none⟩ (.int .i64 r)) base (.slice (some ⟨g, 0, none⟩) n cap) (ys.set j r) := by
  subst hn
  have := (World.ownsRow.stored h j (.int .i64 r)).1
  have e : (ys.map (Value.int .i64)).set j (.int .i64 r) = (ys.set j r).map (Value.int .i64) := by rw [List.map_set]
  rw [e] at this
  unfold OwnI
  rw [List.length_set]
  exact this
/-- Its form: none, or a block of its own. -/
theorem OwnI.form {w : World} {base : Nat} {v : Value} {ys : List Int} (h : OwnI w base v ys) : (v = .slice none 0 0 ∧ ys = []) ∨ ∃ g cap, v = .slice (some ⟨g, 0, none⟩) ys.length cap ∧ base ≤ g ∧ g < w.heap.size := by
  rcases h.2 with ⟨hv, h0⟩ | ⟨g, cap, cur, hv, hb, hg, _⟩
  · exact .inl ⟨hv, List.eq_nil_of_length_eq_zero h0⟩
  · exact .inr ⟨g, cap, hv, hb, (Array.getElem?_eq_some_iff.1 hg).1⟩
theorem OwnI.rd {w : World} {base : Nat} {v : Value} {ys : List Int} (h : OwnI w base v ys) : ∃ A c, v = .slice A ys.length c ∧ RdI w A ys := by
  rcases h.form with ⟨rfl, rfl⟩ | ⟨g, cap, rfl, hb, hlt⟩
  · exact ⟨none, 0, rfl, fun h => absurd h (by simp)⟩
  · refine ⟨_, cap, rfl, fun h0 => ⟨g, 0, rfl, hlt, fun j hj => ?_⟩⟩
    rw [Nat.zero_add]
    exact h.cell rfl hj

def MarkIAt (B : Nat) (g m cap : Nat) (w : World) (k i : Value) (wr : World) : Prop :=
  ∃ q : Nat, q ≤ m ∧ k = .int .i64 (1 + (q : Int)) ∧ i = .int .i64 q ∧ ∃ zs, zs.length = m ∧ OwnI wr B (.slice (some ⟨g, 0, none⟩) m cap) zs ∧ (∀ p, p < q → zs.getD p 0 = 1 + (p : Int)) ∧ Below B w wr

/-- What both sides answer, in one piece. -/
def RlW (l : List UInt8) (w : World) (e : Ending) (w' : World) : Prop :=
  ∃ v xs b, e = .returned (.tuple #[v, .bool b]) ∧ xs.length ≤ 64 ∧ ((b = true ∧ OkA l xs) ∨ (b = false ∧ BadA l ∧ xs = [])) ∧ OwnI w' w.heap.size v xs ∧ Below w.heap.size w w'
theorem RlV.one {l : List UInt8} {w w' : World} {e : Ending} (h : RlV l w e w') : RlW l w e w' := by
  obtain ⟨⟨v, xs, rfl, hA, hO⟩ | ⟨hA, rfl⟩, hB⟩ := h
  · refine ⟨v, xs, true, rfl, ?_, .inl ⟨rfl, hA⟩, hO, hB⟩
    rcases hA with ⟨_, rfl⟩ | ⟨_, h, _⟩
    · simp
    · exact h
  · exact ⟨_, [], false, rfl, by simp, .inr ⟨rfl, hA, rfl⟩, World.ownsRow_nil _ _ _ _, hB⟩
theorem rl_same {l : List UInt8} {xs ys : List Int} {b c : Bool} (h : (b = true ∧ OkA l xs) ∨ (b = false ∧ BadA l ∧ xs = [])) (g : (c = true ∧ OkA l ys) ∨ (c = false ∧ BadA l ∧ ys = [])) : ys = xs ∧ c = b := by
  rcases h with ⟨rfl, h⟩ | ⟨rfl, h, rfl⟩ <;> rcases g with ⟨rfl, g⟩ | ⟨rfl, g, rfl⟩
  · exact ⟨h.same g, rfl⟩
  · exact (h.not g).elim
  · exact (g.not h).elim
  · exact ⟨rfl, rfl⟩

end Go.Proofs.YtnflmdlhcjjfdadGreatDoor
