/-
  ReadList: what both sides answer, and the specification's side, walked.
-/
import Derived.Test.YtnhpiebddelebabDoorCw
namespace Go.Proofs.YtnhpiebddelebabDoor
open Go.RowKit Go.Lib Rd Go.WideShapes

/-- A slice of integers of the call's own. -/
def OwnI (w : World) (base : Nat) (v : Value) (xs : List Int) : Prop := w.ownsRow base 2 1 v xs.length (xs.map (Value.int .i64))
theorem none_litI (w : World) : OwnI (w.alloc (.cells #[] 2)) w.heap.size (.slice (some ⟨w.heap.size, 0, none⟩) 0 0) [] :=
  World.ownsRow_lit w #[] 0 (Nat.le_refl _) (by unfold maxLen; omega) rfl
theorem own_appI {w3 : World} {B k : Nat} {x : Int} {v' : Value} {out : List Int} (hk : k = out.length) (h : w3.ownsRow B 2 1 v' (k + 1) (out.map (Value.int .i64) ++ [.int .i64 x])) :
    ∃ g cap, v' = .slice (some ⟨g, 0, none⟩) (k + 1) cap ∧ OwnI w3 B v' (out ++ [x]) := by
  have h2 : OwnI w3 B v' (out ++ [x]) := by
    unfold OwnI
    rw [List.length_append, List.map_append, ← hk]
    exact h
  rcases h.2 with ⟨_, h0⟩ | ⟨g, cap, cur, hv, _⟩
  · omega
  · exact ⟨g, cap, hv, h2⟩
theorem rows_apart {w : World} {B B' n n' : Nat} {e e' : TypeId} {v v' : Value} {xs xs' : List Value} (h : w.ownsRow B e 1 v n xs) (h' : w.ownsRow B' e' 1 v' n' xs') (hne : e ≠ e') : v.ownBlock = none ∨ v.ownBlock ≠ v'.ownBlock := by
  rcases h.2 with ⟨rfl, _⟩ | ⟨g, cap, cur, rfl, _, hg, _⟩
  · exact .inl rfl
  · right
    rcases h'.2 with ⟨rfl, _⟩ | ⟨g', cap', cur', rfl, _, hg', _⟩
    · simp [Value.ownBlock]
    · simp only [Value.ownBlock]
      intro e
      injection e with e
      rw [e, hg'] at hg
      injection hg with hg
      injection hg with _ hg _
      exact hne hg.symm
theorem own_mono {w : World} {base base' : Nat} {e : TypeId} {v : Value} {n : Nat} {xs : List Value} (h : w.ownsRow base e 1 v n xs) (hb : base' ≤ base) : w.ownsRow base' e 1 v n xs := by
  refine ⟨h.1, ?_⟩
  rcases h.2 with hn | ⟨g, cap, cur, hv, hbg, rest⟩
  · exact .inl hn
  · exact .inr ⟨g, cap, cur, hv, by omega, rest⟩
theorem OwnT.cell {w : World} {base g n cap : Nat} {ps : List ByteArray} (h : OwnT w base (.slice (some ⟨g, 0, none⟩) n cap) ps) (hn : n = ps.length) {j : Nat} {p : ByteArray} (hp : ps[j]? = some p) : w.cell? ⟨g, j, none⟩ = some (.string p) := by
  subst hn
  have := World.ownsRow.cellAt h j (by have := (List.getElem?_eq_some_iff.1 hp).1; omega)
  rw [this, List.getElem?_map, hp]
  rfl

def noneT : List UInt8 := [110, 111, 110, 101]
def OkA (l : List UInt8) (xs : List Int) : Prop := (l = noneT ∧ xs = []) ∨ (l ≠ noneT ∧ xs.length ≤ 64 ∧ xs.length = (Ct.cut 44 l).length ∧ ∀ (j : Nat) x, xs[j]? = some x → ∃ p, (Ct.cut 44 l)[j]? = some p ∧ Want p x)
def BadA (l : List UInt8) : Prop := l ≠ noneT ∧ (64 < (Ct.cut 44 l).length ∨ ∃ p ∈ Ct.cut 44 l, ∀ n, ¬ Want p n)
theorem OkA.same {l : List UInt8} {xs ys : List Int} (h : OkA l xs) (g : OkA l ys) : ys = xs := by
  rcases h with ⟨h1, h2⟩ | ⟨h1, h2, h3, h4⟩ <;> rcases g with ⟨g1, g2⟩ | ⟨g1, g2, g3, g4⟩
  · rw [h2, g2]
  · exact absurd h1 g1
  · exact absurd g1 h1
  · apply List.ext_getElem?
    intro j
    by_cases hj : j < xs.length
    · obtain ⟨p, e1, e2⟩ := h4 j _ (List.getElem?_eq_getElem hj)
      obtain ⟨q, e3, e4⟩ := g4 j _ (List.getElem?_eq_getElem (show j < ys.length by omega))
      rw [e1] at e3
      injection e3 with e3
      rw [← e3] at e4
      rw [List.getElem?_eq_getElem hj, List.getElem?_eq_getElem (show j < ys.length by omega), Want.one e2 e4]
    · rw [List.getElem?_eq_none (by omega), List.getElem?_eq_none (by omega)]
theorem OkA.not {l : List UInt8} {xs : List Int} (h : OkA l xs) (g : BadA l) : False := by
  rcases h with ⟨h1, h2⟩ | ⟨h1, h2, h3, h4⟩
  · exact g.1 h1
  · rcases g.2 with g2 | ⟨p, hp, hn⟩
    · omega
    · obtain ⟨j, hj, e⟩ := List.getElem_of_mem hp
      obtain ⟨q, e1, e2⟩ := h4 j _ (List.getElem?_eq_getElem (show j < xs.length by omega))
      rw [List.getElem?_eq_getElem hj] at e1
      injection e1 with e1
      rw [e] at e1
      rw [← e1] at e2
      exact hn _ e2

/-- What both sides answer. -/
def RlV (l : List UInt8) (w : World) (e : Ending) (w' : World) : Prop :=
  ((∃ v xs, e = .returned (.tuple #[v, .bool true]) ∧ OkA l xs ∧ OwnI w' w.heap.size v xs) ∨ (BadA l ∧ e = .returned (.tuple #[.slice none 0 0, .bool false]))) ∧ Below w.heap.size w w'

def NumAt (ps : List ByteArray) (gp cp n : Nat) (w : World) (v iv : Value) (wr : World) : Prop :=
  ∃ (k g cap : Nat) (xs : List Int), k ≤ n ∧ iv = .int .i64 k ∧ v = .slice (some ⟨g, 0, none⟩) k cap ∧ k = xs.length ∧ (∀ (j : Nat) x, xs[j]? = some x → ∃ p : ByteArray, ps[j]? = some p ∧ Want p.data.toList x) ∧
    OwnI wr w.heap.size v xs ∧ OwnT wr w.heap.size (.slice (some ⟨gp, 0, none⟩) n cp) ps ∧ Below w.heap.size w wr

theorem infoN : (Tryd.prog.info? 2).map (fun i => (i.zero, i.size, i.bytes)) = some (some (.int .i64 0), 1, 8) := by kernel_rfl

theorem cut_part (c : UInt8) (l : List UInt8) : ∀ p ∈ Ct.cut c l, p.length ≤ l.length := by
  induction l with
  | nil => intro p hp; simp [Ct.cut] at hp; simp [hp]
  | cons b l ih =>
    intro p hp
    by_cases h : b = c
    · subst h
      rw [Ct.cut_cons_eq] at hp
      rcases List.mem_cons.1 hp with rfl | hp
      · simp
      · have := ih p hp; simp; omega
    · cases hc : Ct.cut c l with
      | nil => have := Ct.cut_ne c l; rw [hc] at this; simp at this
      | cons q qs =>
        rw [Ct.cut_cons_ne l q qs h hc] at hp
        rw [hc] at ih
        rcases List.mem_cons.1 hp with rfl | hp
        · have := ih q (by simp); simp; omega
        · have := ih p (by simp [hp]); simp; omega
theorem part_le {s : ByteArray} {c : UInt8} {ps : List ByteArray} (h : Ct.cut c s.data.toList = ps.map (·.data.toList)) {j : Nat} {p : ByteArray} (hp : ps[j]? = some p) : p.size ≤ s.size := by
  have := cut_part c s.data.toList p.data.toList (by rw [h]; exact List.mem_map_of_mem (List.mem_of_getElem? hp))
  rwa [size_list, size_list] at this
theorem want_snoc {ps : List ByteArray} {xs : List Int} {p : ByteArray} {r : Int} (h : ∀ (j : Nat) x, xs[j]? = some x → ∃ p : ByteArray, ps[j]? = some p ∧ Want p.data.toList x) (hp : ps[xs.length]? = some p) (hw : Want p.data.toList r) :
    ∀ (j : Nat) x, (xs ++ [r])[j]? = some x → ∃ p : ByteArray, ps[j]? = some p ∧ Want p.data.toList x := by
  intro j x hx
  by_cases hj : j < xs.length
  · rw [List.getElem?_append_left hj] at hx
    exact h j x hx
  · rw [List.getElem?_append_right (by omega)] at hx
    have hj2 : j - xs.length < [r].length := (List.getElem?_eq_some_iff.1 hx).1
    have : j = xs.length := by simp at hj2; omega
    subst this
    simp at hx
    exact ⟨p, hp, by rw [← hx]; exact hw⟩
theorem ok_all {l : List UInt8} {ps : List ByteArray} {xs : List Int} (hn : l ≠ noneT) (hcut : Ct.cut 44 l = ps.map (·.data.toList)) (hl : xs.length = ps.length) (h64 : ps.length ≤ 64) (h : ∀ (j : Nat) x, xs[j]? = some x → ∃ p : ByteArray, ps[j]? = some p ∧ Want p.data.toList x) : OkA l xs := by
  refine .inr ⟨hn, by omega, by rw [hcut, List.length_map, hl], fun j x hx => ?_⟩
  obtain ⟨p, h1, h2⟩ := h j x hx
  exact ⟨_, by rw [hcut, List.getElem?_map, h1]; rfl, h2⟩
theorem bad_one {l : List UInt8} {ps : List ByteArray} {p : ByteArray} {j : Nat} (hn : l ≠ noneT) (hcut : Ct.cut 44 l = ps.map (·.data.toList)) (hp : ps[j]? = some p) (h : ∀ n, ¬ Want p.data.toList n) : BadA l :=
  ⟨hn, .inr ⟨p.data.toList, by rw [hcut]; exact List.mem_map_of_mem (List.mem_of_getElem? hp), h⟩⟩

end Go.Proofs.YtnhpiebddelebabDoor
