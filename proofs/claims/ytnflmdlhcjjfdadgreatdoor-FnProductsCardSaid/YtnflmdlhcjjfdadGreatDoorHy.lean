/-
  ReadNumbers: what both sides answer, and the specification's side, walked.
-/
import Derived.Test.YtnflmdlhcjjfdadGreatDoorHx
namespace Go.Proofs.YtnflmdlhcjjfdadGreatDoor
open Go.RowKit Go.Lib Rd Go.WideShapes Fl

theorem none_litF (w : World) : OwnF (w.alloc (.cells #[] 28)) w.heap.size (.slice (some ⟨w.heap.size, 0, none⟩) 0 0) [] :=
  World.ownsRow_lit w #[] 0 (Nat.le_refl _) (by unfold maxLen; omega) rfl
theorem own_appF {w3 : World} {B k : Nat} {x : Nat} {v' : Value} {out : List Nat} (hk : k = out.length) (h : w3.ownsRow B 28 1 v' (k + 1) (fl out ++ [.float .f32 x])) :
    ∃ g cap, v' = .slice (some ⟨g, 0, none⟩) (k + 1) cap ∧ OwnF w3 B v' (out ++ [x]) := by
  have h2 : OwnF w3 B v' (out ++ [x]) := by
    unfold OwnF
    rw [List.length_append, ← fl_app, ← hk]
    exact h
  rcases h.2 with ⟨_, h0⟩ | ⟨g, cap, cur, hv, _⟩
  · omega
  · exact ⟨g, cap, hv, h2⟩

def OkF (l : List UInt8) (xs : List Nat) : Prop := (l = noneT ∧ xs = []) ∨ (l ≠ noneT ∧ xs.length ≤ 256 ∧ xs.length = (Ct.cut 44 l).length ∧ ∀ (j : Nat) x, xs[j]? = some x → ∃ p, (Ct.cut 44 l)[j]? = some p ∧ WantF p x)
def BadF (l : List UInt8) : Prop := l ≠ noneT ∧ (256 < (Ct.cut 44 l).length ∨ ∃ p ∈ Ct.cut 44 l, ∀ n, ¬ WantF p n)
theorem OkF.same {l : List UInt8} {xs ys : List Nat} (h : OkF l xs) (g : OkF l ys) : ys = xs := by
  rcases h with ⟨h1, h2⟩ | ⟨h1, h2, h3, h4⟩ <;> rcases g with ⟨g1, g2⟩ | ⟨g1, g2, g3, g4⟩
  · rw [h2, g2]
  · exact absurd h1 g1
  · exact absurd g1 h1
  · apply List.ext_getElem?
    intro j
    by_cases hj : j < xs.length
    · obtain ⟨p, e1, e2⟩ := h4 j _ (List.getElem?_eq_getElem hj)
      obtain ⟨q, e3, e4⟩ := g4 j _ (List.getElem?_eq_getElem (show j < ys.length by omega))
      rw [e1] at e3
      injection e3 with e3
      rw [← e3] at e4
      rw [List.getElem?_eq_getElem hj, List.getElem?_eq_getElem (show j < ys.length by omega), WantF.one e2 e4]
    · rw [List.getElem?_eq_none (by omega), List.getElem?_eq_none (by omega)]
theorem OkF.not {l : List UInt8} {xs : List Nat} (h : OkF l xs) (g : BadF l) : False := by
  rcases h with ⟨h1, h2⟩ | ⟨h1, h2, h3, h4⟩
  · exact g.1 h1
  · rcases g.2 with g2 | ⟨p, hp, hn⟩
    · omega
    · obtain ⟨j, hj, e⟩ := List.getElem_of_mem hp
      obtain ⟨q, e1, e2⟩ := h4 j _ (List.getElem?_eq_getElem (show j < xs.length by omega))
      rw [List.getElem?_eq_getElem hj] at e1
      injection e1 with e1
      rw [e] at e1
      rw [← e1] at e2
      exact hn _ e2
theorem wantF_snoc {ps : List ByteArray} {xs : List Nat} {p : ByteArray} {r : Nat} (h : ∀ (j : Nat) x, xs[j]? = some x → ∃ p : ByteArray, ps[j]? = some p ∧ WantF p.data.toList x) (hp : ps[xs.length]? = some p) (hw : WantF p.data.toList r) :
    ∀ (j : Nat) x, (xs ++ [r])[j]? = some x → ∃ p : ByteArray, ps[j]? = some p ∧ WantF p.data.toList x := by
  intro j x hx
  by_cases hj : j < xs.length
  · rw [List.getElem?_append_left hj] at hx
    exact h j x hx
  · rw [List.getElem?_append_right (by omega)] at hx
    have hj2 : j - xs.length < [r].length := (List.getElem?_eq_some_iff.1 hx).1
    have : j = xs.length := by simp at hj2; omega
    subst this
    simp at hx
    exact ⟨p, hp, by rw [← hx]; exact hw⟩
theorem okF_all {l : List UInt8} {ps : List ByteArray} {xs : List Nat} (hn : l ≠ noneT) (hcut : Ct.cut 44 l = ps.map (·.data.toList)) (hl : xs.length = ps.length) (h64 : ps.length ≤ 256) (h : ∀ (j : Nat) x, xs[j]? = some x → ∃ p : ByteArray, ps[j]? = some p ∧ WantF p.data.toList x) : OkF l xs := by
  refine .inr ⟨hn, by omega, by rw [hcut, List.length_map, hl], fun j x hx => ?_⟩
  obtain ⟨p, h1, h2⟩ := h j x hx
  exact ⟨_, by rw [hcut, List.getElem?_map, h1]; rfl, h2⟩
theorem badF_one {l : List UInt8} {ps : List ByteArray} {p : ByteArray} {j : Nat} (hn : l ≠ noneT) (hcut : Ct.cut 44 l = ps.map (·.data.toList)) (hp : ps[j]? = some p) (h : ∀ n, ¬ WantF p.data.toList n) : BadF l :=
  ⟨hn, .inr ⟨p.data.toList, by rw [hcut]; exact List.mem_map_of_mem (List.mem_of_getElem? hp), h⟩⟩

/-- What both sides answer. -/
def RnV (l : List UInt8) (w : World) (e : Ending) (w' : World) : Prop :=
  ∃ v xs b, e = .returned (.tuple #[v, .bool b]) ∧ xs.length ≤ 256 ∧ ((b = true ∧ OkF l xs) ∨ (b = false ∧ BadF l ∧ xs = [])) ∧ OwnF w' w.heap.size v xs ∧ Below w.heap.size w w'
theorem rn_same {l : List UInt8} {xs ys : List Nat} {b c : Bool} (h : (b = true ∧ OkF l xs) ∨ (b = false ∧ BadF l ∧ xs = [])) (g : (c = true ∧ OkF l ys) ∨ (c = false ∧ BadF l ∧ ys = [])) : ys = xs ∧ c = b := by
  rcases h with ⟨rfl, h⟩ | ⟨rfl, h, rfl⟩ <;> rcases g with ⟨rfl, g⟩ | ⟨rfl, g, rfl⟩
  · exact ⟨h.same g, rfl⟩
  · exact (h.not g).elim
  · exact (g.not h).elim
  · exact ⟨rfl, rfl⟩
theorem rn_bad {l : List UInt8} {w w' : World} (h : BadF l) (hb : Below w.heap.size w w') : RnV l w (.returned (.tuple #[.slice none 0 0, .bool false])) w' :=
  ⟨_, [], false, rfl, by simp, .inr ⟨rfl, h, rfl⟩, World.ownsRow_nil _ _ _ _, hb⟩
theorem OkF.len {l : List UInt8} {xs : List Nat} (h : OkF l xs) : xs.length ≤ 256 := by
  rcases h with ⟨_, rfl⟩ | ⟨_, h, _⟩
  · simp
  · exact h
theorem rn_ok {l : List UInt8} {w w' : World} {v : Value} {xs : List Nat} (h : OkF l xs) (ho : OwnF w' w.heap.size v xs) (hb : Below w.heap.size w w') : RnV l w (.returned (.tuple #[v, .bool true])) w' :=
  ⟨_, xs, true, rfl, h.len, .inl ⟨rfl, h⟩, ho, hb⟩

def NumFAt (ps : List ByteArray) (gp cp n : Nat) (w : World) (v iv : Value) (wr : World) : Prop :=
  ∃ (k g cap : Nat) (xs : List Nat), k ≤ n ∧ iv = .int .i64 k ∧ v = .slice (some ⟨g, 0, none⟩) k cap ∧ k = xs.length ∧ (∀ (j : Nat) x, xs[j]? = some x → ∃ p : ByteArray, ps[j]? = some p ∧ WantF p.data.toList x) ∧
    OwnF wr w.heap.size v xs ∧ OwnT wr w.heap.size (.slice (some ⟨gp, 0, none⟩) n cp) ps ∧ Below w.heap.size w wr
def DigAt (s : ByteArray) (w : World) (v kv : Value) (wr : World) : Prop :=
  ∃ k n : Nat, k ≤ 8 ∧ kv = .int .i64 k ∧ v = .int .i64 (n : Int) ∧ hxAll (s.data.toList.take k) 0 = some n ∧ wr = w
theorem hxV_of_num {c : UInt8} (h0 : 48 ≤ c.toNat) (h1 : c.toNat ≤ 57) : hxV c = some (c.toNat - 48) := if_pos ⟨h0, h1⟩
theorem hxV_of_let {c : UInt8} (h0 : 97 ≤ c.toNat) (h1 : c.toNat ≤ 102) : hxV c = some (c.toNat - 87) := by unfold hxV; rw [if_neg (by omega), if_pos ⟨h0, h1⟩]
theorem hxV_of_no {c : UInt8} (h : c.toNat < 48 ∨ (57 < c.toNat ∧ c.toNat < 97) ∨ 102 < c.toNat) : hxV c = none := by unfold hxV; rw [if_neg (by omega), if_neg (by omega)]

end Go.Proofs.YtnflmdlhcjjfdadGreatDoor
