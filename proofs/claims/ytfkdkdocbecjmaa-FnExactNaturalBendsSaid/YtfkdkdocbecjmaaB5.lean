/-
  Steady slopes: what both sides reckon, up to not-a-numbers.
-/
import Derived.Test.YtfkdkdocbecjmaaB4
import Derived.Test.YtfkdkdocbecjmaaA3
namespace Go.Proofs.Ytfkdkdocbecjmaa
open Go.RowKit Fl Go.WideShapes Go.Deep

/-- How steep a leg is. -/
def SlR (xs ys : List Nat) (i s : Nat) : Prop := ∃ wide, RiseR xs ys i wide s
theorem SlR.same {xs ys : List Nat} {i s s' : Nat} (h : SlR xs ys i s) (g : SlR xs ys i s') : FSame .f32 s s' := by
  obtain ⟨a, h1, u, h2, h3⟩ := h
  obtain ⟨A, g1, U, g2, g3⟩ := g
  exact FOp.same (FOp.same (FSame.refl _ _) (FSame.refl _ _) h2 g2) (FOp.same (FSame.refl _ _) (FSame.refl _ _) h1 g1) h3 g3
/-- The slope at a point between two legs, before it is steadied. -/
def MidR (xs ys : List Nat) (i z : Nat) : Prop :=
  ∃ a b p, SlR xs ys i a ∧ SlR xs ys (i + 1) b ∧ FOp .mul .f32 a b p ∧ ((gtW p 0 = true ∧ ∃ q, FOp .add .f32 a b q ∧ HlfR q z) ∨ (gtW p 0 = false ∧ z = 0))
theorem MidR.same {xs ys : List Nat} {i z z' : Nat} (h : MidR xs ys i z) (g : MidR xs ys i z') : FSame .f32 z z' := by
  obtain ⟨a, b, p, h1, h2, h3, h4⟩ := h
  obtain ⟨A, B, P, g1, g2, g3, g4⟩ := g
  have ea := h1.same g1
  have eb := h2.same g2
  have ep := FOp.same ea eb h3 g3
  rw [← gtW.same ep] at g4
  rcases h4 with ⟨k, q, h5, h6⟩ | ⟨k, rfl⟩ <;> rcases g4 with ⟨j, Q, g5, g6⟩ | ⟨j, rfl⟩
  · exact HlfR.same (FOp.same ea eb h5 g5) h6 g6
  · rw [k] at j; cases j
  · rw [k] at j; cases j
  · exact FSame.refl _ _
/-- The slope at each point, before it is steadied; m legs. -/
def StartR (xs ys : List Nat) (m i z : Nat) : Prop := (i = 0 ∧ SlR xs ys 0 z) ∨ (0 < i ∧ i = m ∧ SlR xs ys (m - 1) z) ∨ (0 < i ∧ i < m ∧ MidR xs ys (i - 1) z)
theorem StartR.same {xs ys : List Nat} {m i z z' : Nat} (h : StartR xs ys m i z) (g : StartR xs ys m i z') : FSame .f32 z z' := by
  rcases h with ⟨h0, h⟩ | ⟨h0, h1, h⟩ | ⟨h0, h1, h⟩ <;> rcases g with ⟨g0, g⟩ | ⟨g0, g1, g⟩ | ⟨g0, g1, g⟩ <;> first | exact h.same g | (exfalso; omega)
def StartL (xs ys : List Nat) (m : Nat) (zs : List Nat) : Prop := zs.length = m + 1 ∧ ∀ i, i < m + 1 → StartR xs ys m i (zs.getD i 0)
/-- A leg steadied. -/
def StepR (xs ys : List Nat) (i : Nat) (zs zs' : List Nat) : Prop := ∃ s f l, SlR xs ys i s ∧ SteadyR (zs.getD i 0) (zs.getD (i + 1) 0) s f l ∧ zs' = (zs.set i f).set (i + 1) l
theorem fsame_set {xs ys : List Nat} {i a b : Nat} (h : xs.length = ys.length ∧ ∀ j, FSame .f32 (xs.getD j 0) (ys.getD j 0)) (e : FSame .f32 a b) : (xs.set i a).length = (ys.set i b).length ∧ ∀ j, FSame .f32 ((xs.set i a).getD j 0) ((ys.set i b).getD j 0) := by
  refine ⟨by rw [List.length_set, List.length_set]; exact h.1, fun j => ?_⟩
  simp only [List.getD_eq_getElem?_getD, List.getElem?_set]
  by_cases hij : i = j
  · subst hij
    rw [if_pos rfl, if_pos rfl, ← h.1]
    split
    · exact e
    · exact FSame.refl _ _
  · rw [if_neg hij, if_neg hij]
    have := h.2 j
    simpa only [List.getD_eq_getElem?_getD] using this
theorem StartL.same {xs ys : List Nat} {m : Nat} {zs zs' : List Nat} (h : StartL xs ys m zs) (g : StartL xs ys m zs') : zs.length = zs'.length ∧ ∀ j, FSame .f32 (zs.getD j 0) (zs'.getD j 0) := by
  refine ⟨by rw [h.1, g.1], fun j => ?_⟩
  rcases Nat.lt_or_ge j (m + 1) with hj | hj
  · exact (h.2 j hj).same (g.2 j hj)
  · rw [List.getD_eq_getElem?_getD, List.getElem?_eq_none (by rw [h.1]; exact hj), List.getD_eq_getElem?_getD, List.getElem?_eq_none (by rw [g.1]; exact hj)]
    exact FSame.refl _ _
/-- The slopes, their first legs steadied. -/
def SteadyL (xs ys : List Nat) (m : Nat) : Nat → List Nat → Prop
  | 0, zs => StartL xs ys m zs
  | i + 1, zs => ∃ z0, SteadyL xs ys m i z0 ∧ StepR xs ys i z0 zs
theorem SteadyL.same {xs ys : List Nat} {m : Nat} : ∀ {i : Nat} {zs zs' : List Nat}, SteadyL xs ys m i zs → SteadyL xs ys m i zs' → zs.length = zs'.length ∧ ∀ j, FSame .f32 (zs.getD j 0) (zs'.getD j 0)
  | 0, _, _, h, g => StartL.same h g
  | i + 1, _, _, ⟨z0, h1, s, f, l, h2, h3, h4⟩, ⟨Z0, g1, S, F, L, g2, g3, g4⟩ => by
    have e0 := SteadyL.same h1 g1
    have e1 := SteadyR.same (e0.2 i) (e0.2 (i + 1)) (h2.same g2) h3 g3
    rw [h4, g4]
    exact fsame_set (fsame_set e0 e1.1) e1.2
theorem SteadyL.len {xs ys : List Nat} {m : Nat} : ∀ {i : Nat} {zs : List Nat}, SteadyL xs ys m i zs → zs.length = m + 1
  | 0, _, h => h.1
  | _ + 1, _, ⟨_, h1, _, _, _, _, _, h4⟩ => by rw [h4, List.length_set, List.length_set]; exact SteadyL.len h1

end Go.Proofs.Ytfkdkdocbecjmaa
