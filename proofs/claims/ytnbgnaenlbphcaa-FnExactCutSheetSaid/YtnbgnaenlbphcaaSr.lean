/-
  Shares: what the program's list and the specification's list may be, and that they are one up to not-a-numbers.
  Own work; imports nothing of the program.
-/
import Derived.Test.YtnbgnaenlbphcaaFl
namespace Go.Proofs.Ytnbgnaenlbphcaa
namespace Fl
open Ieee

theorem getD_none {xs : List Nat} {i : Nat} (h : xs.length ≤ i) : xs.getD i 0 = 0 := by
  rw [List.getD_eq_getElem?_getD, List.getElem?_eq_none h]; rfl

/-- One number of the next list. -/
def ShStep (t a b r : Nat) : Prop := ∃ s p q, FOp .sub .f32 1065353216 t s ∧ FOp .mul .f32 a s p ∧ FOp .mul .f32 b t q ∧ FOp .add .f32 p q r
theorem ShStep.same {t a b r a' b' r' : Nat} (ha : FSame .f32 a a') (hb : FSame .f32 b b') (h : ShStep t a b r) (h' : ShStep t a' b' r') : FSame .f32 r r' := by
  obtain ⟨s, p, q, h1, h2, h3, h4⟩ := h
  obtain ⟨s', p', q', g1, g2, g3, g4⟩ := h'
  have e1 := FOp.same (FSame.refl _ _) (FSame.refl _ _) h1 g1
  have e2 := FOp.same ha e1 h2 g2
  have e3 := FOp.same hb (FSame.refl _ _) h3 g3
  exact FOp.same e2 e3 h4 g4

def LSame (xs ys : List Nat) : Prop := xs.length = ys.length ∧ ∀ i, FSame .f32 (xs.getD i 0) (ys.getD i 0)
theorem LSame.refl (xs : List Nat) : LSame xs xs := ⟨rfl, fun _ => FSame.refl _ _⟩

def before (xs : List Nat) (i : Nat) : Nat := if i = 0 then 0 else xs.getD (i - 1) 0
theorem LSame.before {xs ys : List Nat} (h : LSame xs ys) (i : Nat) : FSame .f32 (before xs i) (before ys i) := by
  unfold Fl.before
  split
  · exact FSame.refl _ _
  · exact h.2 _

def ShR (t : Nat) : Nat → List Nat → Prop
  | 0, xs => xs = [1065353216]
  | j + 1, ys => ∃ xs, ShR t j xs ∧ ys.length = xs.length + 1 ∧ ∀ i, i ≤ xs.length → ShStep t (xs.getD i 0) (before xs i) (ys.getD i 0)

theorem ShR.len {t : Nat} : ∀ {j : Nat} {xs : List Nat}, ShR t j xs → xs.length = j + 1
  | 0, _, h => by rw [show _ = _ from h]; rfl
  | j + 1, _, ⟨_, h1, h2, _⟩ => by rw [h2, ShR.len h1]

theorem ShR.same {t : Nat} : ∀ {j : Nat} {xs ys : List Nat}, ShR t j xs → ShR t j ys → LSame xs ys
  | 0, _, _, h, h' => by rw [show _ = _ from h, show _ = _ from h']; exact LSame.refl _
  | j + 1, xs, ys, ⟨us, h1, h2, h3⟩, ⟨vs, g1, g2, g3⟩ => by
    have hs := ShR.same h1 g1
    refine ⟨by rw [h2, g2, hs.1], fun i => ?_⟩
    by_cases hi : i ≤ us.length
    · exact ShStep.same (hs.2 i) (hs.before i) (h3 i hi) (g3 i (by rw [← hs.1]; exact hi))
    · have e1 : xs.getD i 0 = 0 := getD_none (by omega)
      have e2 : ys.getD i 0 = 0 := getD_none (by have := hs.1; omega)
      rw [e1, e2]
      exact FSame.refl _ _

/-- A time, as a share. -/
def isShareB (t : Nat) : Bool := (FloatKind.f32.format.order t 0 == some Ordering.gt || FloatKind.f32.format.order t 0 == some Ordering.eq) && (FloatKind.f32.format.order t 1065353216 == some Ordering.lt || FloatKind.f32.format.order t 1065353216 == some Ordering.eq)

end Fl
end Go.Proofs.Ytnbgnaenlbphcaa
