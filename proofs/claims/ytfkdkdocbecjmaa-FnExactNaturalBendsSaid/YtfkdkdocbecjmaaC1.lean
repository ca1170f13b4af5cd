/-
  Natural bends: what both sides reckon, up to not-a-numbers.
-/
import Derived.Test.YtfkdkdocbecjmaaB9
namespace Go.Proofs.Ytfkdkdocbecjmaa
open Go.RowKit Fl Go.WideShapes Go.Deep

/-- How wide a leg is. -/
def WdR (xs : List Nat) (i wd : Nat) : Prop := FOp .sub .f32 (xs.getD (i + 1) 0) (xs.getD i 0) wd
theorem WdR.same {xs : List Nat} {i a b : Nat} (h : WdR xs i a) (g : WdR xs i b) : FSame .f32 a b := FOp.same (FSame.refl _ _) (FSame.refl _ _) h g
def RawA (xs : List Nat) (i a : Nat) : Prop := ∃ b h s, WdR xs i b ∧ WdR xs (i + 1) h ∧ FOp .add .f32 b h s ∧ FOp .mul .f32 1073741824 s a
theorem RawA.same {xs : List Nat} {i a a' : Nat} (h : RawA xs i a) (g : RawA xs i a') : FSame .f32 a a' := by
  obtain ⟨b, k, s, h1, h2, h3, h4⟩ := h
  obtain ⟨B, K, S, g1, g2, g3, g4⟩ := g
  exact FOp.same (FSame.refl _ _) (FOp.same (h1.same g1) (h2.same g2) h3 g3) h4 g4
def RawR (xs ys : List Nat) (i r : Nat) : Prop := ∃ p q d, SlR xs ys i p ∧ SlR xs ys (i + 1) q ∧ FOp .sub .f32 q p d ∧ FOp .mul .f32 1086324736 d r
theorem RawR.same {xs ys : List Nat} {i a a' : Nat} (h : RawR xs ys i a) (g : RawR xs ys i a') : FSame .f32 a a' := by
  obtain ⟨b, k, s, h1, h2, h3, h4⟩ := h
  obtain ⟨B, K, S, g1, g2, g3, g4⟩ := g
  exact FOp.same (FSame.refl _ _) (FOp.same (h2.same g2) (h1.same g1) h3 g3) h4 g4
/-- A row whose number before is taken out. -/
def ElimR (xs ys : List Nat) : Nat → Nat → Nat → Prop
  | 0, m, r => RawA xs 0 m ∧ RawR xs ys 0 r
  | i + 1, m, r => ∃ m' r' b f c t m0 r0 u, ElimR xs ys i m' r' ∧ WdR xs (i + 1) b ∧ FOp .quo .f32 b m' f ∧ WdR xs (i + 1) c ∧ FOp .mul .f32 f c t ∧ RawA xs (i + 1) m0 ∧ FOp .sub .f32 m0 t m ∧ FOp .mul .f32 f r' u ∧ RawR xs ys (i + 1) r0 ∧ FOp .sub .f32 r0 u r
theorem ElimR.same {xs ys : List Nat} : ∀ {i m r M R : Nat}, ElimR xs ys i m r → ElimR xs ys i M R → FSame .f32 m M ∧ FSame .f32 r R
  | 0, _, _, _, _, ⟨h1, h2⟩, ⟨g1, g2⟩ => ⟨h1.same g1, h2.same g2⟩
  | i + 1, _, _, _, _, ⟨m', r', b, f, c, t, m0, r0, u, h1, h2, h3, h4, h5, h6, h7, h8, h9, h10⟩, ⟨M', R', B, F, C, T, M0, R0, U, g1, g2, g3, g4, g5, g6, g7, g8, g9, g10⟩ => by
    obtain ⟨e1, e2⟩ := ElimR.same h1 g1
    have ef := FOp.same (h2.same g2) e1 h3 g3
    exact ⟨FOp.same (h6.same g6) (FOp.same ef (h4.same g4) h5 g5) h7 g7, FOp.same (h9.same g9) (FOp.same ef e2 h8 g8) h10 g10⟩
/-- The bend of a row, j rows before the last one of N rows. -/
def BendR (xs ys : List Nat) (N : Nat) : Nat → Nat → Prop
  | 0, b => ∃ m r, ElimR xs ys (N - 1) m r ∧ FOp .quo .f32 r m b
  | j + 1, b => ∃ b' m r h t u, BendR xs ys N j b' ∧ ElimR xs ys (N - 1 - (j + 1)) m r ∧ WdR xs (N - 1 - (j + 1) + 1) h ∧ FOp .mul .f32 h b' t ∧ FOp .sub .f32 r t u ∧ FOp .quo .f32 u m b
theorem BendR.same {xs ys : List Nat} {N : Nat} : ∀ {j b B : Nat}, BendR xs ys N j b → BendR xs ys N j B → FSame .f32 b B
  | 0, _, _, ⟨_, _, h1, h2⟩, ⟨_, _, g1, g2⟩ => FOp.same (h1.same g1).2 (h1.same g1).1 h2 g2
  | _ + 1, _, _, ⟨_, _, _, _, _, _, h1, h2, h3, h4, h5, h6⟩, ⟨_, _, _, _, _, _, g1, g2, g3, g4, g5, g6⟩ =>
    FOp.same (FOp.same (h2.same g2).2 (FOp.same (h3.same g3) (BendR.same h1 g1) h4 g4) h5 g5) (h2.same g2).1 h6 g6
/-- The bends at all points; N rows. -/
def NatL (xs ys : List Nat) (N : Nat) (vs : List Nat) : Prop := vs.length = N + 2 ∧ vs.getD 0 0 = 0 ∧ vs.getD (N + 1) 0 = 0 ∧ ∀ i, i < N → BendR xs ys N (N - 1 - i) (vs.getD (i + 1) 0)
theorem NatL.same {xs ys : List Nat} {N : Nat} {vs us : List Nat} (h : NatL xs ys N vs) (g : NatL xs ys N us) : LSame vs us := by
  obtain ⟨h1, h2, h3, h4⟩ := h
  obtain ⟨g1, g2, g3, g4⟩ := g
  refine ⟨by rw [h1, g1], fun i => ?_⟩
  rcases Nat.lt_or_ge i (N + 2) with hi | hi
  · by_cases e0 : i = 0
    · subst e0; rw [h2, g2]; exact FSame.refl _ _
    · by_cases e1 : i = N + 1
      · subst e1; rw [h3, g3]; exact FSame.refl _ _
      · obtain ⟨j, rfl⟩ : ∃ j, i = j + 1 := ⟨i - 1, by omega⟩
        exact (h4 j (by omega)).same (g4 j (by omega))
  · rw [List.getD_eq_getElem?_getD, List.getElem?_eq_none (by omega), List.getD_eq_getElem?_getD, List.getElem?_eq_none (by omega)]
    exact FSame.refl _ _

/-- The rows, those up to the row k with the number before taken out. -/
def RowsE (xs ys : List Nat) (N k : Nat) (zs : List Nat) : Prop :=
  zs.length = N * 4 ∧ ∀ i, i < N → WdR xs i (zs.getD (i * 4) 0) ∧ WdR xs (i + 1) (zs.getD (i * 4 + 2) 0) ∧ (i ≤ k → ElimR xs ys i (zs.getD (i * 4 + 1) 0) (zs.getD (i * 4 + 3) 0)) ∧ (k < i → RawA xs i (zs.getD (i * 4 + 1) 0) ∧ RawR xs ys i (zs.getD (i * 4 + 3) 0))
theorem RowsE.step {xs ys : List Nat} {N k f t m u r : Nat} {zs : List Nat} (h : RowsE xs ys N k zs) (hk : k + 1 < N) (hf : FOp .quo .f32 (zs.getD ((k + 1) * 4) 0) (zs.getD (k * 4 + 1) 0) f)
    (ht : FOp .mul .f32 f (zs.getD (k * 4 + 2) 0) t) (hm : FOp .sub .f32 (zs.getD ((k + 1) * 4 + 1) 0) t m) (hu : FOp .mul .f32 f (zs.getD (k * 4 + 3) 0) u) (hr : FOp .sub .f32 (zs.getD ((k + 1) * 4 + 3) 0) u r) :
    RowsE xs ys N (k + 1) ((zs.set ((k + 1) * 4 + 1) m).set ((k + 1) * 4 + 3) r) := by
  obtain ⟨h1, h2⟩ := h
  refine ⟨by rw [List.length_set, List.length_set]; exact h1, fun i hi => ?_⟩
  obtain ⟨a1, a2, a3, a4⟩ := h2 i hi
  rw [getD_set_ne (j := i * 4) (by omega), getD_set_ne (j := i * 4) (by omega), getD_set_ne (j := i * 4 + 2) (by omega), getD_set_ne (j := i * 4 + 2) (by omega)]
  refine ⟨a1, a2, fun hik => ?_, fun hik => ?_⟩
  · by_cases e : i = k + 1
    · subst e
      obtain ⟨c1, c2, c3, -⟩ := h2 k (by omega)
      obtain ⟨d1, d2⟩ := a4 (by omega)
      rw [getD_set_self (by rw [List.length_set]; omega), getD_set_ne (j := (k + 1) * 4 + 1) (by omega), getD_set_self (by omega)]
      exact ⟨_, _, _, _, _, _, _, _, _, c3 (Nat.le_refl _), a1, hf, c2, ht, d1, hm, hu, d2, hr⟩
    · rw [getD_set_ne (j := i * 4 + 1) (by omega), getD_set_ne (j := i * 4 + 1) (by omega), getD_set_ne (j := i * 4 + 3) (by omega), getD_set_ne (j := i * 4 + 3) (by omega)]
      exact a3 (by omega)
  · rw [getD_set_ne (j := i * 4 + 1) (by omega), getD_set_ne (j := i * 4 + 1) (by omega), getD_set_ne (j := i * 4 + 3) (by omega), getD_set_ne (j := i * 4 + 3) (by omega)]
    exact a4 (by omega)
/-- The bends while they are reckoned, the last k of N rows. -/
def BackP (xs ys : List Nat) (N k : Nat) (us : List Nat) : Prop := us.length = N ∧ ∀ i, i < N → N ≤ i + k → BendR xs ys N (N - 1 - i) (us.getD i 0)
theorem BackP.step {xs ys : List Nat} {N k q b : Nat} {us : List Nat} (h : BackP xs ys N k us) (hq : q + k + 1 = N) (hb : BendR xs ys N k b) : BackP xs ys N (k + 1) (us.set q b) := by
  obtain ⟨h1, h2⟩ := h
  refine ⟨by rw [List.length_set]; exact h1, fun i hi hik => ?_⟩
  by_cases e : i = q
  · subst e
    rw [getD_set_self (by omega), show N - 1 - i = k by omega]
    exact hb
  · rw [getD_set_ne (by omega)]
    exact h2 i hi (by omega)

end Go.Proofs.Ytfkdkdocbecjmaa
