/-
  JerkPlan: what both sides reckon; the ways of plans.
-/
import Derived.Test.YtohbanchaggnmaaY3
import Derived.Test.YtohbanchaggnmaaRt
namespace Go.Proofs.Ytohbanchaggnmaa
open Go.RowKit Fl Ieee Go.WideShapes Go.Deep
attribute [local go_sem] kstore_f kalloc_drewN kset_drewN unary_neg_y

/-- The speed of a plan that is no longer changed. -/
def PeakR (j r h p : Nat) : Prop := ∃ a s, FOp .mul .f32 j r a ∧ FOp .add .f32 r h s ∧ FOp .mul .f32 a s p
theorem PeakR.same {j r h p R H P : Nat} (hr : FSame .f32 r R) (hh : FSame .f32 h H) (k : PeakR j r h p) (g : PeakR j R H P) : FSame .f32 p P := by
  obtain ⟨a, s, k1, k2, k3⟩ := k
  obtain ⟨A, S, g1, g2, g3⟩ := g
  exact FOp.same (FOp.same (FSame.refl _ _) hr k1 g1) (FOp.same hr hh k2 g2) k3 g3
/-- How far a plan goes without a cruise. -/
def LeastR (j r h q : Nat) : Prop := ∃ p a s, PeakR j r h p ∧ FOp .mul .f32 1073741824 r a ∧ FOp .add .f32 a h s ∧ FOp .mul .f32 p s q
theorem LeastR.same {j r h q R H Q : Nat} (hr : FSame .f32 r R) (hh : FSame .f32 h H) (k : LeastR j r h q) (g : LeastR j R H Q) : FSame .f32 q Q := by
  obtain ⟨p, a, s, k1, k2, k3, k4⟩ := k
  obtain ⟨P, A, S, g1, g2, g3, g4⟩ := g
  exact FOp.same (PeakR.same hr hh k1 g1) (FOp.same (FOp.same (FSame.refl _ _) hr k2 g2) hh k3 g3) k4 g4
def leqW (x y : Nat) : Bool := FloatKind.f32.format.order x y == some Ordering.lt || FloatKind.f32.format.order x y == some Ordering.eq
theorem leqW_same {x y X : Nat} (h : FSame .f32 x X) : leqW x y = leqW X y := by unfold leqW; rw [order_same h (FSame.refl _ y)]

/-- The share of a plan after k halvings. -/
def ShareK (j r h long : Nat) : Nat → Nat → Nat → Prop
  | 0, lo, hi => lo = 0 ∧ hi = 1065353216
  | k + 1, lo, hi => ∃ l0 h0 s m mr mh q, ShareK j r h long k l0 h0 ∧ FOp .add .f32 l0 h0 s ∧ HalfR s m ∧ FOp .mul .f32 m r mr ∧ FOp .mul .f32 m h mh ∧ LeastR j mr mh q ∧
      ((leqW q long = true ∧ lo = m ∧ hi = h0) ∨ (leqW q long = false ∧ lo = l0 ∧ hi = m))
theorem ShareK.same {j r h long R H : Nat} (hr : FSame .f32 r R) (hh : FSame .f32 h H) : ∀ {k lo hi LO HI : Nat}, ShareK j r h long k lo hi → ShareK j R H long k LO HI → FSame .f32 lo LO ∧ FSame .f32 hi HI
  | 0, _, _, _, _, ⟨h1, h2⟩, ⟨g1, g2⟩ => ⟨.inl (h1.trans g1.symm), .inl (h2.trans g2.symm)⟩
  | k + 1, _, _, _, _, ⟨l0, h0, s, m, mr, mh, q, k1, k2, k3, k4, k5, k6, k7⟩, ⟨L0, H0, S, M, MR, MH, Q, g1, g2, g3, g4, g5, g6, g7⟩ => by
    obtain ⟨e1, e2⟩ := ShareK.same hr hh k1 g1
    have em := HalfR.same (FOp.same e1 e2 k2 g2) k3 g3
    have eq := LeastR.same (FOp.same em hr k4 g4) (FOp.same em hh k5 g5) k6 g6
    have el : leqW q long = leqW Q long := leqW_same eq
    rcases k7 with ⟨a1, rfl, rfl⟩ | ⟨a1, rfl, rfl⟩ <;> rcases g7 with ⟨b1, rfl, rfl⟩ | ⟨b1, rfl, rfl⟩
    · exact ⟨em, e2⟩
    · rw [a1, b1] at el; cases el
    · rw [a1, b1] at el; cases el
    · exact ⟨e1, em⟩

end Go.Proofs.Ytohbanchaggnmaa
