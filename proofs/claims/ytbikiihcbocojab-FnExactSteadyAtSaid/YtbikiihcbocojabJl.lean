/-
  Curves through a graph, at a place: what both sides reckon, as relations.
  Own work; imports nothing of the program.
-/
import Derived.Test.YtbikiihcbocojabFl
namespace Go.Proofs.Ytbikiihcbocojab
namespace Fl
open Ieee

/-- a a a less a, times a number. -/
def Cub (a z p : Nat) : Prop := ∃ a2 a3 a4, FOp .mul .f32 a a a2 ∧ FOp .mul .f32 a2 a a3 ∧ FOp .sub .f32 a3 a a4 ∧ FOp .mul .f32 a4 z p
theorem Cub.same {a z p a' p' : Nat} (ha : FSame .f32 a a') (h : Cub a z p) (g : Cub a' z p') : FSame .f32 p p' := by
  obtain ⟨_, _, _, h1, h2, h3, h4⟩ := h
  obtain ⟨_, _, _, g1, g2, g3, g4⟩ := g
  exact FOp.same (FOp.same (FOp.same (FOp.same ha ha h1 g1) ha h2 g2) ha h3 g3) (FSame.refl _ _) h4 g4
/-- How wide the leg is, and both shares. -/
def Wide (x0 x1 t h a b : Nat) : Prop := FOp .sub .f32 x1 x0 h ∧ (∃ n, FOp .sub .f32 x1 t n ∧ FOp .quo .f32 n h a) ∧ ∃ n, FOp .sub .f32 t x0 n ∧ FOp .quo .f32 n h b
theorem Wide.same {x0 x1 t h a b h' a' b' : Nat} (p : Wide x0 x1 t h a b) (q : Wide x0 x1 t h' a' b') : FSame .f32 h h' ∧ FSame .f32 a a' ∧ FSame .f32 b b' := by
  obtain ⟨p1, ⟨_, p2, p3⟩, ⟨_, p4, p5⟩⟩ := p
  obtain ⟨q1, ⟨_, q2, q3⟩, ⟨_, q4, q5⟩⟩ := q
  have e := FOp.same (FSame.refl _ _) (FSame.refl _ _) p1 q1
  exact ⟨e, FOp.same (FOp.same (FSame.refl _ _) (FSame.refl _ _) p2 q2) e p3 q3, FOp.same (FOp.same (FSame.refl _ _) (FSame.refl _ _) p4 q4) e p5 q5⟩
def BentR (x0 x1 y0 y1 z0 z1 t r : Nat) : Prop :=
  ∃ h a b, Wide x0 x1 t h a b ∧ ∃ p q, Cub a z0 p ∧ Cub b z1 q ∧ ∃ s1 s2 s, FOp .mul .f32 a y0 s1 ∧ FOp .mul .f32 b y1 s2 ∧ FOp .add .f32 s1 s2 s ∧
    ∃ m1 m2 m3 m4, FOp .add .f32 p q m1 ∧ FOp .mul .f32 m1 h m2 ∧ FOp .mul .f32 m2 h m3 ∧ FOp .quo .f32 m3 1086324736 m4 ∧ FOp .add .f32 s m4 r
theorem BentR.same {x0 x1 y0 y1 z0 z1 t r r' : Nat} (p : BentR x0 x1 y0 y1 z0 z1 t r) (q : BentR x0 x1 y0 y1 z0 z1 t r') : FSame .f32 r r' := by
  obtain ⟨_, _, _, w, _, _, c, d, _, _, _, s1, s2, s3, _, _, _, _, m1, m2, m3, m4, m5⟩ := p
  obtain ⟨_, _, _, w', _, _, c', d', _, _, _, s1', s2', s3', _, _, _, _, m1', m2', m3', m4', m5'⟩ := q
  obtain ⟨eh, ea, eb⟩ := Wide.same w w'
  have es := FOp.same (FOp.same ea (FSame.refl _ _) s1 s1') (FOp.same eb (FSame.refl _ _) s2 s2') s3 s3'
  have em := FOp.same (FOp.same (FOp.same (FOp.same (Cub.same ea c c') (Cub.same eb d d') m1 m1') eh m2 m2') eh m3 m3') (FSame.refl _ _) m4 m4'
  exact FOp.same es em m5 m5'

/-- How wide the leg is, the share, and the rest. -/
def Wide1 (x0 x1 t h u v : Nat) : Prop := FOp .sub .f32 x1 x0 h ∧ (∃ n, FOp .sub .f32 t x0 n ∧ FOp .quo .f32 n h u) ∧ FOp .sub .f32 1065353216 u v
theorem Wide1.same {x0 x1 t h a b h' a' b' : Nat} (p : Wide1 x0 x1 t h a b) (q : Wide1 x0 x1 t h' a' b') : FSame .f32 h h' ∧ FSame .f32 a a' ∧ FSame .f32 b b' := by
  obtain ⟨p1, ⟨_, p2, p3⟩, p4⟩ := p
  obtain ⟨q1, ⟨_, q2, q3⟩, q4⟩ := q
  have e := FOp.same (FSame.refl _ _) (FSame.refl _ _) p1 q1
  have e2 := FOp.same (FOp.same (FSame.refl _ _) (FSame.refl _ _) p2 q2) e p3 q3
  exact ⟨e, e2, FOp.same (FSame.refl _ _) e2 p4 q4⟩
def St1 (u v y s r : Nat) : Prop := ∃ a b c d e, FOp .mul .f32 1073741824 u a ∧ FOp .add .f32 1065353216 a b ∧ FOp .mul .f32 b v c ∧ FOp .mul .f32 c v d ∧ FOp .mul .f32 d y e ∧ FOp .add .f32 s e r
def St2 (u v h y s r : Nat) : Prop := ∃ a b c e, FOp .mul .f32 u v a ∧ FOp .mul .f32 a v b ∧ FOp .mul .f32 b h c ∧ FOp .mul .f32 c y e ∧ FOp .add .f32 s e r
def St3 (u y s r : Nat) : Prop := ∃ a b c d e, FOp .mul .f32 u u a ∧ FOp .mul .f32 1073741824 u b ∧ FOp .sub .f32 1077936128 b c ∧ FOp .mul .f32 a c d ∧ FOp .mul .f32 d y e ∧ FOp .add .f32 s e r
def St4 (u h y s r : Nat) : Prop := ∃ a b c d e, FOp .mul .f32 u u a ∧ FOp .sub .f32 u 1065353216 b ∧ FOp .mul .f32 a b c ∧ FOp .mul .f32 c h d ∧ FOp .mul .f32 d y e ∧ FOp .add .f32 s e r
theorem St1.same {u v y s r u' v' s' r' : Nat} (eu : FSame .f32 u u') (ev : FSame .f32 v v') (es : FSame .f32 s s') (p : St1 u v y s r) (q : St1 u' v' y s' r') : FSame .f32 r r' := by
  obtain ⟨_, _, _, _, _, p1, p2, p3, p4, p5, p6⟩ := p
  obtain ⟨_, _, _, _, _, q1, q2, q3, q4, q5, q6⟩ := q
  exact FOp.same es (FOp.same (FOp.same (FOp.same (FOp.same (FSame.refl _ _) (FOp.same (FSame.refl _ _) eu p1 q1) p2 q2) ev p3 q3) ev p4 q4) (FSame.refl _ _) p5 q5) p6 q6
theorem St2.same {u v h y s r u' v' h' s' r' : Nat} (eu : FSame .f32 u u') (ev : FSame .f32 v v') (eh : FSame .f32 h h') (es : FSame .f32 s s') (p : St2 u v h y s r) (q : St2 u' v' h' y s' r') : FSame .f32 r r' := by
  obtain ⟨_, _, _, _, p1, p2, p3, p4, p5⟩ := p
  obtain ⟨_, _, _, _, q1, q2, q3, q4, q5⟩ := q
  exact FOp.same es (FOp.same (FOp.same (FOp.same (FOp.same eu ev p1 q1) ev p2 q2) eh p3 q3) (FSame.refl _ _) p4 q4) p5 q5
theorem St3.same {u y s r u' s' r' : Nat} (eu : FSame .f32 u u') (es : FSame .f32 s s') (p : St3 u y s r) (q : St3 u' y s' r') : FSame .f32 r r' := by
  obtain ⟨_, _, _, _, _, p1, p2, p3, p4, p5, p6⟩ := p
  obtain ⟨_, _, _, _, _, q1, q2, q3, q4, q5, q6⟩ := q
  exact FOp.same es (FOp.same (FOp.same (FOp.same eu eu p1 q1) (FOp.same (FSame.refl _ _) (FOp.same (FSame.refl _ _) eu p2 q2) p3 q3) p4 q4) (FSame.refl _ _) p5 q5) p6 q6
theorem St4.same {u h y s r u' h' s' r' : Nat} (eu : FSame .f32 u u') (eh : FSame .f32 h h') (es : FSame .f32 s s') (p : St4 u h y s r) (q : St4 u' h' y s' r') : FSame .f32 r r' := by
  obtain ⟨_, _, _, _, _, p1, p2, p3, p4, p5, p6⟩ := p
  obtain ⟨_, _, _, _, _, q1, q2, q3, q4, q5, q6⟩ := q
  exact FOp.same es (FOp.same (FOp.same (FOp.same (FOp.same eu eu p1 q1) (FOp.same eu (FSame.refl _ _) p2 q2) p3 q3) eh p4 q4) (FSame.refl _ _) p5 q5) p6 q6
def SteadyR (x0 x1 y0 y1 z0 z1 t r : Nat) : Prop :=
  ∃ h u v, Wide1 x0 x1 t h u v ∧ ∃ s1 s2 s3, St1 u v y0 0 s1 ∧ St2 u v h z0 s1 s2 ∧ St3 u y1 s2 s3 ∧ St4 u h z1 s3 r
theorem SteadyR.same {x0 x1 y0 y1 z0 z1 t r r' : Nat} (p : SteadyR x0 x1 y0 y1 z0 z1 t r) (q : SteadyR x0 x1 y0 y1 z0 z1 t r') : FSame .f32 r r' := by
  obtain ⟨_, _, _, w, _, _, _, p1, p2, p3, p4⟩ := p
  obtain ⟨_, _, _, w', _, _, _, q1, q2, q3, q4⟩ := q
  obtain ⟨eh, eu, ev⟩ := Wide1.same w w'
  exact St4.same eu eh (St3.same eu (St2.same eu ev eh (St1.same eu ev (FSame.refl _ _) p1 q1) p2 q2) p3 q3) p4 q4

end Fl
end Go.Proofs.Ytbikiihcbocojab
