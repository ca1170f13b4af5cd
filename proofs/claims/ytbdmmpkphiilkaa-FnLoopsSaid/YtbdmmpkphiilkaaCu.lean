/-
  The cutting of a curve whose weights are one, a part of its points at a time: what it is near to.
  Own work; imports nothing of the program.
-/
import Derived.Test.YtbdmmpkphiilkaaOn
namespace Go.Proofs.Ytbdmmpkphiilkaa
namespace Fl
open Ieee

theorem FOp.add_some {k : FloatKind} {x y r : Nat} {a b : Rat} (hx : FV k x a) (hy : FV k y b) (h : FOp .add k x y r) : floatBits .add k x y = some r := by
  obtain ⟨r', e⟩ := fadd_some hx hy
  unfold FOp at h
  rw [e] at h
  rw [e, h]
theorem FOp.sub_some {k : FloatKind} {x y r : Nat} {a b : Rat} (hx : FV k x a) (hy : FV k y b) (h : FOp .sub k x y r) : floatBits .sub k x y = some r := by
  obtain ⟨r', e⟩ := fsub_some hx hy
  unfold FOp at h
  rw [e] at h
  rw [e, h]
theorem FOp.mul_some {k : FloatKind} {x y r : Nat} {a b : Rat} (hx : FV k x a) (hy : FV k y b) (h : FOp .mul k x y r) : floatBits .mul k x y = some r := by
  obtain ⟨r', e⟩ := fmul_some hx hy
  unfold FOp at h
  rw [e] at h
  rw [e, h]

/-- What two parts blend to, by s for the first and t for the second one. -/
def Bl (s t a b r : Nat) : Prop := ∃ u v, FOp .mul .f32 a s u ∧ FOp .mul .f32 b t v ∧ FOp .add .f32 u v r
theorem Bl.same {s t a b r r' : Nat} (h : Bl s t a b r) (h' : Bl s t a b r') : FSame .f32 r r' := by
  obtain ⟨u, v, h1, h2, h3⟩ := h
  obtain ⟨u', v', g1, g2, g3⟩ := h'
  exact h3.same (h1.same (FSame.refl _ _) (FSame.refl _ _) g1) (h2.same (FSame.refl _ _) (FSame.refl _ _) g2) g3
theorem Bl.same2 {s t a b a' b' r r' : Nat} (ha : FSame .f32 a a') (hb : FSame .f32 b b') (h : Bl s t a b r) (h' : Bl s t a' b' r') : FSame .f32 r r' := by
  obtain ⟨u, v, h1, h2, h3⟩ := h
  obtain ⟨u', v', g1, g2, g3⟩ := h'
  exact h3.same (h1.same ha (FSame.refl _ _) g1) (h2.same hb (FSame.refl _ _) g2) g3

theorem mul_bound {a t M : Rat} (h1 : -M ≤ a) (h2 : a ≤ M) (h3 : 0 ≤ t) (h4 : t ≤ 1) (hM : 0 ≤ M) : -M ≤ a * t ∧ a * t ≤ M := by
  have e1 := Rat.mul_le_mul_of_nonneg_right h1 h3
  have e2 := Rat.mul_le_mul_of_nonneg_right h2 h3
  have e3 := Rat.mul_le_mul_of_nonneg_left h4 hM
  constructor <;> grind
theorem mul_tiny {a d M e : Rat} (h1 : -M ≤ a) (h2 : a ≤ M) (h3 : -e ≤ d) (h4 : d ≤ e) (_he : 0 ≤ e) : -(M * e) ≤ a * d ∧ a * d ≤ M * e := by
  rcases Rat.le_total (a := 0) (b := d) with hd | hd
  · have e1 := Rat.mul_le_mul_of_nonneg_right h1 hd
    have e2 := Rat.mul_le_mul_of_nonneg_right h2 hd
    have hM : 0 ≤ M := by grind
    have e3 := Rat.mul_le_mul_of_nonneg_left h4 hM
    constructor <;> grind
  · have hd' : 0 ≤ -d := by grind
    have e1 := Rat.mul_le_mul_of_nonneg_right h1 hd'
    have e2 := Rat.mul_le_mul_of_nonneg_right h2 hd'
    have hM : 0 ≤ M := by grind
    have e3 := Rat.mul_le_mul_of_nonneg_left (show -d ≤ e by grind) hM
    constructor <;> grind
theorem convex {lo hi a b t : Rat} (h1 : lo ≤ a) (h2 : a ≤ hi) (h3 : lo ≤ b) (h4 : b ≤ hi) (t0 : 0 ≤ t) (t1 : t ≤ 1) : lo ≤ a * (1 - t) + b * t ∧ a * (1 - t) + b * t ≤ hi := by
  have t2 : 0 ≤ 1 - t := by grind
  have e1 := Rat.mul_le_mul_of_nonneg_right h1 t2
  have e2 := Rat.mul_le_mul_of_nonneg_right h2 t2
  have e3 := Rat.mul_le_mul_of_nonneg_right h3 t0
  have e4 := Rat.mul_le_mul_of_nonneg_right h4 t0
  constructor <;> grind

/-- A weight beside its time. -/
structure Wt (s t : Nat) (τ : Rat) : Prop where
  tv : FV .f32 t τ
  t0 : 0 ≤ τ
  t1 : τ ≤ 1
  sv : ∃ σ, FV .f32 s σ ∧ -(1 / 33554432) ≤ σ - (1 - τ) ∧ σ - (1 - τ) ≤ 1 / 33554432

theorem uk32 : uk .f32 = 1 / 16777216 := rfl
theorem eta_small : 0 < eta ∧ eta ≤ 1 / 1000000000000 := by decide +kernel
theorem e2_val : (8 : Rat) * (1 / 33554432) ≤ 0.0000003 := by decide +kernel
theorem e1_val : (8.1 : Rat) * (1 / 16777216) + 1 / 1000000000000 ≤ 0.0000005 := by decide +kernel

theorem bl_near {s t a b r : Nat} {τ α β : Rat} (hw : Wt s t τ) (ha : FV .f32 a α) (hb : FV .f32 b β) (a1 : -8 ≤ α) (a2 : α ≤ 8) (b1 : -8 ≤ β) (b2 : β ≤ 8) (h : Bl s t a b r) :
    ∃ c, FV .f32 r c ∧ -0.000002 ≤ c - (α * (1 - τ) + β * τ) ∧ c - (α * (1 - τ) + β * τ) ≤ 0.000002 := by
  obtain ⟨u, v, h1, h2, h3⟩ := h
  obtain ⟨tv, t0, t1, σ, hσ, s1, s2⟩ := hw
  obtain ⟨n0, n1⟩ := eta_small
  have hbig : (8.1 : Rat) ≤ big := by decide +kernel
  have k1 := e1_val
  have k2 := e2_val
  have hsm : α * σ = α * (1 - τ) + α * (σ - (1 - τ)) := by grind
  obtain ⟨p1, p2⟩ := mul_tiny a1 a2 s1 s2 (by decide +kernel)
  obtain ⟨q1, q2⟩ := mul_bound (M := 8) a1 a2 (show (0 : Rat) ≤ 1 - τ by grind) (by grind) (by decide +kernel)
  obtain ⟨q3, q4⟩ := mul_bound (M := 8) b1 b2 t0 t1 (by decide +kernel)
  obtain ⟨q5, q6⟩ := convex a1 a2 b1 b2 t0 t1
  generalize hP : α * (1 - τ) = P at *
  generalize hQ : β * τ = Q at *
  generalize hD : α * (σ - (1 - τ)) = D at *
  obtain ⟨c1, u1, u2, u3⟩ := fmul (B := 8.1) ha hσ (h1.mul_some ha hσ) (by rw [hsm]; grind) (by rw [hsm]; grind) hbig
  obtain ⟨c2, v1, v2, v3⟩ := fmul (B := 8.1) hb tv (h2.mul_some hb tv) (by rw [hQ]; grind) (by rw [hQ]; grind) hbig
  rw [hsm, uk32] at u2 u3
  rw [hQ, uk32] at v2 v3
  generalize hE : (8.1 : Rat) * (1 / 16777216) = E at *
  have ub1 : -0.000001 ≤ c1 - P := by grind
  have ub2 : c1 - P ≤ 0.000001 := by grind
  have vb1 : -0.0000005 ≤ c2 - Q := by grind
  have vb2 : c2 - Q ≤ 0.0000005 := by grind
  obtain ⟨c, w1, w2, w3⟩ := fadd (B := 8.1) u1 v1 (h3.add_some u1 v1) (by grind) (by grind) hbig
  rw [uk32, hE] at w2 w3
  exact ⟨c, w1, by grind, by grind⟩

/-- Parts of points between bounds. -/
def InB (lo hi : Rat) (ys : List Nat) : Prop := ∀ i, i < ys.length → ∃ q, FV .f32 (ys.getD i 0) q ∧ lo ≤ q ∧ q ≤ hi
/-- The next row of the cutting. -/
def RowR (s t : Nat) (ys zs : List Nat) : Prop := zs.length + 1 = ys.length ∧ ∀ i, i < zs.length → Bl s t (ys.getD i 0) (ys.getD (i + 1) 0) (zs.getD i 0)
inductive CutQ (s t : Nat) : List Nat → Nat → Prop
  | one (r : Nat) : CutQ s t [r] r
  | row {ys zs : List Nat} {r : Nat} : RowR s t ys zs → CutQ s t zs r → CutQ s t ys r

theorem RowR.inB {s t : Nat} {τ lo hi : Rat} {ys zs : List Nat} (hw : Wt s t τ) (h1 : -8 ≤ lo) (h2 : hi ≤ 8) (hy : InB lo hi ys) (h : RowR s t ys zs) : InB (lo - 0.000002) (hi + 0.000002) zs := by
  intro i hi'
  obtain ⟨hl, hr⟩ := h
  obtain ⟨α, a1, a2, a3⟩ := hy i (by omega)
  obtain ⟨β, b1, b2, b3⟩ := hy (i + 1) (by omega)
  obtain ⟨c, c1, c2, c3⟩ := bl_near hw a1 b1 (by grind) (by grind) (by grind) (by grind) (hr i hi')
  obtain ⟨d1, d2⟩ := convex a2 a3 b2 b3 hw.t0 hw.t1
  exact ⟨c, c1, by grind, by grind⟩

theorem CutQ.inB {s t : Nat} {τ : Rat} (hw : Wt s t τ) {ys : List Nat} {r : Nat} (h : CutQ s t ys r) : ∀ {lo hi : Rat} (n : Nat), ys.length = n + 1 → -8 ≤ lo - 0.000002 * n → hi + 0.000002 * n ≤ 8 → InB lo hi ys → ∃ c, FV .f32 r c ∧ lo - 0.000002 * n ≤ c ∧ c ≤ hi + 0.000002 * n := by
  induction h with
  | one r =>
    intro lo hi n hn h1 h2 hy
    obtain ⟨q, q1, q2, q3⟩ := hy 0 (by simp)
    have : n = 0 := by simpa using hn.symm
    subst this
    have e : ((0 : Nat) : Rat) = 0 := rfl
    rw [e]
    exact ⟨q, q1, by grind, by grind⟩
  | @row ys zs r hr hc ih =>
    intro lo hi n hn h1 h2 hy
    have hl := hr.1
    obtain ⟨m, rfl⟩ : ∃ m, n = m + 1 := ⟨n - 1, by
      have : zs.length ≠ 0 := by
        intro h0
        have hz : zs = [] := List.eq_nil_of_length_eq_zero h0
        subst hz
        cases hc with
        | row h _ => have := h.1; simp at this
      omega⟩
    have e : ((m + 1 : Nat) : Rat) = (m : Rat) + 1 := by rw [Rat.natCast_add]; rfl
    rw [e] at h1 h2 ⊢
    have hm : (0 : Rat) ≤ m := Rat.natCast_nonneg
    obtain ⟨c, c1, c2, c3⟩ := ih m (by omega) (by grind) (by grind) (hr.inB hw (by grind) (by grind) hy)
    exact ⟨c, c1, by grind, by grind⟩

theorem RowR.same {s t : Nat} {ys ys' zs zs' : List Nat} (hl : ys.length = ys'.length) (hy : ∀ i, i < ys.length → FSame .f32 (ys.getD i 0) (ys'.getD i 0)) (h : RowR s t ys zs) (h' : RowR s t ys' zs') : zs.length = zs'.length ∧ ∀ i, i < zs.length → FSame .f32 (zs.getD i 0) (zs'.getD i 0) := by
  have h1 := h.1
  have h2 := h'.1
  refine ⟨by omega, fun i hi => ?_⟩
  exact Bl.same2 (hy i (by omega)) (hy (i + 1) (by omega)) (h.2 i hi) (h'.2 i (by omega))
theorem CutQ.same {s t : Nat} {ys : List Nat} {r : Nat} (h : CutQ s t ys r) : ∀ {ys' : List Nat} {r' : Nat}, ys.length = ys'.length → (∀ i, i < ys.length → FSame .f32 (ys.getD i 0) (ys'.getD i 0)) → CutQ s t ys' r' → FSame .f32 r r' := by
  induction h with
  | one r =>
    intro ys' r' hl hy h'
    cases h' with
    | one => exact hy 0 (by simp)
    | @row _ zs _ hr hc =>
      have h1 := hr.1
      have : zs = [] := by
        apply List.eq_nil_of_length_eq_zero
        have : ([r] : List Nat).length = 1 := rfl
        omega
      subst this
      cases hc with
      | row h _ => have := h.1; simp at this
  | @row ys zs r hr hc ih =>
    intro ys' r' hl hy h'
    cases h' with
    | one =>
      have h1 := hr.1
      have : zs = [] := by
        apply List.eq_nil_of_length_eq_zero
        have : ([r'] : List Nat).length = 1 := rfl
        omega
      subst this
      cases hc with
      | row h _ => have := h.1; simp at this
    | @row _ zs' _ hr' hc' =>
      obtain ⟨e1, e2⟩ := hr.same hl hy hr'
      exact ih e1 e2 hc'

end Fl
end Go.Proofs.Ytbdmmpkphiilkaa
