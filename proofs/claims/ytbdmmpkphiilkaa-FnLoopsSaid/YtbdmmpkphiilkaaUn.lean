/-
  Areas as rational numbers: what the program's sums are near to, and that the area under a curve and that under the same curve taken the other way are opposite, nearly.
-/
import Derived.Test.YtbdmmpkphiilkaaLo
namespace Go.Proofs.Ytbdmmpkphiilkaa
open Go.RowKit Fl Ieee
namespace Fl

/-- Values in a list, each near that of the other at the same place from its end. -/
def NearRev (M e : Rat) (ys ys' : List Nat) : Prop := ys.length = ys'.length ∧ ∀ i, i < ys.length → ∃ a b, FV .f32 (ys.getD i 0) a ∧ FV .f32 (ys'.getD (ys.length - 1 - i) 0) b ∧ -e ≤ a - b ∧ a - b ≤ e ∧ -M ≤ a ∧ a ≤ M ∧ -M ≤ b ∧ b ≤ M

theorem rev_step {a0 a1 b0 b1 τ τ' c d M e : Rat} (hM : M ≤ 8) (_hM0 : 0 ≤ M) (t0 : 0 ≤ τ') (t1 : τ' ≤ 1) (d1 : -(1 / 16777216) ≤ 1 - τ - τ') (d2 : 1 - τ - τ' ≤ 1 / 16777216)
    (h1 : -e ≤ a0 - b0) (h2 : a0 - b0 ≤ e) (h3 : -e ≤ a1 - b1) (h4 : a1 - b1 ≤ e) (m1 : -M ≤ a0) (m2 : a0 ≤ M) (m3 : -M ≤ a1) (m4 : a1 ≤ M)
    (c1 : -0.000002 ≤ c - (a0 * (1 - τ) + a1 * τ)) (c2 : c - (a0 * (1 - τ) + a1 * τ) ≤ 0.000002) (e1 : -0.000002 ≤ d - (b1 * (1 - τ') + b0 * τ')) (e2 : d - (b1 * (1 - τ') + b0 * τ') ≤ 0.000002) :
    -(e + 0.000005) ≤ c - d ∧ c - d ≤ e + 0.000005 := by
  obtain ⟨k1, k2⟩ := convex h3 h4 h1 h2 t0 t1
  obtain ⟨k3, k4⟩ := mul_tiny (a := a0 - a1) (d := 1 - τ - τ') (M := 16) (e := 1 / 16777216) (by grind) (by grind) d1 d2 (by decide +kernel)
  have hid : (a0 * (1 - τ) + a1 * τ) - (b1 * (1 - τ') + b0 * τ') = ((a1 - b1) * (1 - τ') + (a0 - b0) * τ') + (a0 - a1) * (1 - τ - τ') := by grind
  have hs : (16 : Rat) * (1 / 16777216) ≤ 0.000001 := by decide +kernel
  generalize (a0 * (1 - τ) + a1 * τ) = P at *
  generalize (b1 * (1 - τ') + b0 * τ') = Q at *
  generalize ((a1 - b1) * (1 - τ') + (a0 - b0) * τ') = R at *
  generalize (a0 - a1) * (1 - τ - τ') = S at *
  generalize (16 : Rat) * (1 / 16777216) = E at *
  clear h1 h2 h3 h4 m1 m2 m3 m4 t0 t1 d1 d2 hM
  constructor <;> grind

theorem NearRev.row {s t s' t' : Nat} {τ τ' M e : Rat} {ys ys' zs zs' : List Nat} (hw : Wt s t τ) (hw' : Wt s' t' τ') (d1 : -(1 / 16777216) ≤ 1 - τ - τ') (d2 : 1 - τ - τ' ≤ 1 / 16777216) (hM : M ≤ 8) (hM0 : 0 ≤ M) (h : NearRev M e ys ys') (r : RowR s t ys zs) (r' : RowR s' t' ys' zs') : NearRev (M + 0.000002) (e + 0.000005) zs zs' := by
  obtain ⟨hl, hn⟩ := h
  have hr := r.1
  have hr' := r'.1
  refine ⟨by omega, fun i hi => ?_⟩
  obtain ⟨a0, b0, p1, p2, p3, p4, p5, p6, p7, p8⟩ := hn i (by omega)
  obtain ⟨a1, b1, q1, q2, q3, q4, q5, q6, q7, q8⟩ := hn (i + 1) (by omega)
  have hj := r'.2 (zs.length - 1 - i) (by omega)
  rw [show zs.length - 1 - i + 1 = ys.length - 1 - i by omega, show (ys'.getD (zs.length - 1 - i) 0) = ys'.getD (ys.length - 1 - (i + 1)) 0 by rw [show zs.length - 1 - i = ys.length - 1 - (i + 1) by omega]] at hj
  obtain ⟨c, c0, c1, c2⟩ := bl_near hw p1 q1 (by grind) (by grind) (by grind) (by grind) (r.2 i hi)
  obtain ⟨d, d0, e1, e2⟩ := bl_near hw' q2 p2 (by grind) (by grind) (by grind) (by grind) hj
  obtain ⟨f1, f2⟩ := convex p5 p6 q5 q6 hw.t0 hw.t1
  obtain ⟨f3, f4⟩ := convex q7 q8 p7 p8 hw'.t0 hw'.t1
  obtain ⟨g1, g2⟩ := rev_step hM hM0 hw'.t0 hw'.t1 d1 d2 p3 p4 q3 q4 p5 p6 q5 q6 c1 c2 e1 e2
  refine ⟨c, d, c0, d0, g1, g2, ?_, ?_, ?_, ?_⟩
  · generalize a0 * (1 - τ) + a1 * τ = P at *
    clear f3 f4 e1 e2 g1 g2
    grind
  · generalize a0 * (1 - τ) + a1 * τ = P at *
    clear f3 f4 e1 e2 g1 g2
    grind
  · generalize b1 * (1 - τ') + b0 * τ' = P at *
    clear f1 f2 c1 c2 g1 g2
    grind
  · generalize b1 * (1 - τ') + b0 * τ' = P at *
    clear f1 f2 c1 c2 g1 g2
    grind

theorem cut_len {s t : Nat} {ys : List Nat} {r : Nat} (h : CutQ s t ys r) : ys.length ≠ 0 := by
  intro h0
  have hz : ys = [] := List.eq_nil_of_length_eq_zero h0
  subst hz
  cases h with
  | row h _ => have := h.1; simp at this

theorem rev_near {s t s' t' : Nat} {τ τ' : Rat} (hw : Wt s t τ) (hw' : Wt s' t' τ') (d1 : -(1 / 16777216) ≤ 1 - τ - τ') (d2 : 1 - τ - τ' ≤ 1 / 16777216) {ys : List Nat} {r : Nat} (h : CutQ s t ys r) :
    ∀ {ys' : List Nat} {r' : Nat} {M e : Rat} (n : Nat), ys.length = n + 1 → CutQ s' t' ys' r' → 0 ≤ M → M + 0.000002 * n ≤ 8 → NearRev M e ys ys' → ∃ a b, FV .f32 r a ∧ FV .f32 r' b ∧ -(e + 0.000005 * n) ≤ a - b ∧ a - b ≤ e + 0.000005 * n ∧ -8 ≤ a ∧ a ≤ 8 ∧ -8 ≤ b ∧ b ≤ 8 := by
  induction h with
  | one r =>
    intro ys' r' M e n hn h' hM0 hM hy
    have h0 : n = 0 := by simpa using hn.symm
    subst h0
    have hl := hy.1
    cases h' with
    | one =>
      obtain ⟨a, b, p1, p2, p3, p4, p5, p6, p7, p8⟩ := hy.2 0 (by simp)
      have e0 : ((0 : Nat) : Rat) = 0 := rfl
      rw [e0] at hM ⊢
      exact ⟨a, b, p1, p2, by grind, by grind, by grind, by grind, by grind, by grind⟩
    | @row _ zs _ hr hc =>
      have h1 := hr.1
      have h2 := cut_len hc
      have : ([r] : List Nat).length = 1 := rfl
      omega
  | @row ys zs r hr hc ih =>
    intro ys' r' M e n hn h' hM0 hM hy
    have hl := hy.1
    have h1 := hr.1
    have h2 := cut_len hc
    obtain ⟨m, rfl⟩ : ∃ m, n = m + 1 := ⟨n - 1, by omega⟩
    cases h' with
    | one =>
      have : ([r'] : List Nat).length = 1 := rfl
      omega
    | @row _ zs' _ hr' hc' =>
      have hm : (0 : Rat) ≤ m := Rat.natCast_nonneg
      have em : ((m + 1 : Nat) : Rat) = (m : Rat) + 1 := by rw [Rat.natCast_add]; rfl
      rw [em] at hM ⊢
      obtain ⟨a, b, p1, p2, p3, p4, p5, p6, p7, p8⟩ := ih m (by omega) hc' (by grind) (by grind) (NearRev.row hw hw' d1 d2 (by grind) hM0 hy hr hr')
      exact ⟨a, b, p1, p2, by grind, by grind, p5, p6, p7, p8⟩

/-- The sum of the sides of the first pieces. -/
def sumX (X Y : Nat → Rat) : Nat → Rat
  | 0 => 0
  | k + 1 => sumX X Y k + (X k * Y (k + 1) - Y k * X (k + 1))
/-- Words of points, and their values within 8. -/
def ValsP (zs : List (Nat × Nat)) (X Y : Nat → Rat) (n : Nat) : Prop := ∀ k, k < n → FV .f32 (zs.getD k (0, 0)).1 (X k) ∧ FV .f32 (zs.getD k (0, 0)).2 (Y k) ∧ -8 ≤ X k ∧ X k ≤ 8 ∧ -8 ≤ Y k ∧ Y k ≤ 8

theorem cross_near {p q : Nat × Nat} {r : Nat} {x1 y1 x2 y2 : Rat} (h1 : FV .f32 p.1 x1) (h2 : FV .f32 p.2 y1) (h3 : FV .f32 q.1 x2) (h4 : FV .f32 q.2 y2) (a1 : -8 ≤ x1) (a2 : x1 ≤ 8) (a3 : -8 ≤ y1) (a4 : y1 ≤ 8) (b1 : -8 ≤ x2) (b2 : x2 ≤ 8) (b3 : -8 ≤ y2) (b4 : y2 ≤ 8) (h : CrossR p q r) :
    ∃ c, FV .f32 r c ∧ -0.00002 ≤ c - (x1 * y2 - y1 * x2) ∧ c - (x1 * y2 - y1 * x2) ≤ 0.00002 ∧ -128 ≤ x1 * y2 - y1 * x2 ∧ x1 * y2 - y1 * x2 ≤ 128 := by
  obtain ⟨u, v, hu, hv, hr⟩ := h
  obtain ⟨n0, n1⟩ := eta_small
  obtain ⟨p1, p2⟩ := mul_tiny a1 a2 b3 b4 (by decide +kernel)
  obtain ⟨p3, p4⟩ := mul_tiny a3 a4 b1 b2 (by decide +kernel)
  have k0 : (8 : Rat) * 8 = 64 := by decide +kernel
  rw [k0] at p1 p2 p3 p4
  obtain ⟨c1, u1, u2, u3⟩ := fmul (B := 64) h1 h4 (hu.mul_some h1 h4) p1 p2 (by decide +kernel)
  obtain ⟨c2, v1, v2, v3⟩ := fmul (B := 64) h2 h3 (hv.mul_some h2 h3) p3 p4 (by decide +kernel)
  rw [uk32] at u2 u3 v2 v3
  have k1 : (64 : Rat) * (1 / 16777216) ≤ 0.000004 := by decide +kernel
  generalize (64 : Rat) * (1 / 16777216) = E at *
  generalize x1 * y2 = P at *
  generalize y1 * x2 = Q at *
  clear a1 a2 a3 a4 b1 b2 b3 b4 h1 h2 h3 h4
  obtain ⟨c, w1, w2, w3⟩ := fsub (B := 129) u1 v1 (hr.sub_some u1 v1) (by grind) (by grind) (by decide +kernel)
  rw [uk32] at w2 w3
  have k2 : (129 : Rat) * (1 / 16777216) ≤ 0.000008 := by decide +kernel
  generalize (129 : Rat) * (1 / 16777216) = G at *
  exact ⟨c, w1, by grind, by grind, by grind, by grind⟩

theorem sum_near {zs : List (Nat × Nat)} {X Y : Nat → Rat} {n : Nat} (hn : n ≤ 13) (hv : ValsP zs X Y n) : ∀ (k s : Nat), k < n → SumR zs k s → ∃ q, FV .f32 s q ∧ -(0.00013 * (k : Rat)) ≤ q - sumX X Y k ∧ q - sumX X Y k ≤ 0.00013 * (k : Rat) ∧ -(128 * (k : Rat)) ≤ sumX X Y k ∧ sumX X Y k ≤ 128 * (k : Rat)
  | 0, s, _, h => by
    have e0 : ((0 : Nat) : Rat) = 0 := rfl
    have h0 : s = 0 := h
    subst h0
    refine ⟨0, fv_zero, ?_, ?_, ?_, ?_⟩ <;> rw [e0] <;> (first | (show _ ≤ (0 : Rat) - 0; grind) | (show (0 : Rat) - 0 ≤ _; grind) | (show _ ≤ (0 : Rat); grind) | (show (0 : Rat) ≤ _; grind))
  | k + 1, s, hk, h => by
    obtain ⟨s0, c0, hs, hc, hr⟩ := h
    obtain ⟨q, q1, q2, q3, q4, q5⟩ := sum_near hn hv k s0 (by omega) hs
    obtain ⟨x1, y1, a1, a2, a3, a4⟩ := hv k (by omega)
    obtain ⟨x2, y2, b1, b2, b3, b4⟩ := hv (k + 1) hk
    obtain ⟨c, c1, c2, c3, c4, c5⟩ := cross_near x1 y1 x2 y2 a1 a2 a3 a4 b1 b2 b3 b4 hc
    have em : ((k + 1 : Nat) : Rat) = (k : Rat) + 1 := by rw [Rat.natCast_add]; rfl
    have hm : (0 : Rat) ≤ k := Rat.natCast_nonneg
    have hm2 : (k : Rat) ≤ 12 := Rat.natCast_le_natCast.2 (show k ≤ 12 by omega)
    rw [em]
    have es : sumX X Y (k + 1) = sumX X Y k + (X k * Y (k + 1) - Y k * X (k + 1)) := rfl
    rw [es]
    obtain ⟨n0, n1⟩ := eta_small
    generalize X k * Y (k + 1) - Y k * X (k + 1) = D at *
    generalize sumX X Y k = S at *
    clear a1 a2 a3 a4 b1 b2 b3 b4 x1 y1 x2 y2 es em
    obtain ⟨d, w1, w2, w3⟩ := fadd (B := 1700) q1 c1 (hr.add_some q1 c1) (by grind) (by grind) (by decide +kernel)
    rw [uk32] at w2 w3
    have k2 : (1700 : Rat) * (1 / 16777216) ≤ 0.000102 := by decide +kernel
    generalize (1700 : Rat) * (1 / 16777216) = G at *
    exact ⟨d, w1, by grind, by grind, by grind, by grind⟩

theorem fv_two : FV .f32 1073741824 2 := ⟨false, 8388608, -22, by decide +kernel, by decide +kernel⟩
theorem FOp.quo_some {k : FloatKind} {x y r r' : Nat} (h : FOp .quo k x y r) (e : floatBits .quo k x y = some r') : floatBits .quo k x y = some r := by
  unfold FOp at h
  rw [e] at h
  rw [e, h]

theorem half_some {s : Nat} {q B : Rat} (h : FV .f32 s q) (h1 : -B ≤ q / 2) (h2 : q / 2 ≤ B) : ∃ r, floatBits .quo .f32 s 1073741824 = some r := by
  obtain ⟨s0, m, i, x1, rfl⟩ := h
  obtain ⟨t, n, j, y1, y2⟩ := fv_two
  rw [← y2] at h1 h2
  have hn : n ≠ 0 := by
    rintro rfl
    rw [dv_zero] at y2
    exact absurd y2 (by decide +kernel)
  obtain ⟨s', m', p', e1, _, _⟩ := quo_val s0 t i j hn FloatKind.f32.format.fractionBits h1 h2
  refine ⟨FloatKind.f32.format.nearest s' m' p', ?_⟩
  show FloatKind.f32.format.div s 1073741824 = _
  unfold Format.div
  rw [x1, y1, e1]
  rfl

theorem area_near {zs : List (Nat × Nat)} {X Y : Nat → Rat} {n r : Nat} (hl : zs.length = n + 1) (hn : n ≤ 12) (hv : ValsP zs X Y (n + 1)) (h : AreaR zs r) :
    ∃ q, FV .f32 r q ∧ -0.002 ≤ 2 * q - sumX X Y n ∧ 2 * q - sumX X Y n ≤ 0.002 := by
  obtain ⟨s, hs, hr⟩ := h
  rw [hl, Nat.add_sub_cancel] at hs
  obtain ⟨q, q1, q2, q3, q4, q5⟩ := sum_near (by omega) hv n s (by omega) hs
  have hm : (0 : Rat) ≤ n := Rat.natCast_nonneg
  have hm2 : (n : Rat) ≤ 12 := Rat.natCast_le_natCast.2 hn
  obtain ⟨n0, n1⟩ := eta_small
  have e2 : q / 2 = q * 0.5 := by grind
  have b1 : -850 ≤ q / 2 := by rw [e2]; grind
  have b2 : q / 2 ≤ 850 := by rw [e2]; grind
  obtain ⟨r', hr'⟩ := half_some q1 b1 b2
  obtain ⟨c, w1, w2, w3⟩ := fdiv (B := 850) q1 fv_two (by decide +kernel) (hr.quo_some hr') b1 b2 (by decide +kernel)
  rw [uk32, e2] at w2 w3
  have k2 : 3 * (850 : Rat) * (1 / 16777216) ≤ 0.000153 := by decide +kernel
  generalize 3 * (850 : Rat) * (1 / 16777216) = G at *
  generalize sumX X Y n = S at *
  clear b1 b2 e2 q4 q5
  exact ⟨c, w1, by grind, by grind⟩

/-- The value of a word. -/
def vw (x : Nat) : Rat := match FloatKind.f32.format.read x with
  | .number s m p => dv s m p
  | _ => 0
theorem FV.vw {x : Nat} {q : Rat} (h : FV .f32 x q) : vw x = q := by
  obtain ⟨s, m, p, e, rfl⟩ := h
  unfold Fl.vw
  rw [e]

def pairOk (k : Nat) : Bool := match FloatKind.f32.format.read (tq 12 k), FloatKind.f32.format.read (tq 12 (12 - k)) with
  | .number s m p, .number s' m' p' => decide (-(1 / 16777216) ≤ 1 - dv s m p - dv s' m' p' ∧ 1 - dv s m p - dv s' m' p' ≤ 1 / 16777216)
  | _, _ => false
theorem pair_tab : ∀ k : Fin 13, pairOk k.val = true := by decide +kernel
theorem tq12_tab : ∀ k : Fin 13, tqOk 12 k.val = true := by decide +kernel
theorem tq12 : ∀ k, k ≤ 12 → tqOk 12 k = true := fun k hk => tq12_tab ⟨k, by omega⟩
theorem pair_at {k : Nat} {τ τ' : Rat} (hk : k ≤ 12) (h : FV .f32 (tq 12 k) τ) (h' : FV .f32 (tq 12 (12 - k)) τ') : -(1 / 16777216) ≤ 1 - τ - τ' ∧ 1 - τ - τ' ≤ 1 / 16777216 := by
  have ht : pairOk k = true := pair_tab ⟨k, by omega⟩
  unfold pairOk at ht
  obtain ⟨s, m, p, e, rfl⟩ := h
  obtain ⟨s', m', p', e', rfl⟩ := h'
  rw [e, e'] at ht
  exact of_decide_eq_true ht

theorem getD_rev {ps : List (Nat × Nat)} {i : Nat} (hi : i < ps.length) : ps.reverse.getD (ps.length - 1 - i) (0, 0) = ps.getD i (0, 0) := by
  rw [List.getD_eq_getElem?_getD, List.getD_eq_getElem?_getD, List.getElem?_reverse (by omega), show ps.length - 1 - (ps.length - 1 - i) = i by omega]
theorem in_rev {ps : List (Nat × Nat)} (h : All8 0 ps) : NearRev 7.9 0 (ps.map Prod.fst) (ps.reverse.map Prod.fst) ∧ NearRev 7.9 0 (ps.map Prod.snd) (ps.reverse.map Prod.snd) := by
  have e0 : ((0 : Nat) : Rat) = 0 := rfl
  constructor <;> refine ⟨by simp, fun i hi => ?_⟩ <;> rw [List.length_map] at hi ⊢ <;> obtain ⟨⟨_, q, q1, q2, q3⟩, ⟨_, y, y1, y2, y3⟩⟩ := h i hi
  · rw [e0] at q2 q3
    rw [getD_fst, getD_fst, getD_rev hi]
    exact ⟨q, q, q1, q1, by grind, by grind, by grind, by grind, by grind, by grind⟩
  · rw [e0] at y2 y3
    rw [getD_snd, getD_snd, getD_rev hi]
    exact ⟨y, y, y1, y1, by grind, by grind, by grind, by grind, by grind, by grind⟩

theorem part_near {x x' : Nat} {a b e : Rat} (h1 : FV .f32 x a) (h2 : FV .f32 x' b) (h3 : -e ≤ a - b) (h4 : a - b ≤ e) (he : e ≤ 0.00002) : -0.00002 ≤ vw x - vw x' ∧ vw x - vw x' ≤ 0.00002 := by
  rw [h1.vw, h2.vw]
  constructor <;> grind
theorem pts_rev {ps zs zs' : List (Nat × Nat)} (h2 : 2 ≤ ps.length) (hn : ps.length ≤ 5) (h8 : All8 0 ps) (hP : PtsR ps 12 13 zs) (hP' : PtsR ps.reverse 12 13 zs') {k : Nat} (hk : k < 13) :
    (-0.00002 ≤ vw (zs.getD k (0, 0)).1 - vw (zs'.getD (12 - k) (0, 0)).1 ∧ vw (zs.getD k (0, 0)).1 - vw (zs'.getD (12 - k) (0, 0)).1 ≤ 0.00002) ∧ (-0.00002 ≤ vw (zs.getD k (0, 0)).2 - vw (zs'.getD (12 - k) (0, 0)).2 ∧ vw (zs.getD k (0, 0)).2 - vw (zs'.getD (12 - k) (0, 0)).2 ≤ 0.00002) := by
  obtain ⟨s, τ, hw, hc⟩ := hP k hk
  obtain ⟨s', τ', hw', hc'⟩ := hP' (12 - k) (by omega)
  obtain ⟨d1, d2⟩ := pair_at (by omega) hw.toWt.tv hw'.toWt.tv
  obtain ⟨n, hn'⟩ : ∃ n, ps.length = n + 1 := ⟨ps.length - 1, by omega⟩
  have hr : (n : Rat) ≤ 4 := Rat.natCast_le_natCast.2 (show n ≤ 4 by omega)
  have hb : 7.9 + 0.000002 * (n : Rat) ≤ 8 := by grind
  have he : 0 + 0.000005 * (n : Rat) ≤ 0.00002 := by grind
  obtain ⟨i1, i2⟩ := in_rev h8
  obtain ⟨a, b, a1, b1, e1, e2, _⟩ := rev_near hw.toWt hw'.toWt d1 d2 hc.fst n (by simpa using hn') hc'.fst (by decide +kernel) hb i1
  obtain ⟨c, d, c1, f1, e3, e4, _⟩ := rev_near hw.toWt hw'.toWt d1 d2 hc.snd n (by simpa using hn') hc'.snd (by decide +kernel) hb i2
  exact ⟨part_near a1 b1 e1 e2 he, part_near c1 f1 e3 e4 he⟩

theorem pts_vals {ps zs : List (Nat × Nat)} (h2 : 2 ≤ ps.length) (hn : ps.length ≤ 5) (h8 : All8 0 ps) (hP : PtsR ps 12 13 zs) : ValsP zs (fun k => vw (zs.getD k (0, 0)).1) (fun k => vw (zs.getD k (0, 0)).2) 13 := by
  intro k hk
  obtain ⟨s, τ, hw, hc⟩ := hP k hk
  obtain ⟨n, hn'⟩ : ∃ n, ps.length = n + 1 := ⟨ps.length - 1, by omega⟩
  have hr : (n : Rat) ≤ 4 := Rat.natCast_le_natCast.2 (show n ≤ 4 by omega)
  have hr0 : (0 : Rat) ≤ n := Rat.natCast_nonneg
  obtain ⟨b1, b2⟩ := h8.inB
  obtain ⟨c, c1, c2, c3⟩ := hc.fst.inB hw.toWt n (by simpa using hn') (by grind) (by grind) b1
  obtain ⟨d, d1, d2, d3⟩ := hc.snd.inB hw.toWt n (by simpa using hn') (by grind) (by grind) b2
  have e1 := c1.vw
  have e2 := d1.vw
  refine ⟨?_, ?_, ?_, ?_, ?_, ?_⟩
  · show FV .f32 _ (vw _)
    rw [e1]
    exact c1
  · show FV .f32 _ (vw _)
    rw [e2]
    exact d1
  · show -8 ≤ vw _
    rw [e1]
    grind
  · show vw _ ≤ 8
    rw [e1]
    grind
  · show -8 ≤ vw _
    rw [e2]
    grind
  · show vw _ ≤ 8
    rw [e2]
    grind

theorem cross_opp {x0 y0 x1 y1 u0 v0 u1 v1 : Rat} (a1 : -0.00002 ≤ x0 - u0) (a2 : x0 - u0 ≤ 0.00002) (a3 : -0.00002 ≤ y0 - v0) (a4 : y0 - v0 ≤ 0.00002) (a5 : -0.00002 ≤ x1 - u1) (a6 : x1 - u1 ≤ 0.00002) (a7 : -0.00002 ≤ y1 - v1) (a8 : y1 - v1 ≤ 0.00002)
    (b1 : -8 ≤ y1) (b2 : y1 ≤ 8) (b3 : -8 ≤ x1) (b4 : x1 ≤ 8) (b5 : -8 ≤ u0) (b6 : u0 ≤ 8) (b7 : -8 ≤ v0) (b8 : v0 ≤ 8) :
    -0.00064 ≤ (x0 * y1 - y0 * x1) + (u1 * v0 - v1 * u0) ∧ (x0 * y1 - y0 * x1) + (u1 * v0 - v1 * u0) ≤ 0.00064 := by
  obtain ⟨c1, c2⟩ := mul_tiny b1 b2 a1 a2 (by decide +kernel)
  obtain ⟨c3, c4⟩ := mul_tiny b5 b6 a7 a8 (by decide +kernel)
  obtain ⟨c5, c6⟩ := mul_tiny b3 b4 a3 a4 (by decide +kernel)
  obtain ⟨c7, c8⟩ := mul_tiny b7 b8 a5 a6 (by decide +kernel)
  have k : (8 : Rat) * 0.00002 = 0.00016 := by decide +kernel
  rw [k] at c1 c2 c3 c4 c5 c6 c7 c8
  have hid : (x0 * y1 - y0 * x1) + (u1 * v0 - v1 * u0) = y1 * (x0 - u0) + u0 * (y1 - v1) - x1 * (y0 - v0) - v0 * (x1 - u1) := by grind
  rw [hid]
  clear hid a1 a2 a3 a4 a5 a6 a7 a8 b1 b2 b3 b4 b5 b6 b7 b8
  generalize y1 * (x0 - u0) = A at *
  generalize u0 * (y1 - v1) = B at *
  generalize x1 * (y0 - v0) = C at *
  generalize v0 * (x1 - u1) = D at *
  constructor <;> grind

def sumC (c : Nat → Rat) : Nat → Rat
  | 0 => 0
  | k + 1 => sumC c k + c k
theorem sumX_C (X Y c : Nat → Rat) (h : ∀ k, c k = X k * Y (k + 1) - Y k * X (k + 1)) : ∀ n, sumX X Y n = sumC c n
  | 0 => rfl
  | n + 1 => by
    show sumX X Y n + _ = sumC c n + c n
    rw [sumX_C X Y c h n, h n]
theorem sum_opp {c d : Nat → Rat} (h : ∀ j, j < 12 → -0.00064 ≤ c j + d (11 - j) ∧ c j + d (11 - j) ≤ 0.00064) : -0.008 ≤ sumC c 12 + sumC d 12 ∧ sumC c 12 + sumC d 12 ≤ 0.008 := by
  have h0 := h 0 (by omega)
  have h1 := h 1 (by omega)
  have h2 := h 2 (by omega)
  have h3 := h 3 (by omega)
  have h4 := h 4 (by omega)
  have h5 := h 5 (by omega)
  have h6 := h 6 (by omega)
  have h7 := h 7 (by omega)
  have h8 := h 8 (by omega)
  have h9 := h 9 (by omega)
  have h10 := h 10 (by omega)
  have h11 := h 11 (by omega)
  have e1 : sumC c 12 = 0 + c 0 + c 1 + c 2 + c 3 + c 4 + c 5 + c 6 + c 7 + c 8 + c 9 + c 10 + c 11 := rfl
  have e2 : sumC d 12 = 0 + d 0 + d 1 + d 2 + d 3 + d 4 + d 5 + d 6 + d 7 + d 8 + d 9 + d 10 + d 11 := rfl
  rw [e1, e2]
  clear e1 e2 h
  simp only [Nat.reduceSub, Nat.sub_zero, Nat.sub_self] at h0 h1 h2 h3 h4 h5 h6 h7 h8 h9 h10 h11
  constructor <;> grind

theorem area_opposite {ps zs zs' : List (Nat × Nat)} {r r' : Nat} (h2 : 2 ≤ ps.length) (hn : ps.length ≤ 5) (h8 : All8 0 ps) (h8' : All8 0 ps.reverse) (hl : zs.length = 13) (hl' : zs'.length = 13) (hP : PtsR ps 12 13 zs) (hP' : PtsR ps.reverse 12 13 zs') (h : AreaR zs r) (h' : AreaR zs' r') :
    ∃ q q', FV .f32 r q ∧ FV .f32 r' q' ∧ -0.006 ≤ q + q' ∧ q + q' ≤ 0.006 := by
  have v := pts_vals h2 hn h8 hP
  have v' := pts_vals (by simpa using h2) (by simpa using hn) h8' hP'
  obtain ⟨q, q1, q2, q3⟩ := area_near (n := 12) hl (Nat.le_refl _) v h
  obtain ⟨q', q1', q2', q3'⟩ := area_near (n := 12) hl' (Nat.le_refl _) v' h'
  rw [sumX_C _ _ _ (fun k => rfl)] at q2 q3 q2' q3'
  have ho := sum_opp (c := fun k => vw (zs.getD k (0, 0)).1 * vw (zs.getD (k + 1) (0, 0)).2 - vw (zs.getD k (0, 0)).2 * vw (zs.getD (k + 1) (0, 0)).1) (d := fun k => vw (zs'.getD k (0, 0)).1 * vw (zs'.getD (k + 1) (0, 0)).2 - vw (zs'.getD k (0, 0)).2 * vw (zs'.getD (k + 1) (0, 0)).1) (fun j hj => by
    obtain ⟨⟨a1, a2⟩, a3, a4⟩ := pts_rev h2 hn h8 hP hP' (k := j) (by omega)
    obtain ⟨⟨b1, b2⟩, b3, b4⟩ := pts_rev h2 hn h8 hP hP' (k := j + 1) (by omega)
    obtain ⟨_, _, c1, c2, c3, c4⟩ := v (j + 1) (by omega)
    obtain ⟨_, _, d1, d2, d3, d4⟩ := v' (12 - j) (by omega)
    rw [show 12 - (j + 1) = 11 - j by omega] at b1 b2 b3 b4
    have e : 11 - j + 1 = 12 - j := by omega
    simp only [e]
    exact cross_opp a1 a2 a3 a4 b1 b2 b3 b4 c3 c4 c1 c2 d1 d2 d3 d4)
  refine ⟨q, q', q1, q1', ?_, ?_⟩
  · generalize sumC _ 12 = S at *
    generalize sumC _ 12 = T at *
    grind
  · generalize sumC _ 12 = S at *
    generalize sumC _ 12 = T at *
    grind

end Fl
end Go.Proofs.Ytbdmmpkphiilkaa
