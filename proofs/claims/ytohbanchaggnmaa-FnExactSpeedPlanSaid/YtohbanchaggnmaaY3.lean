/-
  PlanWay: what both sides reckon; the program's small steps.
-/
import Derived.Test.YtohbanchaggnmaaY2
import Derived.Test.YtohbanchaggnmaaHv
import Derived.Test.YtohbanchaggnmaaOp
import Derived.Test.YtohbanchaggnmaaRy
namespace Go.Proofs.Ytohbanchaggnmaa
open Go.RowKit Fl Ieee Go.WideShapes Go.Deep
theorem unary_neg_y (k : FloatKind) (b : Nat) : Op.unary .neg (.float k b) = pure (.float k (Op.negFloat k b)) := rfl
attribute [local go_sem] kstore_f kalloc_drewN kset_drewN unary_neg_y

/-- Half of a number, by a quotient or by a product. -/
def HalfR (a h : Nat) : Prop := FOp .quo .f32 a 1073741824 h ∨ FOp .mul .f32 1056964608 a h
theorem HalfR.same {a a' h h' : Nat} (e : FSame .f32 a a') (k : HalfR a h) (g : HalfR a' h') : FSame .f32 h h' := by
  rcases k with k | k <;> rcases g with g | g
  · exact FOp.same e (FSame.refl _ _) k g
  · obtain ⟨m, hm⟩ : ∃ m, FOp .mul .f32 1056964608 a m := by
      unfold FOp
      cases hb : floatBits .mul .f32 1056964608 a with
      | some b => exact ⟨b, rfl⟩
      | none => exact ⟨2143289344, by decide +kernel⟩
    exact (half_same k hm).trans (FOp.same (FSame.refl _ _) e hm g)
  · obtain ⟨m, hm⟩ : ∃ m, FOp .mul .f32 1056964608 a' m := by
      unfold FOp
      cases hb : floatBits .mul .f32 1056964608 a' with
      | some b => exact ⟨b, rfl⟩
      | none => exact ⟨2143289344, by decide +kernel⟩
    exact (FOp.same (FSame.refl _ _) e k hm).trans (half_same g hm).symm
  · exact FOp.same (FSame.refl _ _) e k g

def ltW (x y : Nat) : Bool := FloatKind.f32.format.order x y == some Ordering.lt
def selW (a b : Nat) : Nat := if ltW b a = true then b else a
theorem selW_same {l t t' : Nat} (h : FSame .f32 t t') : FSame .f32 (selW l t) (selW l t') := by
  have e : ltW t l = ltW t' l := by unfold ltW; rw [order_same h (FSame.refl _ l)]
  unfold selW
  rw [e]
  split
  · exact h
  · exact FSame.refl _ _

/-- What a part of a plan makes of how far, how fast and how much faster. -/
def MoveR (x v a s j x' v' a' : Nat) : Prop :=
  (∃ p1 hh p2 p3 u1 q1 q2 q3 q4 u2, FOp .mul .f32 v s p1 ∧ HalfR a hh ∧ FOp .mul .f32 hh s p2 ∧ FOp .mul .f32 p2 s p3 ∧ FOp .add .f32 p1 p3 u1 ∧ FOp .mul .f32 j s q1 ∧ FOp .mul .f32 q1 s q2 ∧ FOp .mul .f32 q2 s q3 ∧ FOp .quo .f32 q3 1086324736 q4 ∧ FOp .add .f32 u1 q4 u2 ∧ FOp .add .f32 x u2 x') ∧
  (∃ r1 hj r2 r3 r4, FOp .mul .f32 a s r1 ∧ HalfR j hj ∧ FOp .mul .f32 hj s r2 ∧ FOp .mul .f32 r2 s r3 ∧ FOp .add .f32 r1 r3 r4 ∧ FOp .add .f32 v r4 v') ∧
  (∃ z, FOp .mul .f32 j s z ∧ FOp .add .f32 a z a')
theorem MoveR.same {x v a s j x' v' a' X V A S X' V' A' : Nat} (hx : FSame .f32 x X) (hv : FSame .f32 v V) (ha : FSame .f32 a A) (hs : FSame .f32 s S) (k : MoveR x v a s j x' v' a') (g : MoveR X V A S j X' V' A') : FSame .f32 x' X' ∧ FSame .f32 v' V' ∧ FSame .f32 a' A' := by
  obtain ⟨⟨p1, hh, p2, p3, u1, q1, q2, q3, q4, u2, k1, k2, k3, k4, k5, k6, k7, k8, k9, k10, k11⟩, ⟨r1, hj, r2, r3, r4, l1, l2, l3, l4, l5, l6⟩, ⟨z, m1, m2⟩⟩ := k
  obtain ⟨⟨P1, Hh, P2, P3, U1, Q1, Q2, Q3, Q4, U2, g1, g2, g3, g4, g5, g6, g7, g8, g9, g10, g11⟩, ⟨R1, Hj, R2, R3, R4, f1, f2, f3, f4, f5, f6⟩, ⟨Z, n1, n2⟩⟩ := g
  have rj := FSame.refl .f32 j
  have e1 := FOp.same hv hs k1 g1
  have e4 := FOp.same (FOp.same (HalfR.same ha k2 g2) hs k3 g3) hs k4 g4
  have e9 := FOp.same (FOp.same (FOp.same (FOp.same rj hs k6 g6) hs k7 g7) hs k8 g8) (FSame.refl _ _) k9 g9
  have d4 := FOp.same (FOp.same (HalfR.same rj l2 f2) hs l3 f3) hs l4 f4
  exact ⟨FOp.same hx (FOp.same (FOp.same e1 e4 k5 g5) e9 k10 g10) k11 g11, FOp.same hv (FOp.same (FOp.same ha hs l1 f1) d4 l5 f5) l6 f6, FOp.same ha (FOp.same rj hs m1 n1) m2 n2⟩

def longW (r h c : Nat) (k : Nat) : Nat := [r, h, r, c, r, h, r].getD k 0
def jerkW (j : Nat) (k : Nat) : Nat := [j, 0, Op.negFloat .f32 j, 0, Op.negFloat .f32 j, 0, j].getD k 0
/-- How far a plan has gone after k parts, how fast it is, how much faster it becomes, and what is left of the time. -/
def PW (j r h c t0 : Nat) : Nat → Nat → Nat → Nat → Nat → Prop
  | 0, x, v, a, t => x = 0 ∧ v = 0 ∧ a = 0 ∧ t = t0
  | k + 1, x, v, a, t => ∃ x0 v0 a0 t1, PW j r h c t0 k x0 v0 a0 t1 ∧ MoveR x0 v0 a0 (selW (longW r h c k) t1) (jerkW j k) x v a ∧ FOp .sub .f32 t1 (selW (longW r h c k) t1) t
theorem PW.same {j r h c t0 : Nat} : ∀ {k x v a t X V A T : Nat}, PW j r h c t0 k x v a t → PW j r h c t0 k X V A T → FSame .f32 x X ∧ FSame .f32 v V ∧ FSame .f32 a A ∧ FSame .f32 t T
  | 0, _, _, _, _, _, _, _, _, ⟨h1, h2, h3, h4⟩, ⟨g1, g2, g3, g4⟩ => ⟨.inl (h1.trans g1.symm), .inl (h2.trans g2.symm), .inl (h3.trans g3.symm), .inl (h4.trans g4.symm)⟩
  | k + 1, _, _, _, _, _, _, _, _, ⟨_, _, _, _, h1, h2, h3⟩, ⟨_, _, _, _, g1, g2, g3⟩ => by
    obtain ⟨e1, e2, e3, e4⟩ := PW.same h1 g1
    have es := selW_same (l := longW r h c k) e4
    obtain ⟨d1, d2, d3⟩ := MoveR.same e1 e2 e3 es h2 g2
    exact ⟨d1, d2, d3, FOp.same e4 es h3 g3⟩

set_option maxRecDepth 100000 in
theorem lesserW_calls (a b : Nat) (w : World) : Calls Try.prog 113 #[.float .f32 a, .float .f32 b] w fun e w' => e = .returned (.float .f32 (selW a b)) ∧ w = w' := by
  unfold selW
  cases h : ltW b a <;> unfold ltW at h
  all_goals
    go_enter Try.func113, Try.ntmps113
    go_wp2_with fail
    go_ret
    exact ⟨by simp, rfl⟩

set_option maxHeartbeats 1000000 in
theorem halfW_calls (x : Nat) (w : World) : Calls Try.prog 148 #[.float .f32 x] w fun e w' => ∃ r n, e = .returned (.float .f32 r) ∧ HalfR x r ∧ w' = w.drewN n := by
  go_enter Try.func148, Try.ntmps148
  go_wp2_with (refine wpList_arith rfl _ _ _ _ _ rfl rfl _ _ _ rfl rfl ?_; intro r n hr hl)
  go_ret
  exact ⟨_, _, rfl, .inl hr, rfl⟩

theorem set3_readY {w : World} {g : Nat} {u0 u1 u2 v0 v1 v2 : Value} (h0 : w.cell? ⟨g, 0, none⟩ = some u0) (h1 : w.cell? ⟨g, 1, none⟩ = some u1) (h2 : w.cell? ⟨g, 2, none⟩ = some u2) :
    (((w.setCell ⟨g, 0, none⟩ v0).setCell ⟨g, 1, none⟩ v1).setCell ⟨g, 2, none⟩ v2).cell? ⟨g, 0, none⟩ = some v0 ∧ (((w.setCell ⟨g, 0, none⟩ v0).setCell ⟨g, 1, none⟩ v1).setCell ⟨g, 2, none⟩ v2).cell? ⟨g, 1, none⟩ = some v1 ∧ (((w.setCell ⟨g, 0, none⟩ v0).setCell ⟨g, 1, none⟩ v1).setCell ⟨g, 2, none⟩ v2).cell? ⟨g, 2, none⟩ = some v2 := by
  refine ⟨?_, ?_, ?_⟩
  · rw [World.cell?_setCell_other _ _ _ _ (by simp), World.cell?_setCell_other _ _ _ _ (by simp)]
    exact World.cell?_setCell_same' _ _ _ (by rw [h0]; rfl)
  · rw [World.cell?_setCell_other _ _ _ _ (by simp)]
    exact World.cell?_setCell_same' _ _ _ (by rw [World.cell?_setCell_other _ _ _ _ (by simp), h1]; rfl)
  · exact World.cell?_setCell_same' _ _ _ (by rw [World.cell?_setCell_other _ _ _ _ (by simp), World.cell?_setCell_other _ _ _ _ (by simp), h2]; rfl)

set_option maxRecDepth 100000 in
set_option maxHeartbeats 1000000 in
theorem pushW_calls (j r h c : Nat) (w : World) : Calls Try.prog 124 #[.agg #[.float .f32 j, .float .f32 r, .float .f32 h, .float .f32 c]] w fun e w' => e = .returned (.agg #[.float .f32 r, .float .f32 j]) ∧ Below w.heap.size w w' := by
  go_enter Try.func124, Try.ntmps124
  go_wp2_with fail
  refine bodyPost_ret (v := .agg #[.float .f32 r, .float .f32 j]) (by simp [results, Try.results124, go_sem]) rfl ⟨rfl, ?_⟩
  exact b2 _ _ _ 0
set_option maxRecDepth 100000 in
set_option maxHeartbeats 1000000 in
theorem holdW_calls (j r h c : Nat) (w : World) : Calls Try.prog 125 #[.agg #[.float .f32 j, .float .f32 r, .float .f32 h, .float .f32 c]] w fun e w' => e = .returned (.agg #[.float .f32 h, .float .f32 0]) ∧ Below w.heap.size w w' := by
  go_enter Try.func125, Try.ntmps125
  go_wp2_with fail
  refine bodyPost_ret (v := .agg #[.float .f32 h, .float .f32 0]) (by simp [results, Try.results125, go_sem]) rfl ⟨rfl, ?_⟩
  exact b2 _ _ _ 0
set_option maxRecDepth 100000 in
set_option maxHeartbeats 1000000 in
theorem pullW_calls (j r h c : Nat) (w : World) : Calls Try.prog 126 #[.agg #[.float .f32 j, .float .f32 r, .float .f32 h, .float .f32 c]] w fun e w' => e = .returned (.agg #[.float .f32 r, .float .f32 (Op.negFloat .f32 j)]) ∧ Below w.heap.size w w' := by
  go_enter Try.func126, Try.ntmps126
  go_wp2_with fail
  refine bodyPost_ret (v := .agg #[.float .f32 r, .float .f32 (Op.negFloat .f32 j)]) (by simp [results, Try.results126, go_sem]) rfl ⟨rfl, ?_⟩
  exact b2 _ _ _ 0
set_option maxRecDepth 100000 in
set_option maxHeartbeats 1000000 in
theorem cruiseW_calls (j r h c : Nat) (w : World) : Calls Try.prog 127 #[.agg #[.float .f32 j, .float .f32 r, .float .f32 h, .float .f32 c]] w fun e w' => e = .returned (.agg #[.float .f32 c, .float .f32 0]) ∧ Below w.heap.size w w' := by
  go_enter Try.func127, Try.ntmps127
  go_wp2_with fail
  refine bodyPost_ret (v := .agg #[.float .f32 c, .float .f32 0]) (by simp [results, Try.results127, go_sem]) rfl ⟨rfl, ?_⟩
  exact b2 _ _ _ 0

def RelHalf (f : FuncId) (args : Array Value) (v : Value) : Prop := f = 148 ∧ ∃ x r, args = #[.float .f32 x] ∧ v = .float .f32 r ∧ HalfR x r
set_option maxRecDepth 100000 in
set_option maxHeartbeats 1000000 in
theorem afterW_calls (x v a s j : Nat) (w : World) : Calls Try.prog 128 #[.agg #[.float .f32 x, .float .f32 v, .float .f32 a], .float .f32 s, .float .f32 j] w fun e w' => ∃ x' v' a', e = .returned (.agg #[.float .f32 x', .float .f32 v', .float .f32 a']) ∧ MoveR x v a s j x' v' a' ∧ Below w.heap.size w w' := by
  go_enter Try.func128, Try.ntmps128
  go_wp2_with fail
  obtain ⟨w2, hw2⟩ : ∃ w2, w2 = (w.alloc (.cells #[.float .f32 x, .float .f32 v, .float .f32 a] 147)).alloc (.cells #[.float .f32 0, .float .f32 0, .float .f32 0] 147) := ⟨_, rfl⟩
  rw [← hw2]
  have hQ : ∀ W, Below w2.heap.size w2 W → W.cell? ⟨w.heap.size, 0, none⟩ = some (.float .f32 x) ∧ W.cell? ⟨w.heap.size, 1, none⟩ = some (.float .f32 v) ∧ W.cell? ⟨w.heap.size, 2, none⟩ = some (.float .f32 a) := fun W h => by
    refine ⟨?_, ?_, ?_⟩ <;> (rw [h.cell (by rw [hw2]; simp; omega), hw2]; simp [go_sem])
  have HQ := Frame.hid hQ
  have hCe : ∃ W, Below w2.heap.size w2 W := ⟨w2, Below.refl _ _⟩
  have hCd : ∀ W n, Below w2.heap.size w2 W → Below w2.heap.size w2 (W.drewN n) := fun W n h => below_drewN h n
  clear hQ
  refine region_may_n 45 (fun W => Below w2.heap.size w2 W) RelHalf rfl (by kernel_rfl) (by kernel_rfl) (Below.refl _ _).drew ?_
  refine' rC_read hCe (Or.inl ⟨by rfl, fun wq hSq => _⟩) _
  rotate_left
  · obtain ⟨q0, q1, q2⟩ := HQ.out wq hSq
    go_simp
    try with_reducible rfl
  simp only [Act.put, List.setIfInBounds_toArray, List.set_cons_zero, List.set_cons_succ]
  refine' rC_read hCe (Or.inl ⟨by rfl, fun wq hSq => _⟩) _
  rotate_left
  · obtain ⟨q0, q1, q2⟩ := HQ.out wq hSq
    go_simp
    try with_reducible rfl
  simp only [Act.put, List.setIfInBounds_toArray, List.set_cons_zero, List.set_cons_succ]
  refine' rC_read hCe (Or.inl ⟨by rfl, fun wq hSq => _⟩) _
  rotate_left
  · obtain ⟨q0, q1, q2⟩ := HQ.out wq hSq
    go_simp
    try with_reducible rfl
  simp only [Act.put, List.setIfInBounds_toArray, List.set_cons_zero, List.set_cons_succ]
  refine' rC_read hCe (Or.inl ⟨by rfl, fun wq hSq => _⟩) _
  rotate_left
  · obtain ⟨q0, q1, q2⟩ := HQ.out wq hSq
    go_simp
    try with_reducible rfl
  simp only [Act.put, List.setIfInBounds_toArray, List.set_cons_zero, List.set_cons_succ]
  refine' rC_read hCe (Or.inl ⟨by rfl, fun wq hSq => _⟩) _
  rotate_left
  · obtain ⟨q0, q1, q2⟩ := HQ.out wq hSq
    go_simp
    try with_reducible rfl
  simp only [Act.put, List.setIfInBounds_toArray, List.set_cons_zero, List.set_cons_succ]
  refine rC_arith hCe hCd rfl _ _ _ _ _ rfl rfl _ _ _ rfl rfl ?_
  intro p1 kp1
  simp only [Act.put, List.setIfInBounds_toArray, List.set_cons_zero, List.set_cons_succ]
  refine' rC_read hCe (Or.inl ⟨by rfl, fun wq hSq => _⟩) _
  rotate_left
  · obtain ⟨q0, q1, q2⟩ := HQ.out wq hSq
    go_simp
    try with_reducible rfl
  simp only [Act.put, List.setIfInBounds_toArray, List.set_cons_zero, List.set_cons_succ]
  refine' rC_read hCe (Or.inl ⟨by rfl, fun wq hSq => _⟩) _
  rotate_left
  · obtain ⟨q0, q1, q2⟩ := HQ.out wq hSq
    go_simp
    try with_reducible rfl
  simp only [Act.put, List.setIfInBounds_toArray, List.set_cons_zero, List.set_cons_succ]
  refine rC_call hCe (by rfl) 148 #[.float .f32 a] (fun wq hSq => ?_) (fun wq hSq => ?_) (fun u hu => ?_)
  · go_simp
  · refine (halfW_calls _ _).mono ?_
    rintro e w' ⟨r, n, rfl, hr, rfl⟩
    exact ⟨_, rfl, ⟨rfl, _, _, rfl, rfl, hr⟩, hCd _ _ hSq⟩
  obtain ⟨-, x1, hh, he, rfl, khh⟩ := hu
  have he' : a = x1 := by simpa using he
  subst he'
  clear he
  simp only [Act.put, List.setIfInBounds_toArray, List.set_cons_zero, List.set_cons_succ]
  refine' rC_read hCe (Or.inl ⟨by rfl, fun wq hSq => _⟩) _
  rotate_left
  · obtain ⟨q0, q1, q2⟩ := HQ.out wq hSq
    go_simp
    try with_reducible rfl
  simp only [Act.put, List.setIfInBounds_toArray, List.set_cons_zero, List.set_cons_succ]
  refine rC_arith hCe hCd rfl _ _ _ _ _ rfl rfl _ _ _ rfl rfl ?_
  intro p2 kp2
  simp only [Act.put, List.setIfInBounds_toArray, List.set_cons_zero, List.set_cons_succ]
  refine' rC_read hCe (Or.inl ⟨by rfl, fun wq hSq => _⟩) _
  rotate_left
  · obtain ⟨q0, q1, q2⟩ := HQ.out wq hSq
    go_simp
    try with_reducible rfl
  simp only [Act.put, List.setIfInBounds_toArray, List.set_cons_zero, List.set_cons_succ]
  refine rC_arith hCe hCd rfl _ _ _ _ _ rfl rfl _ _ _ rfl rfl ?_
  intro p3 kp3
  simp only [Act.put, List.setIfInBounds_toArray, List.set_cons_zero, List.set_cons_succ]
  refine rC_arith hCe hCd rfl _ _ _ _ _ rfl rfl _ _ _ rfl rfl ?_
  intro u1 ku1
  simp only [Act.put, List.setIfInBounds_toArray, List.set_cons_zero, List.set_cons_succ]
  refine' rC_read hCe (Or.inl ⟨by rfl, fun wq hSq => _⟩) _
  rotate_left
  · obtain ⟨q0, q1, q2⟩ := HQ.out wq hSq
    go_simp
    try with_reducible rfl
  simp only [Act.put, List.setIfInBounds_toArray, List.set_cons_zero, List.set_cons_succ]
  refine' rC_read hCe (Or.inl ⟨by rfl, fun wq hSq => _⟩) _
  rotate_left
  · obtain ⟨q0, q1, q2⟩ := HQ.out wq hSq
    go_simp
    try with_reducible rfl
  simp only [Act.put, List.setIfInBounds_toArray, List.set_cons_zero, List.set_cons_succ]
  refine rC_arith hCe hCd rfl _ _ _ _ _ rfl rfl _ _ _ rfl rfl ?_
  intro q1 kq1
  simp only [Act.put, List.setIfInBounds_toArray, List.set_cons_zero, List.set_cons_succ]
  refine' rC_read hCe (Or.inl ⟨by rfl, fun wq hSq => _⟩) _
  rotate_left
  · obtain ⟨q0, q1, q2⟩ := HQ.out wq hSq
    go_simp
    try with_reducible rfl
  simp only [Act.put, List.setIfInBounds_toArray, List.set_cons_zero, List.set_cons_succ]
  refine rC_arith hCe hCd rfl _ _ _ _ _ rfl rfl _ _ _ rfl rfl ?_
  intro q2 kq2
  simp only [Act.put, List.setIfInBounds_toArray, List.set_cons_zero, List.set_cons_succ]
  refine' rC_read hCe (Or.inl ⟨by rfl, fun wq hSq => _⟩) _
  rotate_left
  · obtain ⟨q0, q1, q2⟩ := HQ.out wq hSq
    go_simp
    try with_reducible rfl
  simp only [Act.put, List.setIfInBounds_toArray, List.set_cons_zero, List.set_cons_succ]
  refine rC_arith hCe hCd rfl _ _ _ _ _ rfl rfl _ _ _ rfl rfl ?_
  intro q3 kq3
  simp only [Act.put, List.setIfInBounds_toArray, List.set_cons_zero, List.set_cons_succ]
  refine rC_arith hCe hCd rfl _ _ _ _ _ rfl rfl _ _ _ rfl rfl ?_
  intro q4 kq4
  simp only [Act.put, List.setIfInBounds_toArray, List.set_cons_zero, List.set_cons_succ]
  refine rC_arith hCe hCd rfl _ _ _ _ _ rfl rfl _ _ _ rfl rfl ?_
  intro u2 ku2
  simp only [Act.put, List.setIfInBounds_toArray, List.set_cons_zero, List.set_cons_succ]
  refine rC_arith hCe hCd rfl _ _ _ _ _ rfl rfl _ _ _ rfl rfl ?_
  intro xn kxn
  simp only [Act.put, List.setIfInBounds_toArray, List.set_cons_zero, List.set_cons_succ]
  refine' rC_read hCe (Or.inl ⟨by rfl, fun wq hSq => _⟩) _
  rotate_left
  · obtain ⟨q0, q1, q2⟩ := HQ.out wq hSq
    go_simp
    try with_reducible rfl
  simp only [Act.put, List.setIfInBounds_toArray, List.set_cons_zero, List.set_cons_succ]
  refine' rC_read hCe (Or.inl ⟨by rfl, fun wq hSq => _⟩) _
  rotate_left
  · obtain ⟨q0, q1, q2⟩ := HQ.out wq hSq
    go_simp
    try with_reducible rfl
  simp only [Act.put, List.setIfInBounds_toArray, List.set_cons_zero, List.set_cons_succ]
  refine' rC_read hCe (Or.inl ⟨by rfl, fun wq hSq => _⟩) _
  rotate_left
  · obtain ⟨q0, q1, q2⟩ := HQ.out wq hSq
    go_simp
    try with_reducible rfl
  simp only [Act.put, List.setIfInBounds_toArray, List.set_cons_zero, List.set_cons_succ]
  refine' rC_read hCe (Or.inl ⟨by rfl, fun wq hSq => _⟩) _
  rotate_left
  · obtain ⟨q0, q1, q2⟩ := HQ.out wq hSq
    go_simp
    try with_reducible rfl
  simp only [Act.put, List.setIfInBounds_toArray, List.set_cons_zero, List.set_cons_succ]
  refine' rC_read hCe (Or.inl ⟨by rfl, fun wq hSq => _⟩) _
  rotate_left
  · obtain ⟨q0, q1, q2⟩ := HQ.out wq hSq
    go_simp
    try with_reducible rfl
  simp only [Act.put, List.setIfInBounds_toArray, List.set_cons_zero, List.set_cons_succ]
  refine rC_arith hCe hCd rfl _ _ _ _ _ rfl rfl _ _ _ rfl rfl ?_
  intro r1 kr1
  simp only [Act.put, List.setIfInBounds_toArray, List.set_cons_zero, List.set_cons_succ]
  refine' rC_read hCe (Or.inl ⟨by rfl, fun wq hSq => _⟩) _
  rotate_left
  · obtain ⟨q0, q1, q2⟩ := HQ.out wq hSq
    go_simp
    try with_reducible rfl
  simp only [Act.put, List.setIfInBounds_toArray, List.set_cons_zero, List.set_cons_succ]
  refine rC_call hCe (by rfl) 148 #[.float .f32 j] (fun wq hSq => ?_) (fun wq hSq => ?_) (fun u hu => ?_)
  · go_simp
  · refine (halfW_calls _ _).mono ?_
    rintro e w' ⟨r, n, rfl, hr, rfl⟩
    exact ⟨_, rfl, ⟨rfl, _, _, rfl, rfl, hr⟩, hCd _ _ hSq⟩
  obtain ⟨-, x1, hj, he, rfl, khj⟩ := hu
  have he' : j = x1 := by simpa using he
  subst he'
  clear he
  simp only [Act.put, List.setIfInBounds_toArray, List.set_cons_zero, List.set_cons_succ]
  refine' rC_read hCe (Or.inl ⟨by rfl, fun wq hSq => _⟩) _
  rotate_left
  · obtain ⟨q0, q1, q2⟩ := HQ.out wq hSq
    go_simp
    try with_reducible rfl
  simp only [Act.put, List.setIfInBounds_toArray, List.set_cons_zero, List.set_cons_succ]
  refine rC_arith hCe hCd rfl _ _ _ _ _ rfl rfl _ _ _ rfl rfl ?_
  intro r2 kr2
  simp only [Act.put, List.setIfInBounds_toArray, List.set_cons_zero, List.set_cons_succ]
  refine' rC_read hCe (Or.inl ⟨by rfl, fun wq hSq => _⟩) _
  rotate_left
  · obtain ⟨q0, q1, q2⟩ := HQ.out wq hSq
    go_simp
    try with_reducible rfl
  simp only [Act.put, List.setIfInBounds_toArray, List.set_cons_zero, List.set_cons_succ]
  refine rC_arith hCe hCd rfl _ _ _ _ _ rfl rfl _ _ _ rfl rfl ?_
  intro r3 kr3
  simp only [Act.put, List.setIfInBounds_toArray, List.set_cons_zero, List.set_cons_succ]
  refine rC_arith hCe hCd rfl _ _ _ _ _ rfl rfl _ _ _ rfl rfl ?_
  intro r4 kr4
  simp only [Act.put, List.setIfInBounds_toArray, List.set_cons_zero, List.set_cons_succ]
  refine rC_arith hCe hCd rfl _ _ _ _ _ rfl rfl _ _ _ rfl rfl ?_
  intro vn kvn
  simp only [Act.put, List.setIfInBounds_toArray, List.set_cons_zero, List.set_cons_succ]
  refine' rC_read hCe (Or.inl ⟨by rfl, fun wq hSq => _⟩) _
  rotate_left
  · obtain ⟨q0, q1, q2⟩ := HQ.out wq hSq
    go_simp
    try with_reducible rfl
  simp only [Act.put, List.setIfInBounds_toArray, List.set_cons_zero, List.set_cons_succ]
  refine' rC_read hCe (Or.inl ⟨by rfl, fun wq hSq => _⟩) _
  rotate_left
  · obtain ⟨q0, q1, q2⟩ := HQ.out wq hSq
    go_simp
    try with_reducible rfl
  simp only [Act.put, List.setIfInBounds_toArray, List.set_cons_zero, List.set_cons_succ]
  refine' rC_read hCe (Or.inl ⟨by rfl, fun wq hSq => _⟩) _
  rotate_left
  · obtain ⟨q0, q1, q2⟩ := HQ.out wq hSq
    go_simp
    try with_reducible rfl
  simp only [Act.put, List.setIfInBounds_toArray, List.set_cons_zero, List.set_cons_succ]
  refine' rC_read hCe (Or.inl ⟨by rfl, fun wq hSq => _⟩) _
  rotate_left
  · obtain ⟨q0, q1, q2⟩ := HQ.out wq hSq
    go_simp
    try with_reducible rfl
  simp only [Act.put, List.setIfInBounds_toArray, List.set_cons_zero, List.set_cons_succ]
  refine rC_arith hCe hCd rfl _ _ _ _ _ rfl rfl _ _ _ rfl rfl ?_
  intro z kz
  simp only [Act.put, List.setIfInBounds_toArray, List.set_cons_zero, List.set_cons_succ]
  refine rC_arith hCe hCd rfl _ _ _ _ _ rfl rfl _ _ _ rfl rfl ?_
  intro an kan
  simp only [Act.put, List.setIfInBounds_toArray, List.set_cons_zero, List.set_cons_succ]
  refine' rC_read hCe (Or.inl ⟨by rfl, fun wq hSq => _⟩) _
  rotate_left
  · obtain ⟨q0, q1, q2⟩ := HQ.out wq hSq
    go_simp
    try with_reducible rfl
  simp only [Act.put, List.setIfInBounds_toArray, List.set_cons_zero, List.set_cons_succ]
  refine rC_nil (fun w3 hw3 => ?_)
  have k0 : w3.cell? ⟨w.heap.size + 1, 0, none⟩ = some (.float .f32 0) := by rw [hw3.cell (by rw [hw2]; simp), hw2]; simp [go_sem]
  have k1 : w3.cell? ⟨w.heap.size + 1, 1, none⟩ = some (.float .f32 0) := by rw [hw3.cell (by rw [hw2]; simp), hw2]; simp [go_sem]
  have k2 : w3.cell? ⟨w.heap.size + 1, 2, none⟩ = some (.float .f32 0) := by rw [hw3.cell (by rw [hw2]; simp), hw2]; simp [go_sem]
  have kf : ∀ i, w3.frozen? ⟨w.heap.size + 1, i, none⟩ = false := fun i => by rw [hw3.frozen (by rw [hw2]; simp), hw2]; simp [go_sem]
  obtain ⟨e0, e1, e2⟩ := set3_readY (w := w3) (v0 := .float .f32 xn) (v1 := .float .f32 vn) (v2 := .float .f32 an) k0 k1 k2
  have hB3 : Below w.heap.size w w3 := by
    have h2 : Below w.heap.size w w2 := by rw [hw2]; exact ((Below.refl _ _).alloc (Nat.le_refl _) _).alloc (by simp) _
    exact h2.trans (hw3.mono h2.size)
  refine wpTail_cons (fun K hK => ?_)
  go_simp
  refine hK.out _ _ (.inl rfl) ?_
  clear hK K
  refine wpTail_done ?_
  go_wp2_with fail
  refine bodyPost_ret (v := .agg #[.float .f32 xn, .float .f32 vn, .float .f32 an]) (by simp [results, Try.results128, go_sem, e0, e1, e2]) rfl ⟨_, _, _, rfl, ⟨⟨_, _, _, _, _, _, _, _, _, _, kp1, khh, kp2, kp3, ku1, kq1, kq2, kq3, kq4, ku2, kxn⟩, ⟨_, _, _, _, _, kr1, khj, kr2, kr3, kr4, kvn⟩, ⟨_, kz, kan⟩⟩, ?_⟩
  exact ((hB3.setCell (p := ⟨w.heap.size + 1, 0, none⟩) (by simp) _).setCell (p := ⟨w.heap.size + 1, 1, none⟩) (by simp) _).setCell (p := ⟨w.heap.size + 1, 2, none⟩) (by simp) _

end Go.Proofs.Ytohbanchaggnmaa
