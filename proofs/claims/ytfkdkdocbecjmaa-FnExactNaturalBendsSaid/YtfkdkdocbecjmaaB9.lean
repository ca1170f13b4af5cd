/-
  SteadySlopes: the specification's side.
-/
import Derived.Test.YtfkdkdocbecjmaaB7
namespace Go.Proofs.Ytfkdkdocbecjmaa
open Go.RowKit Fl Go.WideShapes Go.Deep
attribute [local go_sem] kstore_f kalloc_drewN kset_drewN

/-- Lists of a graph, where they are read. -/
def GrW (xs ys : List Nat) (n b off b2 off2 : Nat) (W : World) : Prop := (∀ j, j < n → W.cell? ⟨b, off + j, none⟩ = some (.float .f32 (xs.getD j 0))) ∧ (∀ j, j < n → W.cell? ⟨b2, off2 + j, none⟩ = some (.float .f32 (ys.getD j 0))) ∧ b < W.heap.size ∧ b2 < W.heap.size
theorem GrW.below {xs ys : List Nat} {n b off b2 off2 : Nat} {W W' : World} (h : GrW xs ys n b off b2 off2 W) (hB : Below W.heap.size W W') : GrW xs ys n b off b2 off2 W' :=
  ⟨fun j hj => (hB.cell (p := ⟨b, off + j, none⟩) h.2.2.1).trans (h.1 j hj), fun j hj => (hB.cell (p := ⟨b2, off2 + j, none⟩) h.2.2.2).trans (h.2.1 j hj), Nat.lt_of_lt_of_le h.2.2.1 hB.size, Nat.lt_of_lt_of_le h.2.2.2 hB.size⟩
theorem GrW.keep {xs ys : List Nat} {n b off b2 off2 : Nat} {W W' : World} {B : Nat} (h : GrW xs ys n b off b2 off2 W) (hB : Below B W W') (hb : b < B) (hb2 : b2 < B) : GrW xs ys n b off b2 off2 W' :=
  ⟨fun j hj => (hB.cell (p := ⟨b, off + j, none⟩) hb).trans (h.1 j hj), fun j hj => (hB.cell (p := ⟨b2, off2 + j, none⟩) hb2).trans (h.2.1 j hj), Nat.lt_of_lt_of_le h.2.2.1 hB.size, Nat.lt_of_lt_of_le h.2.2.2 hB.size⟩
def RelNo (_ : FuncId) (_ : Array Value) (_ : Value) : Prop := False

set_option maxRecDepth 100000 in
set_option maxHeartbeats 1000000 in
theorem l05Slope_calls (b off c b2 off2 d n i : Nat) (xs ys : List Nat) (hn : n ≤ 1000) (hi : i + 1 < n) (w : World) (hG : GrW xs ys n b off b2 off2 w) :
    Calls Try.prog 82 #[.slice (some ⟨b, off, none⟩) n c, .slice (some ⟨b2, off2, none⟩) n d, .int .i64 i] w fun e w' => ∃ s, e = .returned (.float .f32 s) ∧ SlR xs ys i s ∧ Below w.heap.size w w' := by
  obtain ⟨j, hj⟩ : ∃ j, j = i + 1 := ⟨_, rfl⟩
  have hx0 := hG.1 i (by omega)
  have hx1 := hG.1 j (by omega)
  have hy0 := hG.2.1 i (by omega)
  have hy1 := hG.2.1 j (by omega)
  have hb := hG.2.2
  have hwj : IntKind.i64.wrap ((i : Int) + 1) = (j : Int) := by rw [IntKind.wrap_i64]; omega
  have hi0 : (i : Int) < (n : Int) := by omega
  have hj0 : (j : Int) < (n : Int) := by omega
  have HJ := Frame.hid hj
  obtain ⟨x0, hx0'⟩ : ∃ x0, x0 = xs.getD i 0 := ⟨_, rfl⟩
  obtain ⟨x1, hx1'⟩ : ∃ x1, x1 = xs.getD j 0 := ⟨_, rfl⟩
  obtain ⟨y0, hy0'⟩ : ∃ y0, y0 = ys.getD i 0 := ⟨_, rfl⟩
  obtain ⟨y1, hy1'⟩ : ∃ y1, y1 = ys.getD j 0 := ⟨_, rfl⟩
  rw [← hx0'] at hx0
  rw [← hx1'] at hx1
  rw [← hy0'] at hy0
  rw [← hy1'] at hy1
  have HE := Frame.hid (And.intro hx0' (And.intro hx1' (And.intro hy0' hy1')))
  have hQ : ∀ W, Below w.heap.size w W → W.cell? ⟨b, off + i, none⟩ = some (.float .f32 x0) ∧ W.cell? ⟨b, off + j, none⟩ = some (.float .f32 x1) ∧ W.cell? ⟨b2, off2 + i, none⟩ = some (.float .f32 y0) ∧ W.cell? ⟨b2, off2 + j, none⟩ = some (.float .f32 y1) := fun W h => ⟨(h.cell (p := ⟨b, off + i, none⟩) hb.1).trans hx0, (h.cell (p := ⟨b, off + j, none⟩) hb.1).trans hx1, (h.cell (p := ⟨b2, off2 + i, none⟩) hb.2).trans hy0, (h.cell (p := ⟨b2, off2 + j, none⟩) hb.2).trans hy1⟩
  have HQ := Frame.hid hQ
  have hCe : ∃ W, Below w.heap.size w W := ⟨w, Below.refl _ _⟩
  have hCd : ∀ W n, Below w.heap.size w W → Below w.heap.size w (W.drewN n) := fun W n h => below_drewN h n
  clear hQ hx0' hx1' hy0' hy1' hx0 hx1 hy0 hy1 hG hj hi hn hb
  go_enter Try.func82, Try.ntmps82
  go_wp2_with fail
  refine region_may_n 21 (fun W => Below w.heap.size w W) RelNo rfl (by kernel_rfl) (by kernel_rfl) (Below.refl _ _).drew ?_
  refine' rC_read hCe (Or.inl ⟨by rfl, fun wq hSq => _⟩) _
  rotate_left
  · obtain ⟨q0, q1, q2, q3⟩ := HQ.out wq hSq
    go_simp
    try with_reducible rfl
  simp only [Act.put, List.setIfInBounds_toArray, List.set_cons_zero, List.set_cons_succ]
  refine' rC_read hCe (Or.inl ⟨by rfl, fun wq hSq => _⟩) _
  rotate_left
  · obtain ⟨q0, q1, q2, q3⟩ := HQ.out wq hSq
    go_simp
    try with_reducible rfl
  simp only [Act.put, List.setIfInBounds_toArray, List.set_cons_zero, List.set_cons_succ]
  refine' rC_read hCe (Or.inl ⟨by rfl, fun wq hSq => _⟩) _
  rotate_left
  · obtain ⟨q0, q1, q2, q3⟩ := HQ.out wq hSq
    go_simp
    try with_reducible rfl
  simp only [Act.put, List.setIfInBounds_toArray, List.set_cons_zero, List.set_cons_succ]
  refine' rC_read hCe (Or.inl ⟨by rfl, fun wq hSq => _⟩) _
  rotate_left
  · obtain ⟨q0, q1, q2, q3⟩ := HQ.out wq hSq
    go_simp
    try with_reducible rfl
  simp only [Act.put, List.setIfInBounds_toArray, List.set_cons_zero, List.set_cons_succ]
  refine' rC_read hCe (Or.inl ⟨by rfl, fun wq hSq => _⟩) _
  rotate_left
  · obtain ⟨q0, q1, q2, q3⟩ := HQ.out wq hSq
    go_simp
    try with_reducible rfl
  simp only [Act.put, List.setIfInBounds_toArray, List.set_cons_zero, List.set_cons_succ]
  refine' rC_read hCe (Or.inl ⟨by rfl, fun wq hSq => _⟩) _
  rotate_left
  · obtain ⟨q0, q1, q2, q3⟩ := HQ.out wq hSq
    go_simp
    try with_reducible rfl
  simp only [Act.put, List.setIfInBounds_toArray, List.set_cons_zero, List.set_cons_succ]
  refine' rC_read hCe (Or.inl ⟨by rfl, fun wq hSq => _⟩) _
  rotate_left
  · obtain ⟨q0, q1, q2, q3⟩ := HQ.out wq hSq
    go_simp
    try with_reducible rfl
  simp only [Act.put, List.setIfInBounds_toArray, List.set_cons_zero, List.set_cons_succ]
  refine' rC_read hCe (Or.inl ⟨by rfl, fun wq hSq => _⟩) _
  rotate_left
  · obtain ⟨q0, q1, q2, q3⟩ := HQ.out wq hSq
    go_simp
    try with_reducible rfl
  simp only [Act.put, List.setIfInBounds_toArray, List.set_cons_zero, List.set_cons_succ]
  refine' rC_read hCe (Or.inl ⟨by rfl, fun wq hSq => _⟩) _
  rotate_left
  · obtain ⟨q0, q1, q2, q3⟩ := HQ.out wq hSq
    go_simp
    try with_reducible rfl
  simp only [Act.put, List.setIfInBounds_toArray, List.set_cons_zero, List.set_cons_succ]
  refine rC_arith hCe hCd rfl _ _ _ _ _ rfl rfl _ _ _ rfl rfl ?_
  intro u hu
  simp only [Act.put, List.setIfInBounds_toArray, List.set_cons_zero, List.set_cons_succ]
  refine' rC_read hCe (Or.inl ⟨by rfl, fun wq hSq => _⟩) _
  rotate_left
  · obtain ⟨q0, q1, q2, q3⟩ := HQ.out wq hSq
    go_simp
    try with_reducible rfl
  simp only [Act.put, List.setIfInBounds_toArray, List.set_cons_zero, List.set_cons_succ]
  refine' rC_read hCe (Or.inl ⟨by rfl, fun wq hSq => _⟩) _
  rotate_left
  · obtain ⟨q0, q1, q2, q3⟩ := HQ.out wq hSq
    go_simp
    try with_reducible rfl
  simp only [Act.put, List.setIfInBounds_toArray, List.set_cons_zero, List.set_cons_succ]
  refine' rC_read hCe (Or.inl ⟨by rfl, fun wq hSq => _⟩) _
  rotate_left
  · obtain ⟨q0, q1, q2, q3⟩ := HQ.out wq hSq
    go_simp
    try with_reducible rfl
  simp only [Act.put, List.setIfInBounds_toArray, List.set_cons_zero, List.set_cons_succ]
  refine' rC_read hCe (Or.inl ⟨by rfl, fun wq hSq => _⟩) _
  rotate_left
  · obtain ⟨q0, q1, q2, q3⟩ := HQ.out wq hSq
    go_simp
    try with_reducible rfl
  simp only [Act.put, List.setIfInBounds_toArray, List.set_cons_zero, List.set_cons_succ]
  refine' rC_read hCe (Or.inl ⟨by rfl, fun wq hSq => _⟩) _
  rotate_left
  · obtain ⟨q0, q1, q2, q3⟩ := HQ.out wq hSq
    go_simp
    try with_reducible rfl
  simp only [Act.put, List.setIfInBounds_toArray, List.set_cons_zero, List.set_cons_succ]
  refine' rC_read hCe (Or.inl ⟨by rfl, fun wq hSq => _⟩) _
  rotate_left
  · obtain ⟨q0, q1, q2, q3⟩ := HQ.out wq hSq
    go_simp
    try with_reducible rfl
  simp only [Act.put, List.setIfInBounds_toArray, List.set_cons_zero, List.set_cons_succ]
  refine' rC_read hCe (Or.inl ⟨by rfl, fun wq hSq => _⟩) _
  rotate_left
  · obtain ⟨q0, q1, q2, q3⟩ := HQ.out wq hSq
    go_simp
    try with_reducible rfl
  simp only [Act.put, List.setIfInBounds_toArray, List.set_cons_zero, List.set_cons_succ]
  refine' rC_read hCe (Or.inl ⟨by rfl, fun wq hSq => _⟩) _
  rotate_left
  · obtain ⟨q0, q1, q2, q3⟩ := HQ.out wq hSq
    go_simp
    try with_reducible rfl
  simp only [Act.put, List.setIfInBounds_toArray, List.set_cons_zero, List.set_cons_succ]
  refine' rC_read hCe (Or.inl ⟨by rfl, fun wq hSq => _⟩) _
  rotate_left
  · obtain ⟨q0, q1, q2, q3⟩ := HQ.out wq hSq
    go_simp
    try with_reducible rfl
  simp only [Act.put, List.setIfInBounds_toArray, List.set_cons_zero, List.set_cons_succ]
  refine rC_arith hCe hCd rfl _ _ _ _ _ rfl rfl _ _ _ rfl rfl ?_
  intro v hv
  simp only [Act.put, List.setIfInBounds_toArray, List.set_cons_zero, List.set_cons_succ]
  refine rC_arith hCe hCd rfl _ _ _ _ _ rfl rfl _ _ _ rfl rfl ?_
  intro s hs
  simp only [Act.put, List.setIfInBounds_toArray, List.set_cons_zero, List.set_cons_succ]
  refine rC_nil (fun w3 hw3 => ?_)
  refine wpTail_cons (fun K hK => ?_)
  go_simp
  refine hK.out _ _ (.inl rfl) ?_
  clear hK K
  refine wpTail_done ?_
  go_wp2_with fail
  refine bodyPost_ret (v := .float .f32 s) (by simp [results, Try.results82, go_sem]) rfl ⟨_, rfl, ?_, hw3⟩
  obtain ⟨rfl, rfl, rfl, rfl⟩ := HE.out
  have hj := HJ.out
  subst hj
  exact ⟨v, hv, u, hu, hs⟩

def SMidW (xs ys : List Nat) (m g n : Nat) (w : World) (iv : Value) (wr : World) : Prop := ∃ (j : Nat) (zs : List Nat), 1 ≤ j ∧ j ≤ m ∧ iv = .int .i64 j ∧ MidI xs ys m (j - 1) zs ∧ OwnF wr w.heap.size (.slice (some ⟨g, 0, none⟩) n n) zs ∧ Below w.heap.size w wr
def SStW (xs ys : List Nat) (m g n : Nat) (w : World) (iv : Value) (wr : World) : Prop := ∃ (k : Nat) (zs : List Nat), k ≤ m ∧ iv = .int .i64 k ∧ SteadyL xs ys m k zs ∧ OwnF wr w.heap.size (.slice (some ⟨g, 0, none⟩) n n) zs ∧ Below w.heap.size w wr
theorem set_as {zs : List Nat} {i : Nat} (h : i + 1 < zs.length) : (zs.set i (zs.getD i 0)).set (i + 1) (zs.getD (i + 1) 0) = zs := by
  apply List.ext_getElem?
  intro j
  simp only [List.getElem?_set, List.length_set, List.getD_eq_getElem?_getD]
  by_cases h1 : i + 1 = j
  · subst h1
    rw [if_pos rfl, if_pos h, List.getElem?_eq_getElem h]
    rfl
  · rw [if_neg h1]
    by_cases h2 : i = j
    · subst h2
      rw [if_pos rfl, if_pos (by omega), List.getElem?_eq_getElem (by omega)]
      rfl
    · rw [if_neg h2]

set_option maxRecDepth 100000 in
set_option maxHeartbeats 4000000 in
theorem l05Steady_calls (b off c b2 off2 d n m0 ml : Nat) (xs ys : List Nat) (hn : n ≤ 48) (hm : n = m0 + 1) (hml : m0 = ml + 1) (w : World) (hG : GrW xs ys n b off b2 off2 w) :
    Calls Try.prog 57 #[.slice (some ⟨b, off, none⟩) n c, .slice (some ⟨b2, off2, none⟩) n d] w fun e w' => ∃ v zs, e = .returned v ∧ SteadyL xs ys m0 m0 zs ∧ OwnF w' w.heap.size v zs ∧ Below w.heap.size w w' := by
  obtain ⟨i0, hi, hz0, hz1, hz2⟩ := info_parts infoF6
  have hb := hG.2.2
  have HG0 := Frame.hid hG
  have HSLP := Frame.hid (fun (W : World) (hW : Below w.heap.size w W) (i : Nat) (hi : i + 1 < n) => l05Slope_calls b off c b2 off2 d n i xs ys (by omega) hi W (hG.keep hW hb.1 hb.2))
  have HM := Frame.hid hm
  have HML := Frame.hid hml
  clear hG hm hml
  go_enter Try.func57, Try.ntmps57
  go_wp2_with (at_make; refine wpList_make_full _ rfl _ _ 44 rfl w.heap.size 25 i0 (.float .f32 0) 1 Try.underlying44 hi hz0 hz1 _ _ _ _ n rfl rfl rfl rfl ?c1 ?c2 ?c3 ?_)
  case c1 => rw [hz2]; omega
  case c2 => unfold maxLen; omega
  case c3 => simp
  intro w3 hown hgrow
  obtain ⟨g, hg⟩ : ∃ g, g = w.heap.size := ⟨_, rfl⟩
  have HGB : Hid (w.heap.size ≤ g) := by show _ ≤ _; rw [hg]; exact Nat.le_refl _
  have HO3 : Hid (OwnF w3 w.heap.size (.slice (some ⟨g, 0, none⟩) n n) (List.replicate n 0)) := by
    show w3.ownsRow _ _ _ _ _ _
    have e : (madeCells #[Value.float .f32 0] n).toList = fl (List.replicate n 0) := by
      unfold fl
      rw [List.map_replicate]
      exact toList_madeCells_one _ _
    rw [e] at hown
    rw [List.length_replicate, hg]
    exact hown
  have HB3 : Hid (Below w.heap.size w w3) := (Below.refl _ _).grown hgrow (Nat.le_refl _) (by simp)
  rw [← hg]
  have hm := HM.out
  have hml := HML.out
  have hw1 : IntKind.i64.wrap ((n : Int) - 1) = (m0 : Int) := by rw [IntKind.wrap_i64]; omega
  have hw2 : IntKind.i64.wrap ((n : Int) - 2) = (ml : Int) := by rw [IntKind.wrap_i64]; omega
  have hmn : (m0 : Int) < (n : Int) := by omega
  have h0n : (0 : Int) < (n : Int) := by omega
  have h0n' : 0 < n := by omega
  clear hown hgrow hg hi hz0 hz1 hz2 hm hml
  go_wp2_with fail
  refine (HSLP.out _ HB3.out 0 (by have := HM.out; have := HML.out; omega)).mono ?_
  rintro e w4 ⟨s0, rfl, hs0, hB4⟩
  have HS0 := Frame.hid hs0
  have hO4 := HO3.out.below hB4
  have e0 := hO4.cell (by simp) (j := 0) (by simpa using h0n')
  have f0 := hO4.froz (by simp) 0
  have HO5 := Frame.hid (OwnF.put hO4 (by simp) 0 s0)
  have HB5 : Hid (Below w.heap.size w (w4.setCell ⟨g, 0, none⟩ (.float .f32 s0))) := (HB3.out.trans (hB4.mono HB3.out.size)).setCell (p := ⟨g, 0, none⟩) HGB.out _
  generalize (List.replicate n 0).getD 0 0 = z0 at e0
  clear hs0 hB4 hO4 HO3 HB3
  go_wp2_with fail
  refine (HSLP.out _ HB5.out ml (by have := HM.out; have := HML.out; omega)).mono ?_
  rintro e w6 ⟨s1, rfl, hs1, hB6⟩
  have HS1 := Frame.hid hs1
  have hO6 := HO5.out.below hB6
  have e1 := hO6.cell (by simp) (j := m0) (by have := HM.out; simp; omega)
  have f1 := hO6.froz (by simp) m0
  have HO7 := Frame.hid (OwnF.put hO6 (by simp) m0 s1)
  have HB7 : Hid (Below w.heap.size w (w6.setCell ⟨g, m0, none⟩ (.float .f32 s1))) := (HB5.out.trans (hB6.mono HB5.out.size)).setCell (p := ⟨g, m0, none⟩) HGB.out _
  have HZ7 : Hid (MidI xs ys m0 0 (((List.replicate n 0).set 0 s0).set m0 s1)) := by
    have h1 := HM.out
    have h2 := HML.out
    subst h1
    exact MidI.start (by omega) HS0.out (by rw [h2]; exact HS1.out)
  generalize ((List.replicate n 0).set 0 s0).getD m0 0 = z1 at e1
  generalize ((List.replicate n 0).set 0 s0).set m0 s1 = zs7 at *
  clear hs1 hB6 hO6 HO5 HB5 e0 f0
  go_wp2_with fail
  clear e1 f1
  generalize (w6.setCell ⟨g, m0, none⟩ (.float .f32 s1)) = w7 at *
  go_loopw [7] (fun i wr => SMidW xs ys m0 g n w i wr) (fun i _ => n - (intOf i).toNat)
  case atStart => exact ⟨1, _, Nat.le_refl _, by have := HML.out; omega, rfl, HZ7.out, HO7.out, HB7.out⟩
  case round =>
    obtain ⟨j, zs, hj1, hjm, rfl, hM, hO, hB⟩ := hrel
    have HMI := Frame.hid hM
    have HO := Frame.hid hO
    have HB := Frame.hid hB
    have HZL : Hid (zs.length = n) := by have := HM.out; show _ = _; rw [this]; exact hM.1
    clear hM hO hB HZ7 HO7 HB7
    have hwj : IntKind.i64.wrap ((j : Int) + 1) = (j : Int) + 1 := by rw [IntKind.wrap_i64]; omega
    by_cases hlt : (j : Int) + 1 < (n : Int)
    · obtain ⟨j0, hj0⟩ : ∃ j0, j = j0 + 1 := ⟨j - 1, by omega⟩
      have hwk : IntKind.i64.wrap ((j : Int) - 1) = (j0 : Int) := by rw [IntKind.wrap_i64]; omega
      have hjn : (j : Int) < (n : Int) := by omega
      have HJ := Frame.hid hj0
      clear hj0
      go_wp2_with fail
      refine (HSLP.out _ HB.out j0 (by have := HJ.out; omega)).mono ?_
      rintro e w8 ⟨sa, rfl, hsa, hB8⟩
      have HSA := Frame.hid hsa
      have HB8 := Frame.hid (HB.out.trans (hB8.mono HB.out.size))
      have HO8 := Frame.hid (HO.out.below hB8)
      clear hsa hB8 HO HB
      go_wp2_with fail
      refine (HSLP.out _ HB8.out j (by omega)).mono ?_
      rintro e w9 ⟨sb, rfl, hsb, hB9⟩
      have HSB := Frame.hid hsb
      have HB9 := Frame.hid (HB8.out.trans (hB9.mono HB8.out.size))
      have HO9 := Frame.hid (HO8.out.below hB9)
      clear hsb hB9 HO8 HB8
      go_wp2_with fail
      refine upon_arith _ _ _ _ _ rfl ?_
      intro p n1 hp _
      have HP := Frame.hid hp
      clear hp
      cases hgt : gtW p 0
      · have HGT := Frame.hid hgt
        unfold gtW at hgt
        go_wp2_with fail
        go_roundw
        case rel =>
          have hj := HJ.out
          have h := HMI.out.stay (by have := HM.out; omega) ⟨sa, sb, p, by rw [show j - 1 = j0 by omega]; exact HSA.out, by rw [show j - 1 + 1 = j by omega]; exact HSB.out, HP.out, .inr ⟨HGT.out, rfl⟩⟩
          rw [show j - 1 + 1 = j + 1 - 1 by omega] at h
          exact ⟨j + 1, zs, by omega, by have := HM.out; omega, by go_num, h, HO9.out.below (below_drewN (Below.refl _ _) _), below_drewN HB9.out _⟩
        case measure => simp [intOf]; omega
      · have HGT := Frame.hid hgt
        unfold gtW at hgt
        have hO9 := HO9.out
        have c9 := hO9.cell HZL.out.symm (j := j) (by have := HZL.out; omega)
        have f9 := hO9.froz HZL.out.symm j
        generalize zs.getD j 0 = z9 at c9
        clear hO9
        go_wp2_with fail
        refine upon_arith _ _ _ _ _ rfl ?_
        intro q n2 hq _
        have HQ := Frame.hid hq
        clear hq
        go_wp2_with fail
        refine upon_arith _ _ _ _ _ rfl ?_
        intro z n3 hz _
        have HZ := Frame.hid hz
        clear hz
        go_wp2_with fail
        go_roundw
        case rel =>
          have hj := HJ.out
          have h := HMI.out.step (z := z) (by have := HM.out; omega) ⟨sa, sb, p, by rw [show j - 1 = j0 by omega]; exact HSA.out, by rw [show j - 1 + 1 = j by omega]; exact HSB.out, HP.out, .inl ⟨HGT.out, q, HQ.out, .inr HZ.out⟩⟩
          rw [show j - 1 + 1 = j by omega] at h
          exact ⟨j + 1, zs.set j z, by omega, by have := HM.out; omega, by go_num, h, (OwnF.put HO9.out HZL.out.symm j z).below (below_drewN (Below.refl _ _) _), below_drewN (HB9.out.setCell (p := ⟨g, _, none⟩) HGB.out _) _⟩
        case measure => simp [intOf]; omega
    · have HSTL : Hid (SteadyL xs ys m0 0 zs) := HMI.out.done (by have := HM.out; omega)
      clear HMI
      go_wp2_with fail
      clear hlt hwj
      go_loopw [10] (fun i wr => SStW xs ys m0 g n w i wr) (fun i _ => n - (intOf i).toNat)
      case atStart => exact ⟨0, _, Nat.zero_le _, rfl, HSTL.out, HO.out, HB.out⟩
      case round =>
        obtain ⟨k, zs2, hk, rfl, hS2, hO2, hB2⟩ := hrel
        have HS2 := Frame.hid hS2
        have HO2 := Frame.hid hO2
        have HB2 := Frame.hid hB2
        have HZ2 : Hid (zs2.length = n) := by have := HM.out; show _ = _; rw [this]; exact hS2.len
        clear hS2 hO2 hB2 HSTL HO HB HZL
        have hwk : IntKind.i64.wrap ((k : Int) + 1) = (k : Int) + 1 := by rw [IntKind.wrap_i64]; omega
        by_cases hlt2 : (k : Int) + 1 < (n : Int)
        · have hkn : (k : Int) < (n : Int) := by omega
          have hk1 : (0 : Int) ≤ (k : Int) + 1 := by omega
          have hk2 : ((k : Int) + 1).toNat = k + 1 := by omega
          go_wp2_with fail
          refine (HSLP.out _ HB2.out k (by omega)).mono ?_
          rintro e w8 ⟨sa, rfl, hsa, hB8⟩
          have HSA := Frame.hid hsa
          have HB8 := Frame.hid (HB2.out.trans (hB8.mono HB2.out.size))
          have hO8 := HO2.out.below hB8
          have c8 := hO8.cell HZ2.out.symm (j := k) (by have := HZ2.out; omega)
          have d8 := hO8.cell HZ2.out.symm (j := k + 1) (by have := HZ2.out; omega)
          have f8 := hO8.froz HZ2.out.symm k
          have g8 := hO8.froz HZ2.out.symm (k + 1)
          have HO8 := Frame.hid hO8
          obtain ⟨za, hza⟩ : ∃ za, za = zs2.getD k 0 := ⟨_, rfl⟩
          obtain ⟨zb, hzb⟩ : ∃ zb, zb = zs2.getD (k + 1) 0 := ⟨_, rfl⟩
          rw [← hza] at c8
          rw [← hzb] at d8
          have HZAB := Frame.hid (And.intro hza hzb)
          clear hsa hB8 HO2 HB2 hza hzb hO8
          cases hs : eqW sa
          · have HEQ := Frame.hid hs
            unfold eqW at hs
            go_wp2_with fail
            refine upon_arith _ _ _ _ _ rfl ?_
            intro a n1 ha _
            have HA := Frame.hid ha
            clear ha
            go_wp2_with fail
            refine upon_arith _ _ _ _ _ rfl ?_
            intro a2 n2 hb2 _
            have HBB := Frame.hid hb2
            clear hb2
            go_wp2_with fail
            refine upon_arith _ _ _ _ _ rfl ?_
            intro p n3 hp _
            have HP := Frame.hid hp
            clear hp
            go_wp2_with fail
            refine upon_arith _ _ _ _ _ rfl ?_
            intro q n4 hq _
            have HQ := Frame.hid hq
            clear hq
            go_wp2_with fail
            refine upon_arith _ _ _ _ _ rfl ?_
            intro r n5 hr _
            have HR := Frame.hid hr
            clear hr
            cases hgt : gtW r 1091567616
            · have HGT := Frame.hid hgt
              unfold gtW at hgt
              go_wp2_with fail
              go_roundw
              case rel => exact ⟨k + 1, zs2, by have := HM.out; omega, by go_num, ⟨zs2, HS2.out, sa, za, zb, HSA.out, by rw [← HZAB.out.1, ← HZAB.out.2]; exact .inr ⟨HEQ.out, a, a2, p, q, r, HA.out, HBB.out, HP.out, HQ.out, HR.out, .inl ⟨HGT.out, rfl, rfl⟩⟩, by rw [HZAB.out.1, HZAB.out.2]; exact (set_as (by have := HZ2.out; omega)).symm⟩, HO8.out.below (below_drewN (Below.refl _ _) _), below_drewN HB8.out _⟩
              case measure => simp [intOf]; omega
            · have HGT := Frame.hid hgt
              unfold gtW at hgt
              go_wp2_with (first | (go_at_call 86; refine (l01Sqrt_calls _ _).mono ?_; rintro e w' ⟨kk, nk, rfl, hk', hkl, rfl⟩))
              refine upon_arith _ _ _ _ _ rfl ?_
              intro t n6 ht _
              have HT := Frame.hid ht
              clear ht
              go_wp2_with fail
              refine upon_arith _ _ _ _ _ rfl ?_
              intro u n7 hu _
              have HU := Frame.hid hu
              clear hu
              go_wp2_with fail
              refine upon_arith _ _ _ _ _ rfl ?_
              intro f' n8 hf' _
              have HF := Frame.hid hf'
              clear hf'
              go_wp2_with fail
              refine upon_arith _ _ _ _ _ rfl ?_
              intro v n9 hv _
              have HV := Frame.hid hv
              clear hv
              go_wp2_with fail
              refine upon_arith _ _ _ _ _ rfl ?_
              intro l' n10 hl' _
              have HL := Frame.hid hl'
              clear hl'
              go_wp2_with fail
              go_roundw
              case rel =>
                have hO9 := OwnF.put (OwnF.put HO8.out HZ2.out.symm k f') (by rw [List.length_set]; exact HZ2.out.symm) (k + 1) l'
                have hB9 := (HB8.out.setCell (p := ⟨g, k, none⟩) HGB.out (.float .f32 f')).setCell (p := ⟨g, k + 1, none⟩) HGB.out (.float .f32 l')
                exact ⟨k + 1, _, by have := HM.out; omega, by go_num, ⟨zs2, HS2.out, sa, f', l', HSA.out, by rw [← HZAB.out.1, ← HZAB.out.2]; exact .inr ⟨HEQ.out, a, a2, p, q, r, HA.out, HBB.out, HP.out, HQ.out, HR.out, .inr ⟨HGT.out, kk, t, u, v, hk', HT.out, HU.out, HF.out, HV.out, HL.out⟩⟩, rfl⟩, hO9.below (below_drewN (Below.refl _ _) _), below_drewN hB9 _⟩
              case measure => simp [intOf]; omega
          · have HEQ := Frame.hid hs
            unfold eqW at hs
            go_wp2_with fail
            go_roundw
            case rel =>
              have hO9 := OwnF.put (OwnF.put HO8.out HZ2.out.symm k 0) (by rw [List.length_set]; exact HZ2.out.symm) (k + 1) 0
              have hB9 := (HB8.out.setCell (p := ⟨g, k, none⟩) HGB.out (.float .f32 0)).setCell (p := ⟨g, k + 1, none⟩) HGB.out (.float .f32 0)
              exact ⟨k + 1, _, by have := HM.out; omega, by go_num, ⟨zs2, HS2.out, sa, 0, 0, HSA.out, .inl ⟨HEQ.out, rfl, rfl⟩, rfl⟩, hO9.below (below_drewN (Below.refl _ _) 0), below_drewN hB9 0⟩
            case measure => simp [intOf]; omega
        · obtain rfl : k = m0 := by have := HM.out; omega
          go_wp2_with fail
          go_ret
          exact ⟨_, rfl, zs2, HS2.out, HO2.out, HB2.out⟩

/-- What a call hands out. -/
def StdO (xs ys : List Nat) (vs : List Nat) (ok : Bool) : Prop := (graphB xs ys = true ∧ ∃ zs, SteadyL xs ys (xs.length - 1) (xs.length - 1) zs ∧ ok = finL zs ∧ vs = if ok then zs else []) ∨ (graphB xs ys = false ∧ ok = false ∧ vs = [])
theorem StdO.len {xs ys vs : List Nat} {ok : Bool} (h : StdO xs ys vs ok) : vs.length ≤ 256 := by
  rcases h with ⟨h1, zs, h2, h3, rfl⟩ | ⟨h1, h2, rfl⟩
  · have := graphB_len h1
    have := h2.len
    split
    · omega
    · simp
  · simp
theorem fsame_fin {a b : Nat} (h : FSame .f32 a b) (ha : fin .f32 a = true) : a = b := by
  rcases h with h | ⟨h, _⟩
  · exact h
  · rw [fin_eq, h] at ha
    simp at ha
theorem StdO.same {xs ys vs us : List Nat} {ok ok' : Bool} (h : StdO xs ys vs ok) (g : StdO xs ys us ok') : vs = us ∧ ok = ok' := by
  rcases h with ⟨h1, zs, h2, rfl, rfl⟩ | ⟨h1, rfl, rfl⟩ <;> rcases g with ⟨g1, z2, g2, rfl, rfl⟩ | ⟨g1, rfl, rfl⟩
  · have e := h2.same g2
    have ef : finL zs = finL z2 := finL_same e
    refine ⟨?_, ef⟩
    rw [← ef]
    cases hf : finL zs
    · rfl
    · rw [if_pos rfl, if_pos rfl]
      refine List.ext_getElem e.1 fun i i1 i2 => ?_
      have h3 := finL_get hf i1
      have h4 := fsame_fin (e.2 i) h3
      rw [List.getD_eq_getElem?_getD, List.getD_eq_getElem?_getD, List.getElem?_eq_getElem i1, List.getElem?_eq_getElem i2] at h4
      simpa using h4
  · rw [h1] at g1; cases g1
  · rw [h1] at g1; cases g1
  · exact ⟨rfl, rfl⟩
def StdV (xs ys : List Nat) (w : World) (e : Ending) (w' : World) : Prop := ∃ v vs ok, e = .returned (.tuple #[v, .bool ok]) ∧ StdO xs ys vs ok ∧ OwnF w' w.heap.size v vs ∧ Below w.heap.size w w'
theorem ownF_nil (w : World) (base : Nat) : OwnF w base (.slice none 0 0) [] := ⟨rfl, .inl ⟨rfl, rfl⟩⟩

set_option maxRecDepth 100000 in
set_option maxHeartbeats 1000000 in
theorem steadyV_calls (A B : Option Addr) (xs ys : List Nat) (c d : Nat) (w : World) (hn : xs.length ≤ 1048576) (hn' : ys.length ≤ 1048576) (hA : RdF w A xs) (hB : RdF w B ys) :
    Calls Try.prog 27 #[.slice A xs.length c, .slice B ys.length d] w fun e w' => StdV xs ys w e w' := by
  cases hg : graphB xs ys
  · have HGR := Frame.hid (isGraph_calls A B xs ys c d w hn hn' hA hB)
    have HG := Frame.hid hg
    clear hA hB hg
    go_enter Try.func27, Try.ntmps27
    go_wp2_with fail
    refine HGR.out.mono ?_
    rintro e w1 ⟨rfl, hB1⟩
    rw [HG.out]
    have HB1 := Frame.hid hB1
    clear hB1
    go_wp2_with fail
    go_ret2
    exact ⟨_, [], _, rfl, .inr ⟨HG.out, rfl, rfl⟩, ownF_nil _ _, HB1.out⟩
  · refine (steadySlopes_calls A B xs ys c d w hn hn' hA hB hg).mono ?_
    rintro e w1 ⟨v, zs, ok, rfl, hS, hok, hO, hv, hB1⟩
    cases ok
    · exact ⟨_, [], _, rfl, .inl ⟨hg, zs, hS, hok, rfl⟩, by rw [hv rfl]; exact ownF_nil _ _, hB1⟩
    · exact ⟨_, zs, _, rfl, .inl ⟨hg, zs, hS, hok, rfl⟩, hO rfl, hB1⟩

set_option maxRecDepth 100000 in
set_option maxHeartbeats 1000000 in
theorem specSteadyV_calls (A B : Option Addr) (xs ys : List Nat) (c d : Nat) (w : World) (hn : xs.length ≤ 1048576) (hn' : ys.length ≤ 1048576) (hA : RdF w A xs) (hB : RdF w B ys) :
    Calls Try.prog 26 #[.slice A xs.length c, .slice B ys.length d] w fun e w' => StdV xs ys w e w' := by
  have HGR := Frame.hid (l05Graph_calls A B xs ys c d w hn hn' hA hB)
  cases hg : graphB xs ys
  · have HG := Frame.hid hg
    clear hA hB hg
    go_enter Try.func26, Try.ntmps26
    go_wp2_with fail
    refine HGR.out.mono ?_
    rintro e w1 ⟨rfl, m, rfl⟩
    rw [HG.out]
    go_wp2_with fail
    go_ret2
    exact ⟨_, [], _, rfl, .inr ⟨HG.out, rfl, rfl⟩, ownF_nil _ _, below_drewN (Below.refl _ _) _⟩
  · have HG := Frame.hid hg
    obtain ⟨h2, h48, hyl⟩ := graphB_len hg
    obtain ⟨b, off, rfl, hb, hx⟩ := hA (by omega)
    obtain ⟨b2, off2, rfl, hb2, hy⟩ := hB (by omega)
    obtain ⟨m0, hm⟩ : ∃ m0, xs.length = m0 + 1 := ⟨xs.length - 1, by omega⟩
    obtain ⟨ml, hml⟩ : ∃ ml, m0 = ml + 1 := ⟨m0 - 1, by omega⟩
    obtain ⟨n, hnx⟩ : ∃ n, n = xs.length := ⟨_, rfl⟩
    have hny : ys.length = n := by omega
    have HST := Frame.hid (fun (W : World) (hW : Below w.heap.size w W) => l05Steady_calls b off c b2 off2 d n m0 ml xs ys (by omega) (by omega) hml W ⟨fun j hj => (hW.cell (p := ⟨b, off + j, none⟩) hb).trans (hx j (by omega)), fun j hj => (hW.cell (p := ⟨b2, off2 + j, none⟩) hb2).trans (hy j (by omega)), Nat.lt_of_lt_of_le hb hW.size, Nat.lt_of_lt_of_le hb2 hW.size⟩)
    rw [← hnx, hny] at HGR ⊢
    have HN := Frame.hid (And.intro hnx (And.intro hm h48))
    clear hA hB hg hx hy hm hml hnx hny h2 h48 hyl hn hn' hb hb2
    go_enter Try.func26, Try.ntmps26
    go_wp2_with fail
    refine HGR.out.mono ?_
    rintro e w1 ⟨rfl, m, rfl⟩
    rw [HG.out]
    go_wp2_with fail
    refine (HST.out _ (below_drewN (Below.refl _ _) _)).mono ?_
    rintro e w2 ⟨v, zs, rfl, hS, hO, hB2⟩
    have HS := Frame.hid hS
    have HO := Frame.hid hO
    have HB2 := Frame.hid ((below_drewN (Below.refl _ _) m).trans hB2)
    obtain ⟨A2, c2, rfl, hr2⟩ := hO.reads
    have hzl : zs.length ≤ 1048576 := by have := hS.len; have := HN.out; omega
    have hSx : SteadyL xs ys (xs.length - 1) (xs.length - 1) zs := by rw [HN.out.2.1]; exact hS
    have HSX := Frame.hid hSx
    clear hS hO hB2 hSx
    go_wp2_with fail
    refine (l02Fin_calls _ zs _ _ hzl hr2).mono ?_
    rintro e w3 ⟨rfl, m3, rfl⟩
    clear hr2 hzl
    cases hf : finL zs
    · have HF := Frame.hid hf
      clear hf
      go_wp2_with fail
      go_ret2
      exact ⟨_, [], _, rfl, .inl ⟨HG.out, zs, HSX.out, HF.out.symm, rfl⟩, ownF_nil _ _, below_drewN HB2.out _⟩
    · have HF := Frame.hid hf
      clear hf
      go_wp2_with fail
      go_ret2
      exact ⟨_, zs, _, rfl, .inl ⟨HG.out, zs, HSX.out, HF.out.symm, rfl⟩, HO.out.below (below_drewN (Below.refl _ _) _), below_drewN HB2.out _⟩

end Go.Proofs.Ytfkdkdocbecjmaa
