/-
  NaturalBends: the specification's side.
-/
import Derived.Test.YtfkdkdocbecjmaaC4
namespace Go.Proofs.Ytfkdkdocbecjmaa
open Go.RowKit Fl Go.WideShapes Go.Deep
attribute [local go_sem] kstore_f kalloc_drewN kset_drewN

theorem OwnF.aside {W : World} {base g n cap g2 : Nat} {ys : List Nat} (h : OwnF W base (.slice (some ⟨g, 0, none⟩) n cap) ys) (hne : g ≠ g2) (j : Nat) (v : Value) : OwnF (W.setCell ⟨g2, j, none⟩ v) base (.slice (some ⟨g, 0, none⟩) n cap) ys := by
  refine ⟨h.1, ?_⟩
  rcases h.2 with h0 | ⟨g', cp, cur, hv, hb, hh, rest⟩
  · exact .inl h0
  · refine .inr ⟨g', cp, cur, hv, hb, ?_, rest⟩
    have e : g = g' := by injection hv with hv; injection hv with hv; injection hv
    subst e
    rw [Below.heap_setCell _ _ _ _ (by simpa using hne)]
    exact hh
/-- Both lists, where they lie. -/
structure MrW (w : World) (n g1 g2 : Nat) (ms rs : List Nat) (W : World) : Prop where
  own1 : OwnF W w.heap.size (.slice (some ⟨g1, 0, none⟩) n n) ms
  own2 : OwnF W w.heap.size (.slice (some ⟨g2, 0, none⟩) n n) rs
  l1 : ms.length = n
  l2 : rs.length = n
  ne : g1 ≠ g2
  bel : Below w.heap.size w W
theorem MrW.below {w W W' : World} {n g1 g2 : Nat} {ms rs : List Nat} (h : MrW w n g1 g2 ms rs W) (hB : Below W.heap.size W W') : MrW w n g1 g2 ms rs W' := ⟨h.own1.below hB, h.own2.below hB, h.l1, h.l2, h.ne, h.bel.trans (hB.mono h.bel.size)⟩
theorem MrW.drewN {w W : World} {n g1 g2 : Nat} {ms rs : List Nat} (h : MrW w n g1 g2 ms rs W) (k : Nat) : MrW w n g1 g2 ms rs (W.drewN k) := h.below (below_drewN (Below.refl _ _) k)
theorem MrW.le1 {w W : World} {n g1 g2 : Nat} {ms rs : List Nat} (h : MrW w n g1 g2 ms rs W) : w.heap.size ≤ g1 := (World.ownsRow.lt h.own1 g1 rfl).1
theorem MrW.le2 {w W : World} {n g1 g2 : Nat} {ms rs : List Nat} (h : MrW w n g1 g2 ms rs W) : w.heap.size ≤ g2 := (World.ownsRow.lt h.own2 g2 rfl).1
theorem MrW.put1 {w W : World} {n g1 g2 : Nat} {ms rs : List Nat} (h : MrW w n g1 g2 ms rs W) (j r : Nat) : MrW w n g1 g2 (ms.set j r) rs (W.setCell ⟨g1, j, none⟩ (.float .f32 r)) :=
  ⟨h.own1.put h.l1.symm j r, h.own2.aside h.ne.symm j _, by rw [List.length_set]; exact h.l1, h.l2, h.ne, h.bel.setCell (p := ⟨g1, j, none⟩) h.le1 _⟩
theorem MrW.put2 {w W : World} {n g1 g2 : Nat} {ms rs : List Nat} (h : MrW w n g1 g2 ms rs W) (j r : Nat) : MrW w n g1 g2 ms (rs.set j r) (W.setCell ⟨g2, j, none⟩ (.float .f32 r)) :=
  ⟨h.own1.aside h.ne j _, h.own2.put h.l2.symm j r, h.l1, by rw [List.length_set]; exact h.l2, h.ne, h.bel.setCell (p := ⟨g2, j, none⟩) h.le2 _⟩
theorem MrW.c1 {w W : World} {n g1 g2 : Nat} {ms rs : List Nat} (h : MrW w n g1 g2 ms rs W) {j : Nat} (hj : j < n) : W.cell? ⟨g1, j, none⟩ = some (.float .f32 (ms.getD j 0)) := h.own1.cell h.l1.symm (by rw [h.l1]; exact hj)
theorem MrW.c2 {w W : World} {n g1 g2 : Nat} {ms rs : List Nat} (h : MrW w n g1 g2 ms rs W) {j : Nat} (hj : j < n) : W.cell? ⟨g2, j, none⟩ = some (.float .f32 (rs.getD j 0)) := h.own2.cell h.l2.symm (by rw [h.l2]; exact hj)
theorem MrW.f1 {w W : World} {n g1 g2 : Nat} {ms rs : List Nat} (h : MrW w n g1 g2 ms rs W) (j : Nat) : W.frozen? ⟨g1, j, none⟩ = false := h.own1.froz h.l1.symm j
theorem MrW.f2 {w W : World} {n g1 g2 : Nat} {ms rs : List Nat} (h : MrW w n g1 g2 ms rs W) (j : Nat) : W.frozen? ⟨g2, j, none⟩ = false := h.own2.froz h.l2.symm j
/-- The rows up to the place j. -/
def ElimL (xs ys : List Nat) (j : Nat) (ms rs : List Nat) : Prop := ∀ p, 1 ≤ p → p < j → ElimR xs ys (p - 1) (ms.getD p 0) (rs.getD p 0)
theorem ElimL.step {xs ys : List Nat} {j m r : Nat} {ms rs : List Nat} (h : ElimL xs ys j ms rs) (h1 : j < ms.length) (h2 : j < rs.length) (he : ElimR xs ys (j - 1) m r) : ElimL xs ys (j + 1) (ms.set j m) (rs.set j r) := by
  intro p hp hpj
  by_cases e : p = j
  · subst e
    rw [getD_set_self h1, getD_set_self h2]
    exact he
  · rw [getD_set_ne (by omega), getD_set_ne (by omega)]
    exact h p hp (by omega)
theorem ElimL.step2 {xs ys : List Nat} {j m m' r r' : Nat} {ms rs : List Nat} (h : ElimL xs ys j ms rs) (h1 : j < ms.length) (h2 : j < rs.length) (he : ElimR xs ys (j - 1) m r) : ElimL xs ys (j + 1) ((ms.set j m').set j m) ((rs.set j r').set j r) := by
  rw [List.set_set, List.set_set]
  exact h.step h1 h2 he
def OutL (xs ys : List Nat) (N p : Nat) (us : List Nat) : Prop := us.length = N + 2 ∧ us.getD 0 0 = 0 ∧ us.getD (N + 1) 0 = 0 ∧ ∀ i, p < i → i ≤ N → BendR xs ys N (N - i) (us.getD i 0)
theorem OutL.step {xs ys : List Nat} {N p b : Nat} {us : List Nat} (h : OutL xs ys N (p + 1) us) (hp : p + 1 ≤ N) (hb : BendR xs ys N (N - (p + 1)) b) : OutL xs ys N p (us.set (p + 1) b) := by
  obtain ⟨h1, h2, h3, h4⟩ := h
  refine ⟨by rw [List.length_set]; exact h1, by rw [getD_set_ne (by omega)]; exact h2, by rw [getD_set_ne (by omega)]; exact h3, fun i hi hiN => ?_⟩
  by_cases e : i = p + 1
  · subst e
    rw [getD_set_self (by omega)]
    exact hb
  · rw [getD_set_ne (by omega)]
    exact h4 i (by omega) hiN
theorem OutL.nat {xs ys : List Nat} {N : Nat} {us : List Nat} (h : OutL xs ys N 0 us) : NatL xs ys N us :=
  ⟨h.1, h.2.1, h.2.2.1, fun i hi => by have := h.2.2.2 (i + 1) (by omega) (by omega); rwa [show N - (i + 1) = N - 1 - i by omega] at this⟩

theorem bend_top {xs ys : List Nat} {ml p p0 mp rp b : Nat} (hp : p = p0 + 1) (hl : ¬ (p + 2 < ml + 2)) (hle : p ≤ ml) (he : ElimR xs ys p0 mp rp) (hb : FOp .quo .f32 rp mp b) : BendR xs ys ml (ml - p) b := by
  rw [show ml - p = 0 by omega]
  exact ⟨mp, rp, by rw [show ml - 1 = p0 by omega]; exact he, hb⟩
theorem bend_low {xs ys : List Nat} {ml p p0 mp rp b h t u b' : Nat} (hp : p = p0 + 1) (hl : p + 2 < ml + 2) (he : ElimR xs ys p0 mp rp) (hB : BendR xs ys ml (ml - (p + 1)) b') (hw : WdR xs p h) (ht : FOp .mul .f32 h b' t) (hu : FOp .sub .f32 rp t u) (hb : FOp .quo .f32 u mp b) : BendR xs ys ml (ml - p) b := by
  obtain ⟨j, hj⟩ : ∃ j, ml - p = j + 1 := ⟨ml - p - 1, by omega⟩
  rw [hj]
  rw [show ml - (p + 1) = j by omega] at hB
  exact ⟨b', mp, rp, h, t, u, hB, by rw [show ml - 1 - (j + 1) = p0 by omega]; exact he, by rw [show ml - 1 - (j + 1) + 1 = p by omega]; exact hw, ht, hu, hb⟩

set_option maxRecDepth 100000 in
set_option maxHeartbeats 8000000 in
theorem l05Bends_calls (b off c b2 off2 d n m0 ml : Nat) (xs ys : List Nat) (hn : n ≤ 48) (hm : n = m0 + 1) (hml : m0 = ml + 1) (w : World) (hG : GrW xs ys n b off b2 off2 w) :
    Calls Try.prog 51 #[.slice (some ⟨b, off, none⟩) n c, .slice (some ⟨b2, off2, none⟩) n d] w fun e w' => ∃ v zs, e = .returned v ∧ NatL xs ys ml zs ∧ OwnF w' w.heap.size v zs ∧ Below w.heap.size w w' := by
  obtain ⟨i0, hi, hz0, hz1, hz2⟩ := info_parts infoF6
  have hb := hG.2.2
  have HX := Frame.hid (fun (W : World) (hW : Below w.heap.size w W) (j : Nat) (hj : j < n) => (hG.keep hW hb.1 hb.2).1 j hj)
  have HSLP := Frame.hid (fun (W : World) (hW : Below w.heap.size w W) (i : Nat) (hi : i + 1 < n) => l05Slope_calls b off c b2 off2 d n i xs ys (by omega) hi W (hG.keep hW hb.1 hb.2))
  have HM := Frame.hid hm
  have HML := Frame.hid hml
  clear hG hm hml
  go_enter Try.func51, Try.ntmps51
  go_wp2_with (at_make; refine wpList_make_full _ rfl _ _ 44 rfl w.heap.size 25 i0 (.float .f32 0) 1 Try.underlying44 hi hz0 hz1 _ _ _ _ n rfl rfl rfl rfl ?c1 ?c2 ?c3 ?_)
  case c1 => rw [hz2]; omega
  case c2 => unfold maxLen; omega
  case c3 => simp
  intro w1 hown1 hgrow1
  have ez : (madeCells #[Value.float .f32 0] n).toList = fl (List.replicate n 0) := by
    unfold fl
    rw [List.map_replicate]
    exact toList_madeCells_one _ _
  have HEZ := Frame.hid ez
  rw [ez] at hown1
  have hO1 : OwnF w1 w.heap.size (.slice (some ⟨w.heap.size, 0, none⟩) n n) (List.replicate n 0) := by
    show w1.ownsRow _ _ _ _ _ _
    rw [List.length_replicate]
    exact hown1
  have hB1 : Below w.heap.size w w1 := (Below.refl _ _).grown hgrow1 (Nat.le_refl _) (by simp)
  have hlt1 := (World.ownsRow.lt hown1 _ rfl).2
  obtain ⟨g1, hg1⟩ : ∃ g, g = w.heap.size := ⟨_, rfl⟩
  have HO1 : Hid (OwnF w1 w.heap.size (.slice (some ⟨g1, 0, none⟩) n n) (List.replicate n 0)) := by rw [hg1]; exact hO1
  rw [← hg1]
  have hg1' : g1 < w1.heap.size := by rw [hg1]; exact hlt1
  have HB1 := Frame.hid hB1
  have hsw1 := hB1.size
  clear hown1 hgrow1 hO1 hB1 hlt1 hg1 ez
  go_wp2_with (at_make; refine wpList_make_full _ rfl _ _ 44 rfl w.heap.size 25 i0 (.float .f32 0) 1 Try.underlying44 hi hz0 hz1 _ _ _ _ n rfl rfl rfl rfl ?c1 ?c2 ?c3 ?_)
  case c1 => rw [hz2]; omega
  case c2 => unfold maxLen; omega
  case c3 => exact hsw1
  intro w2 hown2 hgrow2
  rw [HEZ.out] at hown2
  have hBg : Below w1.heap.size w1 w2 := (Below.refl _ _).grown hgrow2 (Nat.le_refl _) (by simp)
  obtain ⟨g2, hg2⟩ : ∃ g, g = w1.heap.size := ⟨_, rfl⟩
  rw [← hg2] at hown2 ⊢
  have hMR : MrW w n g1 g2 (List.replicate n 0) (List.replicate n 0) w2 := by
    refine ⟨HO1.out.below hBg, ?_, by simp, by simp, by omega, HB1.out.trans (hBg.mono hsw1)⟩
    show w2.ownsRow _ _ _ _ _ _
    rw [List.length_replicate]
    exact hown2
  have HMR := Frame.hid hMR
  clear hown2 hgrow2 hBg hg2 HO1 hMR HB1 hsw1 hg1'
  go_wp2_with fail
  go_loopw [8] (fun i wr => ∃ (j : Nat) (ms rs : List Nat), 1 ≤ j ∧ j ≤ m0 ∧ i = .int .i64 j ∧ ElimL xs ys j ms rs ∧ MrW w n g1 g2 ms rs wr) (fun i _ => n - (intOf i).toNat)
  case atStart => exact ⟨1, _, _, Nat.le_refl _, by have := HML.out; omega, rfl, fun p h1 h2 => by omega, HMR.out⟩
  case round =>
    obtain ⟨j, ms, rs, hj1, hjm, rfl, hE, hS⟩ := hrel
    have HE := Frame.hid hE
    have HS := Frame.hid hS
    clear hE hS HMR
    have hj47 : j ≤ 47 := by have := HM.out; omega
    have hwj : IntKind.i64.wrap ((j : Int) + 1) = (j : Int) + 1 := by rw [IntKind.wrap_i64]; omega
    by_cases hlt : (j : Int) + 1 < (n : Int)
    · obtain ⟨k, hk⟩ : ∃ k, j = k + 1 := ⟨j - 1, by omega⟩
      have hwk : IntKind.i64.wrap ((j : Int) - 1) = (k : Int) := by rw [IntKind.wrap_i64]; omega
      have hjn : (j : Int) < (n : Int) := by omega
      have hkn : (k : Int) < (n : Int) := by omega
      have hj2 : (0 : Int) ≤ (j : Int) + 1 := by omega
      have hj3 : ((j : Int) + 1).toNat = j + 1 := by omega
      have HK := Frame.hid hk
      have x0 := HX.out wr HS.out.bel k (by omega)
      have x1 := HX.out wr HS.out.bel j (by omega)
      have x2 := HX.out wr HS.out.bel (j + 1) (by omega)
      obtain ⟨u0, hu0⟩ : ∃ u, u = xs.getD k 0 := ⟨_, rfl⟩
      obtain ⟨u1, hu1⟩ : ∃ u, u = xs.getD j 0 := ⟨_, rfl⟩
      obtain ⟨u2, hu2⟩ : ∃ u, u = xs.getD (j + 1) 0 := ⟨_, rfl⟩
      rw [← hu0] at x0
      rw [← hu1] at x1
      rw [← hu2] at x2
      have HU := Frame.hid (And.intro hu0 (And.intro hu1 hu2))
      have HXC := Frame.hid (And.intro x0 (And.intro x1 x2))
      clear hk hu0 hu1 hu2 x0 x1 x2
      go_wp2_with fail
      have hCe : ∃ W', ∃ q, W' = wr.drewN q := ⟨wr, 0, rfl⟩
      have hCd : ∀ W' nn, (∃ q, W' = wr.drewN q) → ∃ q, W'.drewN nn = wr.drewN q := fun W' nn ⟨q, hq⟩ => ⟨q + nn, by rw [hq]; exact World.drewN_drewN _ _ _⟩
      refine region_may_n 10 (fun W' => ∃ q, W' = wr.drewN q) RelNo rfl (by kernel_rfl) (by kernel_rfl) (hCd _ 1 ⟨0, rfl⟩) ?_
      refine' rC_read hCe (Or.inl ⟨by rfl, fun wq hSq => _⟩) _
      rotate_left
      · obtain ⟨kq, rfl⟩ := hSq; have q0 : (wr.drewN kq).cell? ⟨b, off + k, none⟩ = some (.float .f32 u0) := HXC.out.1; have q1 : (wr.drewN kq).cell? ⟨b, off + j, none⟩ = some (.float .f32 u1) := HXC.out.2.1; have q2 : (wr.drewN kq).cell? ⟨b, off + (j + 1), none⟩ = some (.float .f32 u2) := HXC.out.2.2
        go_simp
        try with_reducible rfl
      simp only [Act.put, List.setIfInBounds_toArray, List.set_cons_zero, List.set_cons_succ]
      refine' rC_read hCe (Or.inl ⟨by rfl, fun wq hSq => _⟩) _
      rotate_left
      · obtain ⟨kq, rfl⟩ := hSq; have q0 : (wr.drewN kq).cell? ⟨b, off + k, none⟩ = some (.float .f32 u0) := HXC.out.1; have q1 : (wr.drewN kq).cell? ⟨b, off + j, none⟩ = some (.float .f32 u1) := HXC.out.2.1; have q2 : (wr.drewN kq).cell? ⟨b, off + (j + 1), none⟩ = some (.float .f32 u2) := HXC.out.2.2
        go_simp
        try with_reducible rfl
      simp only [Act.put, List.setIfInBounds_toArray, List.set_cons_zero, List.set_cons_succ]
      refine' rC_read hCe (Or.inl ⟨by rfl, fun wq hSq => _⟩) _
      rotate_left
      · obtain ⟨kq, rfl⟩ := hSq; have q0 : (wr.drewN kq).cell? ⟨b, off + k, none⟩ = some (.float .f32 u0) := HXC.out.1; have q1 : (wr.drewN kq).cell? ⟨b, off + j, none⟩ = some (.float .f32 u1) := HXC.out.2.1; have q2 : (wr.drewN kq).cell? ⟨b, off + (j + 1), none⟩ = some (.float .f32 u2) := HXC.out.2.2
        go_simp
        try with_reducible rfl
      simp only [Act.put, List.setIfInBounds_toArray, List.set_cons_zero, List.set_cons_succ]
      refine' rC_read hCe (Or.inl ⟨by rfl, fun wq hSq => _⟩) _
      rotate_left
      · obtain ⟨kq, rfl⟩ := hSq; have q0 : (wr.drewN kq).cell? ⟨b, off + k, none⟩ = some (.float .f32 u0) := HXC.out.1; have q1 : (wr.drewN kq).cell? ⟨b, off + j, none⟩ = some (.float .f32 u1) := HXC.out.2.1; have q2 : (wr.drewN kq).cell? ⟨b, off + (j + 1), none⟩ = some (.float .f32 u2) := HXC.out.2.2
        go_simp
        try with_reducible rfl
      simp only [Act.put, List.setIfInBounds_toArray, List.set_cons_zero, List.set_cons_succ]
      refine' rC_read hCe (Or.inl ⟨by rfl, fun wq hSq => _⟩) _
      rotate_left
      · obtain ⟨kq, rfl⟩ := hSq; have q0 : (wr.drewN kq).cell? ⟨b, off + k, none⟩ = some (.float .f32 u0) := HXC.out.1; have q1 : (wr.drewN kq).cell? ⟨b, off + j, none⟩ = some (.float .f32 u1) := HXC.out.2.1; have q2 : (wr.drewN kq).cell? ⟨b, off + (j + 1), none⟩ = some (.float .f32 u2) := HXC.out.2.2
        go_simp
        try with_reducible rfl
      simp only [Act.put, List.setIfInBounds_toArray, List.set_cons_zero, List.set_cons_succ]
      refine' rC_read hCe (Or.inl ⟨by rfl, fun wq hSq => _⟩) _
      rotate_left
      · obtain ⟨kq, rfl⟩ := hSq; have q0 : (wr.drewN kq).cell? ⟨b, off + k, none⟩ = some (.float .f32 u0) := HXC.out.1; have q1 : (wr.drewN kq).cell? ⟨b, off + j, none⟩ = some (.float .f32 u1) := HXC.out.2.1; have q2 : (wr.drewN kq).cell? ⟨b, off + (j + 1), none⟩ = some (.float .f32 u2) := HXC.out.2.2
        go_simp
        try with_reducible rfl
      simp only [Act.put, List.setIfInBounds_toArray, List.set_cons_zero, List.set_cons_succ]
      refine' rC_read hCe (Or.inl ⟨by rfl, fun wq hSq => _⟩) _
      rotate_left
      · obtain ⟨kq, rfl⟩ := hSq; have q0 : (wr.drewN kq).cell? ⟨b, off + k, none⟩ = some (.float .f32 u0) := HXC.out.1; have q1 : (wr.drewN kq).cell? ⟨b, off + j, none⟩ = some (.float .f32 u1) := HXC.out.2.1; have q2 : (wr.drewN kq).cell? ⟨b, off + (j + 1), none⟩ = some (.float .f32 u2) := HXC.out.2.2
        go_simp
        try with_reducible rfl
      simp only [Act.put, List.setIfInBounds_toArray, List.set_cons_zero, List.set_cons_succ]
      refine' rC_read hCe (Or.inl ⟨by rfl, fun wq hSq => _⟩) _
      rotate_left
      · obtain ⟨kq, rfl⟩ := hSq; have q0 : (wr.drewN kq).cell? ⟨b, off + k, none⟩ = some (.float .f32 u0) := HXC.out.1; have q1 : (wr.drewN kq).cell? ⟨b, off + j, none⟩ = some (.float .f32 u1) := HXC.out.2.1; have q2 : (wr.drewN kq).cell? ⟨b, off + (j + 1), none⟩ = some (.float .f32 u2) := HXC.out.2.2
        go_simp
        try with_reducible rfl
      simp only [Act.put, List.setIfInBounds_toArray, List.set_cons_zero, List.set_cons_succ]
      refine' rC_read hCe (Or.inl ⟨by rfl, fun wq hSq => _⟩) _
      rotate_left
      · obtain ⟨kq, rfl⟩ := hSq; have q0 : (wr.drewN kq).cell? ⟨b, off + k, none⟩ = some (.float .f32 u0) := HXC.out.1; have q1 : (wr.drewN kq).cell? ⟨b, off + j, none⟩ = some (.float .f32 u1) := HXC.out.2.1; have q2 : (wr.drewN kq).cell? ⟨b, off + (j + 1), none⟩ = some (.float .f32 u2) := HXC.out.2.2
        go_simp
        try with_reducible rfl
      simp only [Act.put, List.setIfInBounds_toArray, List.set_cons_zero, List.set_cons_succ]
      refine rC_arith hCe hCd rfl _ _ _ _ _ rfl rfl _ _ _ rfl rfl ?_
      intro be h_be
      simp only [Act.put, List.setIfInBounds_toArray, List.set_cons_zero, List.set_cons_succ]
      have HBE := Frame.hid h_be
      clear h_be
      refine rC_nil (fun w_ hw_ => ?_)
      obtain ⟨q_, rfl⟩ := hw_
      refine wpTail_cons (fun K hK => ?_)
      go_simp
      refine hK.out _ _ (.inl rfl) ?_
      clear hK K
      refine wpTail_done ?_
      clear hCe hCd
      go_wp2_with fail
      have hCe : ∃ W', ∃ q, W' = wr.drewN q := ⟨wr, 0, rfl⟩
      have hCd : ∀ W' nn, (∃ q, W' = wr.drewN q) → ∃ q, W'.drewN nn = wr.drewN q := fun W' nn ⟨q, hq⟩ => ⟨q + nn, by rw [hq]; exact World.drewN_drewN _ _ _⟩
      refine region_may_n 10 (fun W' => ∃ q, W' = wr.drewN q) RelNo rfl (by kernel_rfl) (by kernel_rfl) (hCd _ 1 ⟨q_, rfl⟩) ?_
      refine' rC_read hCe (Or.inl ⟨by rfl, fun wq hSq => _⟩) _
      rotate_left
      · obtain ⟨kq, rfl⟩ := hSq; have q0 : (wr.drewN kq).cell? ⟨b, off + k, none⟩ = some (.float .f32 u0) := HXC.out.1; have q1 : (wr.drewN kq).cell? ⟨b, off + j, none⟩ = some (.float .f32 u1) := HXC.out.2.1; have q2 : (wr.drewN kq).cell? ⟨b, off + (j + 1), none⟩ = some (.float .f32 u2) := HXC.out.2.2
        go_simp
        try with_reducible rfl
      simp only [Act.put, List.setIfInBounds_toArray, List.set_cons_zero, List.set_cons_succ]
      refine' rC_read hCe (Or.inl ⟨by rfl, fun wq hSq => _⟩) _
      rotate_left
      · obtain ⟨kq, rfl⟩ := hSq; have q0 : (wr.drewN kq).cell? ⟨b, off + k, none⟩ = some (.float .f32 u0) := HXC.out.1; have q1 : (wr.drewN kq).cell? ⟨b, off + j, none⟩ = some (.float .f32 u1) := HXC.out.2.1; have q2 : (wr.drewN kq).cell? ⟨b, off + (j + 1), none⟩ = some (.float .f32 u2) := HXC.out.2.2
        go_simp
        try with_reducible rfl
      simp only [Act.put, List.setIfInBounds_toArray, List.set_cons_zero, List.set_cons_succ]
      refine' rC_read hCe (Or.inl ⟨by rfl, fun wq hSq => _⟩) _
      rotate_left
      · obtain ⟨kq, rfl⟩ := hSq; have q0 : (wr.drewN kq).cell? ⟨b, off + k, none⟩ = some (.float .f32 u0) := HXC.out.1; have q1 : (wr.drewN kq).cell? ⟨b, off + j, none⟩ = some (.float .f32 u1) := HXC.out.2.1; have q2 : (wr.drewN kq).cell? ⟨b, off + (j + 1), none⟩ = some (.float .f32 u2) := HXC.out.2.2
        go_simp
        try with_reducible rfl
      simp only [Act.put, List.setIfInBounds_toArray, List.set_cons_zero, List.set_cons_succ]
      refine' rC_read hCe (Or.inl ⟨by rfl, fun wq hSq => _⟩) _
      rotate_left
      · obtain ⟨kq, rfl⟩ := hSq; have q0 : (wr.drewN kq).cell? ⟨b, off + k, none⟩ = some (.float .f32 u0) := HXC.out.1; have q1 : (wr.drewN kq).cell? ⟨b, off + j, none⟩ = some (.float .f32 u1) := HXC.out.2.1; have q2 : (wr.drewN kq).cell? ⟨b, off + (j + 1), none⟩ = some (.float .f32 u2) := HXC.out.2.2
        go_simp
        try with_reducible rfl
      simp only [Act.put, List.setIfInBounds_toArray, List.set_cons_zero, List.set_cons_succ]
      refine' rC_read hCe (Or.inl ⟨by rfl, fun wq hSq => _⟩) _
      rotate_left
      · obtain ⟨kq, rfl⟩ := hSq; have q0 : (wr.drewN kq).cell? ⟨b, off + k, none⟩ = some (.float .f32 u0) := HXC.out.1; have q1 : (wr.drewN kq).cell? ⟨b, off + j, none⟩ = some (.float .f32 u1) := HXC.out.2.1; have q2 : (wr.drewN kq).cell? ⟨b, off + (j + 1), none⟩ = some (.float .f32 u2) := HXC.out.2.2
        go_simp
        try with_reducible rfl
      simp only [Act.put, List.setIfInBounds_toArray, List.set_cons_zero, List.set_cons_succ]
      refine' rC_read hCe (Or.inl ⟨by rfl, fun wq hSq => _⟩) _
      rotate_left
      · obtain ⟨kq, rfl⟩ := hSq; have q0 : (wr.drewN kq).cell? ⟨b, off + k, none⟩ = some (.float .f32 u0) := HXC.out.1; have q1 : (wr.drewN kq).cell? ⟨b, off + j, none⟩ = some (.float .f32 u1) := HXC.out.2.1; have q2 : (wr.drewN kq).cell? ⟨b, off + (j + 1), none⟩ = some (.float .f32 u2) := HXC.out.2.2
        go_simp
        try with_reducible rfl
      simp only [Act.put, List.setIfInBounds_toArray, List.set_cons_zero, List.set_cons_succ]
      refine' rC_read hCe (Or.inl ⟨by rfl, fun wq hSq => _⟩) _
      rotate_left
      · obtain ⟨kq, rfl⟩ := hSq; have q0 : (wr.drewN kq).cell? ⟨b, off + k, none⟩ = some (.float .f32 u0) := HXC.out.1; have q1 : (wr.drewN kq).cell? ⟨b, off + j, none⟩ = some (.float .f32 u1) := HXC.out.2.1; have q2 : (wr.drewN kq).cell? ⟨b, off + (j + 1), none⟩ = some (.float .f32 u2) := HXC.out.2.2
        go_simp
        try with_reducible rfl
      simp only [Act.put, List.setIfInBounds_toArray, List.set_cons_zero, List.set_cons_succ]
      refine' rC_read hCe (Or.inl ⟨by rfl, fun wq hSq => _⟩) _
      rotate_left
      · obtain ⟨kq, rfl⟩ := hSq; have q0 : (wr.drewN kq).cell? ⟨b, off + k, none⟩ = some (.float .f32 u0) := HXC.out.1; have q1 : (wr.drewN kq).cell? ⟨b, off + j, none⟩ = some (.float .f32 u1) := HXC.out.2.1; have q2 : (wr.drewN kq).cell? ⟨b, off + (j + 1), none⟩ = some (.float .f32 u2) := HXC.out.2.2
        go_simp
        try with_reducible rfl
      simp only [Act.put, List.setIfInBounds_toArray, List.set_cons_zero, List.set_cons_succ]
      refine' rC_read hCe (Or.inl ⟨by rfl, fun wq hSq => _⟩) _
      rotate_left
      · obtain ⟨kq, rfl⟩ := hSq; have q0 : (wr.drewN kq).cell? ⟨b, off + k, none⟩ = some (.float .f32 u0) := HXC.out.1; have q1 : (wr.drewN kq).cell? ⟨b, off + j, none⟩ = some (.float .f32 u1) := HXC.out.2.1; have q2 : (wr.drewN kq).cell? ⟨b, off + (j + 1), none⟩ = some (.float .f32 u2) := HXC.out.2.2
        go_simp
        try with_reducible rfl
      simp only [Act.put, List.setIfInBounds_toArray, List.set_cons_zero, List.set_cons_succ]
      refine rC_arith hCe hCd rfl _ _ _ _ _ rfl rfl _ _ _ rfl rfl ?_
      intro bh h_bh
      simp only [Act.put, List.setIfInBounds_toArray, List.set_cons_zero, List.set_cons_succ]
      have HBH := Frame.hid h_bh
      clear h_bh
      refine rC_nil (fun w_ hw_ => ?_)
      obtain ⟨q_, rfl⟩ := hw_
      refine wpTail_cons (fun K hK => ?_)
      go_simp
      refine hK.out _ _ (.inl rfl) ?_
      clear hK K
      refine wpTail_done ?_
      clear hCe hCd
      have HS3 := Frame.hid (HS.out.drewN q_)
      generalize wr.drewN q_ = w3 at HS3 ⊢
      clear HS HXC
      go_wp2_with fail
      refine upon_arith _ _ _ _ _ rfl ?_
      intro sm n_sm h_sm _
      have HSM := Frame.hid h_sm
      clear h_sm
      go_wp2_with fail
      refine upon_arith _ _ _ _ _ rfl ?_
      intro mj n_mj h_mj _
      have HMJ := Frame.hid h_mj
      clear h_mj
      have HS4 := Frame.hid ((HS3.out.drewN n_sm).drewN n_mj)
      generalize (w3.drewN n_sm).drewN n_mj = w4 at HS4 ⊢
      clear HS3
      have c4 := HS4.out.c1 (j := j) (by omega)
      have f4 := HS4.out.f1 j
      generalize ms.getD j 0 = z4 at c4
      have HS5 := Frame.hid (HS4.out.put1 j mj)
      go_wp2_with fail
      refine (HSLP.out _ HS5.out.bel j (by omega)).mono ?_
      rintro e w6 ⟨s1, rfl, hs1, hB6⟩
      have HS6 := Frame.hid (HS5.out.below hB6)
      have HSL1 := Frame.hid hs1
      clear hs1 hB6 HS5 HS4 c4 f4
      go_wp2_with fail
      refine (HSLP.out _ HS6.out.bel k (by have := HK.out; omega)).mono ?_
      rintro e w7 ⟨s0, rfl, hs0, hB7⟩
      have HS7 := Frame.hid (HS6.out.below hB7)
      have HSL0 := Frame.hid hs0
      clear hs0 hB7 HS6
      go_wp2_with fail
      refine upon_arith _ _ _ _ _ rfl ?_
      intro df n_df h_df _
      have HDF := Frame.hid h_df
      clear h_df
      go_wp2_with fail
      refine upon_arith _ _ _ _ _ rfl ?_
      intro rj n_rj h_rj _
      have HRJ := Frame.hid h_rj
      clear h_rj
      have HS8 := Frame.hid ((HS7.out.drewN n_df).drewN n_rj)
      generalize (w7.drewN n_df).drewN n_rj = w8 at HS8 ⊢
      clear HS7
      have c8 := HS8.out.c2 (j := j) (by omega)
      have f8 := HS8.out.f2 j
      generalize rs.getD j 0 = z8 at c8
      have HS9 := Frame.hid (HS8.out.put2 j rj)
      have HRAW : Hid (WdR xs k be ∧ WdR xs (k + 1) bh ∧ RawA xs k mj ∧ RawR xs ys k rj) := by
        have hk := HK.out
        obtain ⟨e0, e1, e2⟩ := HU.out
        have h1 : WdR xs k be := by have h := HBE.out; rw [e0, e1, hk] at h; exact h
        have h2 : WdR xs (k + 1) bh := by have h := HBH.out; rw [e1, e2, hk] at h; exact h
        exact ⟨h1, h2, ⟨be, bh, sm, h1, h2, HSM.out, HMJ.out⟩, s0, s1, df, HSL0.out, by rw [← hk]; exact HSL1.out, HDF.out, HRJ.out⟩
      clear HBE HBH HSM HMJ HSL0 HSL1 HDF HRJ HU
      by_cases hgt : j = 1
      · have HG1 := Frame.hid hgt
        have hgi : ¬ ((1 : Int) < (j : Int)) := by omega
        clear hgt HS8
        go_wp2_with fail
        go_roundw
        case rel =>
          have hk := HK.out
          have hg := HG1.out
          obtain rfl : k = 0 := by omega
          exact ⟨j + 1, _, _, by omega, by have := HM.out; omega, by go_num, HE.out.step (by have := HS9.out.l1; rw [List.length_set] at this; omega) (by have := HS9.out.l2; rw [List.length_set] at this; omega) (by rw [show j - 1 = 0 by omega]; exact ⟨HRAW.out.2.2.1, HRAW.out.2.2.2⟩), HS9.out⟩
        case measure => simp [intOf]; omega
      · have hgi : (1 : Int) < (j : Int) := by omega
        have HG1 := Frame.hid hgt
        obtain ⟨mk, hmk⟩ : ∃ z, z = ms.getD k 0 := ⟨_, rfl⟩
        obtain ⟨rk, hrk⟩ : ∃ z, z = rs.getD k 0 := ⟨_, rfl⟩
        have HMRK := Frame.hid (And.intro hmk hrk)
        have hne1 : g1 ≠ g2 := HS8.out.ne
        have hne2 : g2 ≠ g1 := hne1.symm
        have d1 : w8.cell? ⟨g1, k, none⟩ = some (.float .f32 mk) := by rw [HS8.out.c1 (by omega), getD_set_ne (by have := HK.out; omega), ← hmk]
        clear hgt hmk hrk HS8
        go_wp2_with fail
        refine upon_arith _ _ _ _ _ rfl ?_
        intro f n_f h_f _
        have HF := Frame.hid h_f
        clear h_f
        have HS10 : Hid (MrW w n g1 g2 (ms.set j mj) (rs.set j rj) ((w8.setCell ⟨g2, j, none⟩ (.float .f32 rj)).drewN n_f)) := HS9.out.drewN _
        generalize (w8.setCell ⟨g2, j, none⟩ (.float .f32 rj)).drewN n_f = w9 at HS10 ⊢
        clear HS9 d1 c8 f8
        have hml : j < ms.length := by have := HS10.out.l1; rw [List.length_set] at this; omega
        have hrl : j < rs.length := by have := HS10.out.l2; rw [List.length_set] at this; omega
        have d2 : w9.cell? ⟨g1, j, none⟩ = some (.float .f32 mj) := by rw [HS10.out.c1 (by omega), getD_set_self hml]
        go_wp2_with fail
        refine upon_arith _ _ _ _ _ rfl ?_
        intro t n_t h_t _
        have HT := Frame.hid h_t
        clear h_t
        go_wp2_with fail
        refine upon_arith _ _ _ _ _ rfl ?_
        intro m n_m h_m _
        have HMM := Frame.hid h_m
        clear h_m
        have HS11 := Frame.hid ((HS10.out.drewN n_t).drewN n_m)
        generalize (w9.drewN n_t).drewN n_m = w10 at HS11 ⊢
        clear HS10
        clear d2
        have d3 : w10.cell? ⟨g1, j, none⟩ = some (.float .f32 mj) := by rw [HS11.out.c1 (by omega), getD_set_self hml]
        have f3 := HS11.out.f1 j
        have HS12 := Frame.hid (HS11.out.put1 j m)
        clear HS11
        go_wp2_with fail
        generalize w10.setCell ⟨g1, j, none⟩ (.float .f32 m) = w11 at HS12 ⊢
        clear d3 f3
        have d4 : w11.cell? ⟨g2, j, none⟩ = some (.float .f32 rj) := by rw [HS12.out.c2 (by omega), getD_set_self hrl]
        have d5 : w11.cell? ⟨g2, k, none⟩ = some (.float .f32 rk) := by rw [HS12.out.c2 (by omega), getD_set_ne (by have := HK.out; omega), ← HMRK.out.2]
        have HV := Frame.hid (And.intro d4 d5)
        clear d4 d5
        have hCe : ∃ W', ∃ q, W' = w11.drewN q := ⟨w11, 0, rfl⟩
        have hCd : ∀ W' nn, (∃ q, W' = w11.drewN q) → ∃ q, W'.drewN nn = w11.drewN q := fun W' nn ⟨q, hq⟩ => ⟨q + nn, by rw [hq]; exact World.drewN_drewN _ _ _⟩
        refine region_may_n 15 (fun W' => ∃ q, W' = w11.drewN q) RelNo rfl (by kernel_rfl) (by kernel_rfl) (hCd _ 1 ⟨0, rfl⟩) ?_
        refine' rC_read hCe (Or.inl ⟨by rfl, fun wq hSq => _⟩) _
        rotate_left
        · obtain ⟨kq, rfl⟩ := hSq; have q0 : (w11.drewN kq).cell? ⟨g2, j, none⟩ = some (.float .f32 rj) := HV.out.1; have q1 : (w11.drewN kq).cell? ⟨g2, k, none⟩ = some (.float .f32 rk) := HV.out.2
          go_simp
          try with_reducible rfl
        simp only [Act.put, List.setIfInBounds_toArray, List.set_cons_zero, List.set_cons_succ]
        refine' rC_read hCe (Or.inl ⟨by rfl, fun wq hSq => _⟩) _
        rotate_left
        · obtain ⟨kq, rfl⟩ := hSq; have q0 : (w11.drewN kq).cell? ⟨g2, j, none⟩ = some (.float .f32 rj) := HV.out.1; have q1 : (w11.drewN kq).cell? ⟨g2, k, none⟩ = some (.float .f32 rk) := HV.out.2
          go_simp
          try with_reducible rfl
        simp only [Act.put, List.setIfInBounds_toArray, List.set_cons_zero, List.set_cons_succ]
        refine' rC_read hCe (Or.inl ⟨by rfl, fun wq hSq => _⟩) _
        rotate_left
        · obtain ⟨kq, rfl⟩ := hSq; have q0 : (w11.drewN kq).cell? ⟨g2, j, none⟩ = some (.float .f32 rj) := HV.out.1; have q1 : (w11.drewN kq).cell? ⟨g2, k, none⟩ = some (.float .f32 rk) := HV.out.2
          go_simp
          try with_reducible rfl
        simp only [Act.put, List.setIfInBounds_toArray, List.set_cons_zero, List.set_cons_succ]
        refine' rC_read hCe (Or.inl ⟨by rfl, fun wq hSq => _⟩) _
        rotate_left
        · obtain ⟨kq, rfl⟩ := hSq; have q0 : (w11.drewN kq).cell? ⟨g2, j, none⟩ = some (.float .f32 rj) := HV.out.1; have q1 : (w11.drewN kq).cell? ⟨g2, k, none⟩ = some (.float .f32 rk) := HV.out.2
          go_simp
          try with_reducible rfl
        simp only [Act.put, List.setIfInBounds_toArray, List.set_cons_zero, List.set_cons_succ]
        refine' rC_read hCe (Or.inl ⟨by rfl, fun wq hSq => _⟩) _
        rotate_left
        · obtain ⟨kq, rfl⟩ := hSq; have q0 : (w11.drewN kq).cell? ⟨g2, j, none⟩ = some (.float .f32 rj) := HV.out.1; have q1 : (w11.drewN kq).cell? ⟨g2, k, none⟩ = some (.float .f32 rk) := HV.out.2
          go_simp
          try with_reducible rfl
        simp only [Act.put, List.setIfInBounds_toArray, List.set_cons_zero, List.set_cons_succ]
        refine' rC_read hCe (Or.inl ⟨by rfl, fun wq hSq => _⟩) _
        rotate_left
        · obtain ⟨kq, rfl⟩ := hSq; have q0 : (w11.drewN kq).cell? ⟨g2, j, none⟩ = some (.float .f32 rj) := HV.out.1; have q1 : (w11.drewN kq).cell? ⟨g2, k, none⟩ = some (.float .f32 rk) := HV.out.2
          go_simp
          try with_reducible rfl
        simp only [Act.put, List.setIfInBounds_toArray, List.set_cons_zero, List.set_cons_succ]
        refine' rC_read hCe (Or.inl ⟨by rfl, fun wq hSq => _⟩) _
        rotate_left
        · obtain ⟨kq, rfl⟩ := hSq; have q0 : (w11.drewN kq).cell? ⟨g2, j, none⟩ = some (.float .f32 rj) := HV.out.1; have q1 : (w11.drewN kq).cell? ⟨g2, k, none⟩ = some (.float .f32 rk) := HV.out.2
          go_simp
          try with_reducible rfl
        simp only [Act.put, List.setIfInBounds_toArray, List.set_cons_zero, List.set_cons_succ]
        refine' rC_read hCe (Or.inl ⟨by rfl, fun wq hSq => _⟩) _
        rotate_left
        · obtain ⟨kq, rfl⟩ := hSq; have q0 : (w11.drewN kq).cell? ⟨g2, j, none⟩ = some (.float .f32 rj) := HV.out.1; have q1 : (w11.drewN kq).cell? ⟨g2, k, none⟩ = some (.float .f32 rk) := HV.out.2
          go_simp
          try with_reducible rfl
        simp only [Act.put, List.setIfInBounds_toArray, List.set_cons_zero, List.set_cons_succ]
        refine' rC_read hCe (Or.inl ⟨by rfl, fun wq hSq => _⟩) _
        rotate_left
        · obtain ⟨kq, rfl⟩ := hSq; have q0 : (w11.drewN kq).cell? ⟨g2, j, none⟩ = some (.float .f32 rj) := HV.out.1; have q1 : (w11.drewN kq).cell? ⟨g2, k, none⟩ = some (.float .f32 rk) := HV.out.2
          go_simp
          try with_reducible rfl
        simp only [Act.put, List.setIfInBounds_toArray, List.set_cons_zero, List.set_cons_succ]
        refine' rC_read hCe (Or.inl ⟨by rfl, fun wq hSq => _⟩) _
        rotate_left
        · obtain ⟨kq, rfl⟩ := hSq; have q0 : (w11.drewN kq).cell? ⟨g2, j, none⟩ = some (.float .f32 rj) := HV.out.1; have q1 : (w11.drewN kq).cell? ⟨g2, k, none⟩ = some (.float .f32 rk) := HV.out.2
          go_simp
          try with_reducible rfl
        simp only [Act.put, List.setIfInBounds_toArray, List.set_cons_zero, List.set_cons_succ]
        refine' rC_read hCe (Or.inl ⟨by rfl, fun wq hSq => _⟩) _
        rotate_left
        · obtain ⟨kq, rfl⟩ := hSq; have q0 : (w11.drewN kq).cell? ⟨g2, j, none⟩ = some (.float .f32 rj) := HV.out.1; have q1 : (w11.drewN kq).cell? ⟨g2, k, none⟩ = some (.float .f32 rk) := HV.out.2
          go_simp
          try with_reducible rfl
        simp only [Act.put, List.setIfInBounds_toArray, List.set_cons_zero, List.set_cons_succ]
        refine' rC_read hCe (Or.inl ⟨by rfl, fun wq hSq => _⟩) _
        rotate_left
        · obtain ⟨kq, rfl⟩ := hSq; have q0 : (w11.drewN kq).cell? ⟨g2, j, none⟩ = some (.float .f32 rj) := HV.out.1; have q1 : (w11.drewN kq).cell? ⟨g2, k, none⟩ = some (.float .f32 rk) := HV.out.2
          go_simp
          try with_reducible rfl
        simp only [Act.put, List.setIfInBounds_toArray, List.set_cons_zero, List.set_cons_succ]
        refine rC_arith hCe hCd rfl _ _ _ _ _ rfl rfl _ _ _ rfl rfl ?_
        intro u h_u
        simp only [Act.put, List.setIfInBounds_toArray, List.set_cons_zero, List.set_cons_succ]
        refine rC_arith hCe hCd rfl _ _ _ _ _ rfl rfl _ _ _ rfl rfl ?_
        intro r h_r
        simp only [Act.put, List.setIfInBounds_toArray, List.set_cons_zero, List.set_cons_succ]
        refine' rC_read hCe (Or.inl ⟨by rfl, fun wq hSq => _⟩) _
        rotate_left
        · obtain ⟨kq, rfl⟩ := hSq; have q0 : (w11.drewN kq).cell? ⟨g2, j, none⟩ = some (.float .f32 rj) := HV.out.1; have q1 : (w11.drewN kq).cell? ⟨g2, k, none⟩ = some (.float .f32 rk) := HV.out.2
          go_simp
          try with_reducible rfl
        simp only [Act.put, List.setIfInBounds_toArray, List.set_cons_zero, List.set_cons_succ]
        refine rC_nil (fun w_ hw_ => ?_)
        obtain ⟨q_, rfl⟩ := hw_
        have HUR := Frame.hid (And.intro h_u h_r)
        clear h_u h_r
        have HS13 := Frame.hid (HS12.out.drewN q_)
        generalize w11.drewN q_ = w12 at HS13 ⊢
        clear HS12 HV hCe hCd
        have d6 : w12.cell? ⟨g2, j, none⟩ = some (.float .f32 rj) := by rw [HS13.out.c2 (by omega), getD_set_self hrl]
        have f6 := HS13.out.f2 j
        have HS14 := Frame.hid (HS13.out.put2 j r)
        refine wpTail_cons (fun K hK => ?_)
        go_simp
        refine hK.out _ _ (.inl rfl) ?_
        clear hK K
        refine wpTail_done ?_
        clear d6 f6 HS13
        go_wp2_with fail
        go_roundw
        case rel =>
          have hk := HK.out
          have hg := HG1.out
          obtain ⟨k', rfl⟩ : ∃ k', k = k' + 1 := ⟨k - 1, by omega⟩
          have he := HE.out (k' + 1) (by omega) (by omega)
          rw [← HMRK.out.1, ← HMRK.out.2] at he
          exact ⟨j + 1, _, _, by omega, by have := HM.out; omega, by go_num, HE.out.step2 hml hrl (by rw [show j - 1 = k' + 1 by omega]; exact ⟨mk, rk, be, f, be, t, mj, rj, u, he, HRAW.out.1, HF.out, HRAW.out.1, HT.out, HRAW.out.2.2.1, HMM.out, HUR.out.1, HRAW.out.2.2.2, HUR.out.2⟩), HS14.out⟩
        case measure => simp [intOf]; omega
    · have hEL : ∀ p, 1 ≤ p → p < m0 → ElimR xs ys (p - 1) (ms.getD p 0) (rs.getD p 0) := fun p h1 h2 => HE.out p h1 (by have := HM.out; omega)
      have HEL := Frame.hid hEL
      have hsz := HS.out.bel.size
      clear hEL HE
      go_wp2_with (at_make; refine wpList_make_full _ rfl _ _ 44 rfl w.heap.size 25 i0 (.float .f32 0) 1 Try.underlying44 hi hz0 hz1 _ _ _ _ n rfl rfl rfl rfl ?c1 ?c2 ?c3 ?_)
      case c1 => first | (rw [hz2]; omega) | omega
      case c2 => unfold maxLen; omega
      try (case c3 => exact hsz)
      intro w13 hown3 hgrow3
      rw [HEZ.out] at hown3
      have hBg : Below wr.heap.size wr w13 := (Below.refl _ _).grown hgrow3 (Nat.le_refl _) (by simp)
      obtain ⟨g3, hg3⟩ : ∃ g, g = wr.heap.size := ⟨_, rfl⟩
      rw [← hg3] at hown3 ⊢
      have HO3 : Hid (OwnF w13 w.heap.size (.slice (some ⟨g3, 0, none⟩) n n) (List.replicate n 0)) := by
        show w13.ownsRow _ _ _ _ _ _
        rw [List.length_replicate]
        exact hown3
      have HN3 : Hid (g1 ≠ g3 ∧ g2 ≠ g3) := by
        have h1 := (World.ownsRow.lt HS.out.own1 g1 rfl).2
        have h2 := (World.ownsRow.lt HS.out.own2 g2 rfl).2
        show _ ∧ _
        omega
      have HS3 := Frame.hid (HS.out.below hBg)
      clear hown3 hgrow3 hBg hg3 HS hsz hi hz0 hz1 hz2 HEZ
      have hw2' : IntKind.i64.wrap ((n : Int) - 2) = (ml : Int) := by have := HM.out; have := HML.out; rw [IntKind.wrap_i64]; omega
      have hOL : OutL xs ys ml ml (List.replicate n 0) := by
        have hm := HM.out
        have hml := HML.out
        exact ⟨by simp; omega, getD_zeros _ _, getD_zeros _ _, fun i h1 h2 => by omega⟩
      have HOL := Frame.hid hOL
      clear hOL
      go_wp2_with fail
      go_loopw [13] (fun i wr => ∃ (p : Nat) (us : List Nat), p ≤ ml ∧ i = .int .i64 p ∧ OutL xs ys ml p us ∧ OwnF wr w.heap.size (.slice (some ⟨g3, 0, none⟩) n n) us ∧ MrW w n g1 g2 ms rs wr) (fun i _ => (intOf i).toNat)
      case atStart => exact ⟨ml, _, Nat.le_refl _, rfl, HOL.out, HO3.out, HS3.out⟩
      case round =>
        obtain ⟨p, us, hpl, rfl, hOL, hO, hS⟩ := hrel
        have HOL2 := Frame.hid hOL
        have HO := Frame.hid hO
        have HS := Frame.hid hS
        have HUL : Hid (us.length = n) := by have hm := HM.out; have hml := HML.out; show _ = _; rw [hOL.1]; omega
        clear hOL hO hS HOL HO3 HS3 hlt hwj
        by_cases hp1 : (1 : Int) ≤ (p : Int)
        · obtain ⟨p0, hp0⟩ : ∃ p0, p = p0 + 1 := ⟨p - 1, by omega⟩
          have hp47 : p ≤ 47 := by have := HM.out; have := HML.out; omega
          have hwp : IntKind.i64.wrap ((p : Int) - 1) = (p0 : Int) := by rw [IntKind.wrap_i64]; omega
          have hwp1 : IntKind.i64.wrap ((p : Int) + 1) = (p : Int) + 1 := by rw [IntKind.wrap_i64]; omega
          have hwp2 : IntKind.i64.wrap ((p : Int) + 2) = (p : Int) + 2 := by rw [IntKind.wrap_i64]; omega
          have hpn : (p : Int) < (n : Int) := by have := HM.out; have := HML.out; omega
          have HP0 := Frame.hid hp0
          have HEP : Hid (ElimR xs ys p0 (ms.getD p 0) (rs.getD p 0)) := by have h := HEL.out p (by omega) (by have := HML.out; omega); rw [show p - 1 = p0 by omega] at h; exact h
          have c2 := HS.out.c2 (j := p) (by omega)
          have c1 := HS.out.c1 (j := p) (by omega)
          generalize ms.getD p 0 = mp at HEP c1
          generalize rs.getD p 0 = rp at HEP c2
          have hO := HO.out
          have c3 := hO.cell HUL.out.symm (j := p) (by have := HUL.out; omega)
          have f3 := hO.froz HUL.out.symm p
          generalize us.getD p 0 = z3 at c3
          clear hp0 hO
          by_cases hq : (p : Int) + 2 < (n : Int)
          · have x0 := HX.out wr HS.out.bel p (by omega)
            have x1 := HX.out wr HS.out.bel (p + 1) (by omega)
            obtain ⟨u0, hu0⟩ : ∃ u, u = xs.getD p 0 := ⟨_, rfl⟩
            obtain ⟨u1, hu1⟩ : ∃ u, u = xs.getD (p + 1) 0 := ⟨_, rfl⟩
            rw [← hu0] at x0
            rw [← hu1] at x1
            have c4 := HO.out.cell HUL.out.symm (j := p + 1) (by have := HUL.out; omega)
            obtain ⟨ov, hov⟩ : ∃ u, u = us.getD (p + 1) 0 := ⟨_, rfl⟩
            rw [← hov] at c4
            have HUO := Frame.hid (And.intro hu0 (And.intro hu1 hov))
            have HV := Frame.hid (And.intro x0 (And.intro x1 c4))
            have hp2 : (0 : Int) ≤ (p : Int) + 1 := by omega
            have hp3 : ((p : Int) + 1).toNat = p + 1 := by omega
            have hp4 : (p : Int) + 1 < (n : Int) := by omega
            clear hu0 hu1 hov x0 x1 c4
            go_wp2_with fail
            have hCe : ∃ W', ∃ q, W' = wr.drewN q := ⟨wr, 0, rfl⟩
            have hCd : ∀ W' nn, (∃ q, W' = wr.drewN q) → ∃ q, W'.drewN nn = wr.drewN q := fun W' nn ⟨q, hq⟩ => ⟨q + nn, by rw [hq]; exact World.drewN_drewN _ _ _⟩
            refine region_may_n 18 (fun W' => ∃ q, W' = wr.drewN q) RelNo rfl (by kernel_rfl) (by kernel_rfl) (hCd _ 1 ⟨0, rfl⟩) ?_
            refine' rC_read hCe (Or.inl ⟨by rfl, fun wq hSq => _⟩) _
            rotate_left
            · obtain ⟨kq, rfl⟩ := hSq; have q0 : (wr.drewN kq).cell? ⟨b, off + p, none⟩ = some (.float .f32 u0) := HV.out.1; have q1 : (wr.drewN kq).cell? ⟨b, off + (p + 1), none⟩ = some (.float .f32 u1) := HV.out.2.1; have q2 : (wr.drewN kq).cell? ⟨g3, p + 1, none⟩ = some (.float .f32 ov) := HV.out.2.2
              go_simp
              try with_reducible rfl
            simp only [Act.put, List.setIfInBounds_toArray, List.set_cons_zero, List.set_cons_succ]
            refine' rC_read hCe (Or.inl ⟨by rfl, fun wq hSq => _⟩) _
            rotate_left
            · obtain ⟨kq, rfl⟩ := hSq; have q0 : (wr.drewN kq).cell? ⟨b, off + p, none⟩ = some (.float .f32 u0) := HV.out.1; have q1 : (wr.drewN kq).cell? ⟨b, off + (p + 1), none⟩ = some (.float .f32 u1) := HV.out.2.1; have q2 : (wr.drewN kq).cell? ⟨g3, p + 1, none⟩ = some (.float .f32 ov) := HV.out.2.2
              go_simp
              try with_reducible rfl
            simp only [Act.put, List.setIfInBounds_toArray, List.set_cons_zero, List.set_cons_succ]
            refine' rC_read hCe (Or.inl ⟨by rfl, fun wq hSq => _⟩) _
            rotate_left
            · obtain ⟨kq, rfl⟩ := hSq; have q0 : (wr.drewN kq).cell? ⟨b, off + p, none⟩ = some (.float .f32 u0) := HV.out.1; have q1 : (wr.drewN kq).cell? ⟨b, off + (p + 1), none⟩ = some (.float .f32 u1) := HV.out.2.1; have q2 : (wr.drewN kq).cell? ⟨g3, p + 1, none⟩ = some (.float .f32 ov) := HV.out.2.2
              go_simp
              try with_reducible rfl
            simp only [Act.put, List.setIfInBounds_toArray, List.set_cons_zero, List.set_cons_succ]
            refine' rC_read hCe (Or.inl ⟨by rfl, fun wq hSq => _⟩) _
            rotate_left
            · obtain ⟨kq, rfl⟩ := hSq; have q0 : (wr.drewN kq).cell? ⟨b, off + p, none⟩ = some (.float .f32 u0) := HV.out.1; have q1 : (wr.drewN kq).cell? ⟨b, off + (p + 1), none⟩ = some (.float .f32 u1) := HV.out.2.1; have q2 : (wr.drewN kq).cell? ⟨g3, p + 1, none⟩ = some (.float .f32 ov) := HV.out.2.2
              go_simp
              try with_reducible rfl
            simp only [Act.put, List.setIfInBounds_toArray, List.set_cons_zero, List.set_cons_succ]
            refine' rC_read hCe (Or.inl ⟨by rfl, fun wq hSq => _⟩) _
            rotate_left
            · obtain ⟨kq, rfl⟩ := hSq; have q0 : (wr.drewN kq).cell? ⟨b, off + p, none⟩ = some (.float .f32 u0) := HV.out.1; have q1 : (wr.drewN kq).cell? ⟨b, off + (p + 1), none⟩ = some (.float .f32 u1) := HV.out.2.1; have q2 : (wr.drewN kq).cell? ⟨g3, p + 1, none⟩ = some (.float .f32 ov) := HV.out.2.2
              go_simp
              try with_reducible rfl
            simp only [Act.put, List.setIfInBounds_toArray, List.set_cons_zero, List.set_cons_succ]
            refine' rC_read hCe (Or.inl ⟨by rfl, fun wq hSq => _⟩) _
            rotate_left
            · obtain ⟨kq, rfl⟩ := hSq; have q0 : (wr.drewN kq).cell? ⟨b, off + p, none⟩ = some (.float .f32 u0) := HV.out.1; have q1 : (wr.drewN kq).cell? ⟨b, off + (p + 1), none⟩ = some (.float .f32 u1) := HV.out.2.1; have q2 : (wr.drewN kq).cell? ⟨g3, p + 1, none⟩ = some (.float .f32 ov) := HV.out.2.2
              go_simp
              try with_reducible rfl
            simp only [Act.put, List.setIfInBounds_toArray, List.set_cons_zero, List.set_cons_succ]
            refine' rC_read hCe (Or.inl ⟨by rfl, fun wq hSq => _⟩) _
            rotate_left
            · obtain ⟨kq, rfl⟩ := hSq; have q0 : (wr.drewN kq).cell? ⟨b, off + p, none⟩ = some (.float .f32 u0) := HV.out.1; have q1 : (wr.drewN kq).cell? ⟨b, off + (p + 1), none⟩ = some (.float .f32 u1) := HV.out.2.1; have q2 : (wr.drewN kq).cell? ⟨g3, p + 1, none⟩ = some (.float .f32 ov) := HV.out.2.2
              go_simp
              try with_reducible rfl
            simp only [Act.put, List.setIfInBounds_toArray, List.set_cons_zero, List.set_cons_succ]
            refine' rC_read hCe (Or.inl ⟨by rfl, fun wq hSq => _⟩) _
            rotate_left
            · obtain ⟨kq, rfl⟩ := hSq; have q0 : (wr.drewN kq).cell? ⟨b, off + p, none⟩ = some (.float .f32 u0) := HV.out.1; have q1 : (wr.drewN kq).cell? ⟨b, off + (p + 1), none⟩ = some (.float .f32 u1) := HV.out.2.1; have q2 : (wr.drewN kq).cell? ⟨g3, p + 1, none⟩ = some (.float .f32 ov) := HV.out.2.2
              go_simp
              try with_reducible rfl
            simp only [Act.put, List.setIfInBounds_toArray, List.set_cons_zero, List.set_cons_succ]
            refine' rC_read hCe (Or.inl ⟨by rfl, fun wq hSq => _⟩) _
            rotate_left
            · obtain ⟨kq, rfl⟩ := hSq; have q0 : (wr.drewN kq).cell? ⟨b, off + p, none⟩ = some (.float .f32 u0) := HV.out.1; have q1 : (wr.drewN kq).cell? ⟨b, off + (p + 1), none⟩ = some (.float .f32 u1) := HV.out.2.1; have q2 : (wr.drewN kq).cell? ⟨g3, p + 1, none⟩ = some (.float .f32 ov) := HV.out.2.2
              go_simp
              try with_reducible rfl
            simp only [Act.put, List.setIfInBounds_toArray, List.set_cons_zero, List.set_cons_succ]
            refine' rC_read hCe (Or.inl ⟨by rfl, fun wq hSq => _⟩) _
            rotate_left
            · obtain ⟨kq, rfl⟩ := hSq; have q0 : (wr.drewN kq).cell? ⟨b, off + p, none⟩ = some (.float .f32 u0) := HV.out.1; have q1 : (wr.drewN kq).cell? ⟨b, off + (p + 1), none⟩ = some (.float .f32 u1) := HV.out.2.1; have q2 : (wr.drewN kq).cell? ⟨g3, p + 1, none⟩ = some (.float .f32 ov) := HV.out.2.2
              go_simp
              try with_reducible rfl
            simp only [Act.put, List.setIfInBounds_toArray, List.set_cons_zero, List.set_cons_succ]
            refine rC_arith hCe hCd rfl _ _ _ _ _ rfl rfl _ _ _ rfl rfl ?_
            intro h h_h
            simp only [Act.put, List.setIfInBounds_toArray, List.set_cons_zero, List.set_cons_succ]
            refine' rC_read hCe (Or.inl ⟨by rfl, fun wq hSq => _⟩) _
            rotate_left
            · obtain ⟨kq, rfl⟩ := hSq; have q0 : (wr.drewN kq).cell? ⟨b, off + p, none⟩ = some (.float .f32 u0) := HV.out.1; have q1 : (wr.drewN kq).cell? ⟨b, off + (p + 1), none⟩ = some (.float .f32 u1) := HV.out.2.1; have q2 : (wr.drewN kq).cell? ⟨g3, p + 1, none⟩ = some (.float .f32 ov) := HV.out.2.2
              go_simp
              try with_reducible rfl
            simp only [Act.put, List.setIfInBounds_toArray, List.set_cons_zero, List.set_cons_succ]
            refine' rC_read hCe (Or.inl ⟨by rfl, fun wq hSq => _⟩) _
            rotate_left
            · obtain ⟨kq, rfl⟩ := hSq; have q0 : (wr.drewN kq).cell? ⟨b, off + p, none⟩ = some (.float .f32 u0) := HV.out.1; have q1 : (wr.drewN kq).cell? ⟨b, off + (p + 1), none⟩ = some (.float .f32 u1) := HV.out.2.1; have q2 : (wr.drewN kq).cell? ⟨g3, p + 1, none⟩ = some (.float .f32 ov) := HV.out.2.2
              go_simp
              try with_reducible rfl
            simp only [Act.put, List.setIfInBounds_toArray, List.set_cons_zero, List.set_cons_succ]
            refine' rC_read hCe (Or.inl ⟨by rfl, fun wq hSq => _⟩) _
            rotate_left
            · obtain ⟨kq, rfl⟩ := hSq; have q0 : (wr.drewN kq).cell? ⟨b, off + p, none⟩ = some (.float .f32 u0) := HV.out.1; have q1 : (wr.drewN kq).cell? ⟨b, off + (p + 1), none⟩ = some (.float .f32 u1) := HV.out.2.1; have q2 : (wr.drewN kq).cell? ⟨g3, p + 1, none⟩ = some (.float .f32 ov) := HV.out.2.2
              go_simp
              try with_reducible rfl
            simp only [Act.put, List.setIfInBounds_toArray, List.set_cons_zero, List.set_cons_succ]
            refine' rC_read hCe (Or.inl ⟨by rfl, fun wq hSq => _⟩) _
            rotate_left
            · obtain ⟨kq, rfl⟩ := hSq; have q0 : (wr.drewN kq).cell? ⟨b, off + p, none⟩ = some (.float .f32 u0) := HV.out.1; have q1 : (wr.drewN kq).cell? ⟨b, off + (p + 1), none⟩ = some (.float .f32 u1) := HV.out.2.1; have q2 : (wr.drewN kq).cell? ⟨g3, p + 1, none⟩ = some (.float .f32 ov) := HV.out.2.2
              go_simp
              try with_reducible rfl
            simp only [Act.put, List.setIfInBounds_toArray, List.set_cons_zero, List.set_cons_succ]
            refine' rC_read hCe (Or.inl ⟨by rfl, fun wq hSq => _⟩) _
            rotate_left
            · obtain ⟨kq, rfl⟩ := hSq; have q0 : (wr.drewN kq).cell? ⟨b, off + p, none⟩ = some (.float .f32 u0) := HV.out.1; have q1 : (wr.drewN kq).cell? ⟨b, off + (p + 1), none⟩ = some (.float .f32 u1) := HV.out.2.1; have q2 : (wr.drewN kq).cell? ⟨g3, p + 1, none⟩ = some (.float .f32 ov) := HV.out.2.2
              go_simp
              try with_reducible rfl
            simp only [Act.put, List.setIfInBounds_toArray, List.set_cons_zero, List.set_cons_succ]
            refine rC_arith hCe hCd rfl _ _ _ _ _ rfl rfl _ _ _ rfl rfl ?_
            intro t h_t
            simp only [Act.put, List.setIfInBounds_toArray, List.set_cons_zero, List.set_cons_succ]
            refine rC_arith hCe hCd rfl _ _ _ _ _ rfl rfl _ _ _ rfl rfl ?_
            intro u h_u
            simp only [Act.put, List.setIfInBounds_toArray, List.set_cons_zero, List.set_cons_succ]
            have HHTU := Frame.hid (And.intro h_h (And.intro h_t h_u))
            clear h_h h_t h_u
            refine rC_nil (fun w_ hw_ => ?_)
            obtain ⟨q_, rfl⟩ := hw_
            refine wpTail_cons (fun K hK => ?_)
            go_simp
            refine hK.out _ _ (.inl rfl) ?_
            clear hK K
            refine wpTail_done ?_
            clear hCe hCd
            go_wp2_with fail
            refine upon_arith _ _ _ _ _ rfl ?_
            intro bb n_b h_b _
            have HBB := Frame.hid h_b
            clear h_b
            go_wp2_with fail
            go_roundw
            case rel =>
              have hu := HUO.out
              have hm := HM.out
              have hml := HML.out
              have hB := HOL2.out.2.2.2 (p + 1) (by omega) (by omega)
              rw [← hu.2.2] at hB
              have hW : WdR xs p h := by have h := HHTU.out.1; rw [hu.1, hu.2.1] at h; exact h
              have hb := bend_low (ml := ml) HP0.out (by omega) HEP.out hB hW HHTU.out.2.1 HHTU.out.2.2 HBB.out
              have hp0 := HP0.out
              subst hp0
              exact ⟨p0, us.set (p0 + 1) bb, by omega, by go_num, HOL2.out.step (by omega) hb, (OwnF.put HO.out HUL.out.symm (p0 + 1) bb).below (below_drewN (Below.refl _ _) _), ⟨(HS.out.own1.aside HN3.out.1 _ _).below (below_drewN (Below.refl _ _) _), (HS.out.own2.aside HN3.out.2 _ _).below (below_drewN (Below.refl _ _) _), HS.out.l1, HS.out.l2, HS.out.ne, below_drewN (HS.out.bel.setCell (p := ⟨g3, _, none⟩) (World.ownsRow.lt HO.out g3 rfl).1 _) _⟩⟩
            case measure => have := HP0.out; simp [intOf]; omega
          · go_wp2_with fail
            refine upon_arith _ _ _ _ _ rfl ?_
            intro bb n_b h_b _
            have HBB := Frame.hid h_b
            clear h_b
            go_wp2_with fail
            go_roundw
            case rel =>
              have hm := HM.out
              have hml := HML.out
              have hb := bend_top (ml := ml) HP0.out (by omega) hpl HEP.out HBB.out
              have hp0 := HP0.out
              subst hp0
              exact ⟨p0, us.set (p0 + 1) bb, by omega, by go_num, HOL2.out.step (by omega) hb, (OwnF.put HO.out HUL.out.symm (p0 + 1) bb).below (below_drewN (Below.refl _ _) _), ⟨(HS.out.own1.aside HN3.out.1 _ _).below (below_drewN (Below.refl _ _) _), (HS.out.own2.aside HN3.out.2 _ _).below (below_drewN (Below.refl _ _) _), HS.out.l1, HS.out.l2, HS.out.ne, below_drewN (HS.out.bel.setCell (p := ⟨g3, _, none⟩) (World.ownsRow.lt HO.out g3 rfl).1 _) _⟩⟩
            case measure => have := HP0.out; simp [intOf]; omega
        · obtain rfl : p = 0 := by omega
          go_wp2_with fail
          go_ret
          exact ⟨_, rfl, us, HOL2.out.nat, HO.out, HS.out.bel⟩

end Go.Proofs.Ytfkdkdocbecjmaa
