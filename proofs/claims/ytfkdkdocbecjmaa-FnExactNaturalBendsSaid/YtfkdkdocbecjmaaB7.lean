/-
  SteadySlopes: the program's side.
-/
import Derived.Test.YtfkdkdocbecjmaaB6
import Derived.Test.YtfkdkdocbecjmaaJi
import Derived.Deep.AppendLies
import Derived.Laws.OwnMore
namespace Go.Proofs.Ytfkdkdocbecjmaa
open Go.RowKit Fl Go.WideShapes Go.Deep
attribute [local go_sem] kstore_f kalloc_drewN kset_drewN

theorem infoF6 : (Try.prog.info? 25).map (fun i => (i.zero, i.size, i.bytes)) = some (some (.float .f32 0), 1, 4) := by kernel_rfl
theorem graphB_len {xs ys : List Nat} (h : graphB xs ys = true) : 2 ≤ xs.length ∧ xs.length ≤ 48 ∧ ys.length = xs.length := by
  unfold graphB at h
  simp only [Bool.and_eq_true, decide_eq_true_eq] at h
  exact ⟨h.1.1.1.1.1, h.1.1.1.1.2, h.1.1.1.2⟩

/-- The slopes while those between two legs are laid. -/
def MidI (xs ys : List Nat) (m k : Nat) (zs : List Nat) : Prop := zs.length = m + 1 ∧ SlR xs ys 0 (zs.getD 0 0) ∧ SlR xs ys (m - 1) (zs.getD m 0) ∧ (∀ j, 0 < j → j ≤ k → j < m → MidR xs ys (j - 1) (zs.getD j 0)) ∧ ∀ j, k < j → j < m → zs.getD j 0 = 0
theorem getD_set_self {zs : List Nat} {i a : Nat} (h : i < zs.length) : (zs.set i a).getD i 0 = a := by
  rw [List.getD_eq_getElem?_getD, List.getElem?_set_self h]; rfl
theorem getD_set_ne {zs : List Nat} {i j a : Nat} (h : i ≠ j) : (zs.set i a).getD j 0 = zs.getD j 0 := by
  rw [List.getD_eq_getElem?_getD, List.getElem?_set_ne h, ← List.getD_eq_getElem?_getD]
theorem getD_zeros (n j : Nat) : (List.replicate n 0).getD j 0 = 0 := by
  rw [List.getD_eq_getElem?_getD, List.getElem?_replicate]
  split <;> rfl
theorem MidI.start {xs ys : List Nat} {m s0 s1 : Nat} (hm : 1 ≤ m) (h0 : SlR xs ys 0 s0) (h1 : SlR xs ys (m - 1) s1) : MidI xs ys m 0 (((List.replicate (m + 1) 0).set 0 s0).set m s1) := by
  refine ⟨by simp, ?_, ?_, fun j a b => by omega, fun j hj hjm => ?_⟩
  · rw [getD_set_ne (by omega), getD_set_self (by simp)]; exact h0
  · rw [getD_set_self (by simp)]; exact h1
  · rw [getD_set_ne (by omega), getD_set_ne (by omega), getD_zeros]
theorem MidI.step {xs ys : List Nat} {m k z : Nat} {zs : List Nat} (h : MidI xs ys m k zs) (hk : k + 1 < m) (hz : MidR xs ys k z) : MidI xs ys m (k + 1) (zs.set (k + 1) z) := by
  obtain ⟨h1, h2, h3, h4, h5⟩ := h
  refine ⟨by rw [List.length_set]; exact h1, by rw [getD_set_ne (by omega)]; exact h2, by rw [getD_set_ne (by omega)]; exact h3, fun j a b hj => ?_, fun j a hj => by rw [getD_set_ne (by omega)]; exact h5 j (by omega) hj⟩
  by_cases e : j = k + 1
  · subst e
    rw [getD_set_self (by omega)]
    exact hz
  · rw [getD_set_ne (by omega)]
    exact h4 j a (by omega) hj
theorem MidI.stay {xs ys : List Nat} {m k : Nat} {zs : List Nat} (h : MidI xs ys m k zs) (hk : k + 1 < m) (hz : MidR xs ys k 0) : MidI xs ys m (k + 1) zs := by
  obtain ⟨h1, h2, h3, h4, h5⟩ := h
  refine ⟨h1, h2, h3, fun j a b hj => ?_, fun j a hj => h5 j (by omega) hj⟩
  by_cases e : j = k + 1
  · subst e
    rw [h5 (k + 1) (by omega) hk]
    exact hz
  · exact h4 j a (by omega) hj
theorem MidI.done {xs ys : List Nat} {m k : Nat} {zs : List Nat} (h : MidI xs ys m k zs) (hk : m ≤ k + 1) : StartL xs ys m zs := by
  obtain ⟨h1, h2, h3, h4, h5⟩ := h
  refine ⟨h1, fun i hi => ?_⟩
  by_cases e0 : i = 0
  · subst e0; exact .inl ⟨rfl, h2⟩
  · by_cases e1 : i = m
    · subst e1; exact .inr (.inl ⟨by omega, rfl, h3⟩)
    · exact .inr (.inr ⟨by omega, by omega, h4 i (by omega) (by omega) (by omega)⟩)
def MidW (xs ys : List Nat) (m g : Nat) (w w3 : World) (iv : Value) (wr : World) : Prop := ∃ (k : Nat) (zs : List Nat), k + 1 ≤ m ∧ iv = .int .i64 k ∧ MidI xs ys m k zs ∧ OwnF wr w.heap.size (.slice (some ⟨g, 0, none⟩) (m + 1) (m + 1)) zs ∧ KeepX w3 g wr ∧ Below w.heap.size w wr
def StW (xs ys : List Nat) (m g : Nat) (w w3 : World) (iv : Value) (wr : World) : Prop := ∃ (k : Nat) (zs : List Nat), k ≤ m ∧ iv = .int .i64 k ∧ SteadyL xs ys m k zs ∧ OwnF wr w.heap.size (.slice (some ⟨g, 0, none⟩) (m + 1) (m + 1)) zs ∧ KeepX w3 g wr ∧ Below w.heap.size w wr
/-- What lies above a world changes nothing in it. -/
theorem KeepX.below {Wl W W' : World} {Bl : Nat} (h : KeepX Wl Bl W) (hB : Below W.heap.size W W') : KeepX Wl Bl W' := ⟨Nat.le_trans h.s hB.size, fun k hk hne => (hB.block k (Nat.lt_of_lt_of_le hk h.s)).trans (h.h k hk hne)⟩

set_option maxRecDepth 100000 in
theorem numsIfFinite_calls (A : Option Addr) (zs : List Nat) (c : Nat) (w : World) (hn : zs.length ≤ 1048576) (hr : RdF w A zs) :
    Calls Try.prog 56 #[.slice A zs.length c] w fun e w' => ∃ v ok, e = .returned (.tuple #[v, .bool ok]) ∧ ok = finL zs ∧ (ok = true → v = .slice A zs.length c) ∧ (ok = false → v = .slice none 0 0) ∧ ∃ m, w' = w.drewN m := by
  have HC := Frame.hid (areFin_calls A zs c w hn hr)
  clear hr
  cases hf : finL zs
  · rw [hf] at HC
    go_enter Try.func56, Try.ntmps56
    go_wp2_with fail
    refine HC.out.mono ?_
    rintro e w' ⟨rfl, m, rfl⟩
    go_wp2_with fail
    go_ret2
    exact ⟨_, _, rfl, (by first | rfl | exact hf.symm), (fun h => by cases h), (fun _ => rfl), _, rfl⟩
  · rw [hf] at HC
    go_enter Try.func56, Try.ntmps56
    go_wp2_with fail
    refine HC.out.mono ?_
    rintro e w' ⟨rfl, m, rfl⟩
    go_wp2_with fail
    go_ret2
    exact ⟨_, _, rfl, (by first | rfl | exact hf.symm), (fun _ => rfl), (fun h => by cases h), _, rfl⟩

set_option maxRecDepth 100000 in
set_option maxHeartbeats 4000000 in
theorem steadySlopes_calls (A B : Option Addr) (xs ys : List Nat) (c d : Nat) (w : World) (hn : xs.length ≤ 1048576) (hn' : ys.length ≤ 1048576) (hA : RdF w A xs) (hB : RdF w B ys) (hg : graphB xs ys = true) :
    Calls Try.prog 27 #[.slice A xs.length c, .slice B ys.length d] w fun e w' => ∃ v zs ok, e = .returned (.tuple #[v, .bool ok]) ∧ SteadyL xs ys (xs.length - 1) (xs.length - 1) zs ∧ ok = finL zs ∧ (ok = true → OwnF w' w.heap.size v zs) ∧ (ok = false → v = .slice none 0 0) ∧ Below w.heap.size w w' := by
  obtain ⟨h2, h48, hyl⟩ := graphB_len hg
  have HGR := Frame.hid (isGraph_calls A B xs ys c d w hn hn' hA hB)
  have HG := Frame.hid hg
  obtain ⟨b, off, rfl, hb, hx⟩ := hA (by omega)
  obtain ⟨b2, off2, rfl, hb2, hy⟩ := hB (by omega)
  obtain ⟨m0, hm⟩ : ∃ m0, xs.length = m0 + 1 := ⟨xs.length - 1, by omega⟩
  have hym : ys.length = m0 + 1 := by omega
  have hm1 : 1 ≤ m0 ∧ m0 ≤ 1000 := by omega
  have hm47 : m0 ≤ 47 := by omega
  rw [hm, hym] at HGR ⊢
  rw [Nat.add_sub_cancel]
  have HXC := Frame.hid hx
  have HYC := Frame.hid hy
  have HM := Frame.hid (And.intro hm hym)
  clear hx hy hg hA hB hyl h2 h48 hn hn' hm hym
  obtain ⟨i0, hi, hz0, hz1, hz2⟩ := info_parts infoF6
  go_enter Try.func27, Try.ntmps27
  go_wp2_with fail
  refine HGR.out.mono ?_
  rintro e w1 ⟨rfl, hB1⟩
  rw [HG.out]
  have HB1 := Frame.hid hB1
  have hs1 := hB1.size
  clear hB1
  go_wp2_with fail
  refine (risesOf_calls b off c b2 off2 d m0 xs ys hm1 w1 (fun j hj => (HB1.out.cell (p := ⟨b, off + j, none⟩) hb).trans (HXC.out j (by have := HM.out; omega))) (fun j hj => (HB1.out.cell (p := ⟨b2, off2 + j, none⟩) hb2).trans (HYC.out j (by have := HM.out; omega))) (by omega) (by omega)).mono ?_
  rintro e w2 ⟨v, cs, rfl, hR, hO, hB2⟩
  obtain ⟨gr, cr, rfl, hgr, hgr2⟩ := hO.form (by omega : 0 < m0)
  have HR := Frame.hid hR
  have HO := Frame.hid hO
  have HB2 := Frame.hid (HB1.out.trans (hB2.mono hs1))
  have hs2 : w.heap.size ≤ w2.heap.size := Nat.le_trans hs1 hB2.size
  clear hR hO hB2
  go_wp2_with (at_make; refine wpList_make_full _ rfl _ _ 44 rfl w.heap.size 25 i0 (.float .f32 0) 1 Try.underlying44 hi hz0 hz1 _ _ _ _ (m0 + 1) rfl rfl rfl rfl ?c1 ?c2 ?c3 ?_)
  case c1 => rw [hz2]; omega
  case c2 => unfold maxLen; omega
  case c3 => exact hs2
  intro w3 hown hgrow
  obtain ⟨g, hg⟩ : ∃ g, g = w2.heap.size := ⟨_, rfl⟩
  have hgr3 : gr < g := by rw [hg]; exact hgr2
  have hg3 : g < w3.heap.size := by have := (World.ownsRow.lt hown _ rfl).2; rw [hg]; exact this
  have HO2 : Hid (OwnF w3 w.heap.size (.slice (some ⟨g, 0, none⟩) (m0 + 1) (m0 + 1)) (List.replicate (m0 + 1) 0)) := by
    show w3.ownsRow _ _ _ _ _ _
    have e : (madeCells #[Value.float .f32 0] (m0 + 1)).toList = fl (List.replicate (m0 + 1) 0) := by
      unfold fl
      rw [List.map_replicate]
      exact toList_madeCells_one _ _
    rw [e] at hown
    rw [List.length_replicate, hg]
    exact hown
  have HB3 : Hid (Below w.heap.size w w3) := HB2.out.grown hgrow hs2 (by simp)
  have HR3 : Hid (w3.ownsRow w1.heap.size 88 2 (.slice (some ⟨gr, 0, none⟩) m0 cr) m0 cs) := World.ownsRow.kept HO.out hgrow (.inr (by simp [Value.ownBlock]))
  obtain ⟨l, hl1, rfl, hl3⟩ := HR.out.all
  obtain ⟨off, hoff⟩ : ∃ off, off = 0 := ⟨_, rfl⟩
  have HSL := Frame.hid hl3
  have HLC : Hid (∀ i, i < m0 → w3.cell? ⟨gr, off + i * 2, none⟩ = some (.float .f32 (l.getD i (0, 0)).1) ∧ w3.cell? ⟨gr, off + i * 2 + 1, none⟩ = some (.float .f32 (l.getD i (0, 0)).2)) := by
    subst hoff
    intro i hi
    have h := riseCells_at l i (by omega)
    rw [Nat.zero_add]
    exact ⟨(HR3.out.cellAt _ (by omega)).trans h.1, (HR3.out.cellAt _ (by omega)).trans h.2⟩
  have HGB : Hid (w.heap.size ≤ g) := by show _ ≤ _; rw [hg]; exact hs2
  rw [← hg, show (⟨gr, 0, none⟩ : Addr) = ⟨gr, off, none⟩ by rw [hoff]]
  have HCAP : Hid (m0 ≤ cr) := by
    rcases HR3.out.2 with ⟨h0, _⟩ | ⟨_, _, _, hv, _, _, hc, _⟩
    · cases h0
    · cases hv; exact hc
  have HMM := Frame.hid hm47
  obtain ⟨ml, hml⟩ : ∃ ml, m0 = ml + 1 := ⟨m0 - 1, by omega⟩
  have hwr : IntKind.i64.wrap ((m0 : Int) - 1) = (ml : Int) := by rw [IntKind.wrap_i64]; omega
  have hlm : (ml : Int) < (m0 : Int) := by omega
  have hlm0 : ¬ ((ml : Int) < 0) := by omega
  have HML := Frame.hid hml
  clear hown hgrow hg HO HR hi hz0 hz1 hz2 hoff hl3 hl1 HGR HR3 hm1 hm47 hml hgr hgr2
  have hrc : ∀ i, i < m0 → w3.cell? ⟨gr, off + i * 2 + 1, none⟩ = some (.float .f32 (l.getD i (0, 0)).2) := fun i hi => (HLC.out i hi).2
  have c0 := hrc 0 (by have := HML.out; omega)
  have c1 := hrc ml (by have := HML.out; omega)
  clear hrc
  rw [Nat.zero_mul, Nat.add_zero] at c0
  obtain ⟨s0, hs0⟩ : ∃ s0, s0 = (l.getD 0 (0, 0)).2 := ⟨_, rfl⟩
  obtain ⟨s1, hs1'⟩ : ∃ s1, s1 = (l.getD ml (0, 0)).2 := ⟨_, rfl⟩
  rw [← hs0] at c0
  rw [← hs1'] at c1
  have HS01 := Frame.hid (And.intro hs0 hs1')
  clear hs0 hs1'
  have hKS : ∀ W, KeepX w3 g W → W.cell? ⟨gr, off + 1, none⟩ = some (.float .f32 s0) ∧ W.cell? ⟨gr, off + ml * 2 + 1, none⟩ = some (.float .f32 s1) := fun W h => ⟨(h.cell (Nat.lt_trans hgr3 hg3) (Nat.ne_of_lt hgr3)).trans c0, (h.cell (Nat.lt_trans hgr3 hg3) (Nat.ne_of_lt hgr3)).trans c1⟩
  have hX0 : KeepX w3 g w3.drew := by have h := (KeepX.refl w3 g).drewN 1; exact h
  have hS0 := hKS _ hX0
  clear c0 c1 hlm0
  have hO3 := HO2.out
  have e0 := hO3.cell (by simp) (j := 0) (by simp)
  have f0 := hO3.froz (by simp) 0
  have e1 := hO3.cell (by simp) (j := m0) (by simp)
  have f1 := hO3.froz (by simp) m0
  have HO5 : Hid (OwnF (((w3.setCell ⟨g, 0, none⟩ (.float .f32 s0)).setCell ⟨g, m0, none⟩ (.float .f32 s1)).drew) w.heap.size (.slice (some ⟨g, 0, none⟩) (m0 + 1) (m0 + 1)) (((List.replicate (m0 + 1) 0).set 0 s0).set m0 s1)) := (OwnF.put (OwnF.put hO3 (by simp) 0 s0) (by simp) m0 s1).below ((Below.refl _ _).drew)
  have hX5 : KeepX w3 g (((w3.setCell ⟨g, 0, none⟩ (.float .f32 s0)).setCell ⟨g, m0, none⟩ (.float .f32 s1)).drew) := by have h := (((KeepX.refl w3 g).put (i := 0) (v := .float .f32 s0)).put (i := m0) (v := .float .f32 s1)).drewN 1; exact h
  have HX5 := Frame.hid hX5
  have hS5 := hKS ((w3.setCell ⟨g, 0, none⟩ (.float .f32 s0)).drew) (by have h := ((KeepX.refl w3 g).put (i := 0) (v := .float .f32 s0)).drewN 1; exact h)
  have HB5 : Hid (Below w.heap.size w (((w3.setCell ⟨g, 0, none⟩ (.float .f32 s0)).setCell ⟨g, m0, none⟩ (.float .f32 s1)).drew)) := ((HB3.out.setCell (p := ⟨g, 0, none⟩) HGB.out _).setCell (p := ⟨g, m0, none⟩) HGB.out _).drew
  have hm0i : (m0 : Int) < (m0 : Int) + 1 := by omega
  have hm0p : 0 < m0 := by have := HML.out; omega
  generalize (List.replicate (m0 + 1) 0).getD 0 0 = z0 at e0
  generalize (List.replicate (m0 + 1) 0).getD m0 0 = z1 at e1
  clear hO3 hX5 HO2 hX0
  have HKS := Frame.hid hKS
  clear hKS
  go_wp2_with fail
  refine region_hand 16 (fun W => W.cell? ⟨gr, off + 1, none⟩ = some (.float .f32 s0) ∧ W.cell? ⟨gr, off + ml * 2 + 1, none⟩ = some (.float .f32 s1)) (by kernel_rfl) ?_
  refine' wpEnd_take 0 rfl (by kernel_rfl) hS0 (Or.inl ⟨by rfl, fun wq hSq => _⟩) _
  rotate_left
  · (obtain ⟨q0, q1⟩ := hSq; go_simp; (try with_reducible rfl))
  simp only [Act.put, List.setIfInBounds_toArray, List.set_cons_zero, List.set_cons_succ]
  refine' wpEnd_take 1 rfl (by kernel_rfl) hS0 (Or.inl ⟨by rfl, fun wq hSq => _⟩) _
  rotate_left
  · (obtain ⟨q0, q1⟩ := hSq; go_simp; (try with_reducible rfl))
  simp only [Act.put, List.setIfInBounds_toArray, List.set_cons_zero, List.set_cons_succ]
  refine' wpEnd_take 2 rfl (by kernel_rfl) hS0 (Or.inl ⟨by rfl, fun wq hSq => _⟩) _
  rotate_left
  · (obtain ⟨q0, q1⟩ := hSq; go_simp; (try with_reducible rfl))
  simp only [Act.put, List.setIfInBounds_toArray, List.set_cons_zero, List.set_cons_succ]
  refine' wpEnd_take 3 rfl (by kernel_rfl) hS0 (Or.inl ⟨by rfl, fun wq hSq => _⟩) _
  rotate_left
  · (obtain ⟨q0, q1⟩ := hSq; go_simp; (try with_reducible rfl))
  simp only [Act.put, List.setIfInBounds_toArray, List.set_cons_zero, List.set_cons_succ]
  refine' wpEnd_take 4 rfl (by kernel_rfl) hS0 (Or.inl ⟨by rfl, fun wq hSq => _⟩) _
  rotate_left
  · (obtain ⟨q0, q1⟩ := hSq; go_simp; (try with_reducible rfl))
  simp only [Act.put, List.setIfInBounds_toArray, List.set_cons_zero, List.set_cons_succ]
  refine' wpEnd_take 5 rfl (by kernel_rfl) hS0 (Or.inl ⟨by rfl, fun wq hSq => _⟩) _
  rotate_left
  · (obtain ⟨q0, q1⟩ := hSq; go_simp; (try with_reducible rfl))
  simp only [Act.put, List.setIfInBounds_toArray, List.set_cons_zero, List.set_cons_succ]
  refine' wpEnd_take 6 rfl (by kernel_rfl) hS0 (Or.inl ⟨by rfl, fun wq hSq => _⟩) _
  rotate_left
  · (obtain ⟨q0, q1⟩ := hSq; go_simp; (try with_reducible rfl))
  simp only [Act.put, List.setIfInBounds_toArray, List.set_cons_zero, List.set_cons_succ]
  refine' wpEnd_take 7 rfl (by kernel_rfl) hS0 (Or.inl ⟨by rfl, fun wq hSq => _⟩) _
  rotate_left
  · (obtain ⟨q0, q1⟩ := hSq; go_simp; (try with_reducible rfl))
  simp only [Act.put, List.setIfInBounds_toArray, List.set_cons_zero, List.set_cons_succ]
  refine' wpEnd_take 8 rfl (by kernel_rfl) hS0 (Or.inl ⟨by rfl, fun wq hSq => _⟩) _
  rotate_left
  · (obtain ⟨q0, q1⟩ := hSq; go_simp; (try with_reducible rfl))
  simp only [Act.put, List.setIfInBounds_toArray, List.set_cons_zero, List.set_cons_succ]
  refine' wpEnd_take 9 rfl (by kernel_rfl) hS0 (Or.inl ⟨by rfl, fun wq hSq => _⟩) _
  rotate_left
  · (obtain ⟨q0, q1⟩ := hSq; go_simp; (try with_reducible rfl))
  simp only [Act.put, List.setIfInBounds_toArray, List.set_cons_zero, List.set_cons_succ]
  refine' wpEnd_take 10 rfl (by kernel_rfl) hS0 (Or.inl ⟨by rfl, fun wq hSq => _⟩) _
  rotate_left
  · (obtain ⟨q0, q1⟩ := hSq; go_simp; (try with_reducible rfl))
  simp only [Act.put, List.setIfInBounds_toArray, List.set_cons_zero, List.set_cons_succ]
  refine' wpEnd_take 11 rfl (by kernel_rfl) hS0 (Or.inl ⟨by rfl, fun wq hSq => _⟩) _
  rotate_left
  · (obtain ⟨q0, q1⟩ := hSq; go_simp; (try with_reducible rfl))
  simp only [Act.put, List.setIfInBounds_toArray, List.set_cons_zero, List.set_cons_succ]
  refine' wpEnd_take 12 rfl (by kernel_rfl) hS0 (Or.inl ⟨by rfl, fun wq hSq => _⟩) _
  rotate_left
  · (obtain ⟨q0, q1⟩ := hSq; go_simp; (try with_reducible rfl))
  simp only [Act.put, List.setIfInBounds_toArray, List.set_cons_zero, List.set_cons_succ]
  refine' wpEnd_take 13 rfl (by kernel_rfl) hS0 (Or.inl ⟨by rfl, fun wq hSq => _⟩) _
  rotate_left
  · (obtain ⟨q0, q1⟩ := hSq; go_simp; (try with_reducible rfl))
  simp only [Act.put, List.setIfInBounds_toArray, List.set_cons_zero, List.set_cons_succ]
  refine wpEnd_ready [14] (by kernel_rfl) rfl (AllE.cons rfl (fun K hK => ?_) AllE.nil)
  go_simp
  refine hK.out _ _ (.inr hS5) ?_
  clear hK K
  (try simp only [Act.put, List.setIfInBounds_toArray, List.set_cons_zero, List.set_cons_succ])
  refine' wpEnd_take 15 rfl (by kernel_rfl) hS5 (Or.inl ⟨by rfl, fun wq hSq => _⟩) _
  rotate_left
  · (obtain ⟨q0, q1⟩ := hSq; go_simp; (try with_reducible rfl))
  simp only [Act.put, List.setIfInBounds_toArray, List.set_cons_zero, List.set_cons_succ]
  refine wpEnd_ready [16] (by kernel_rfl) rfl (AllE.cons rfl (fun K hK => ?_) AllE.nil)
  go_simp
  refine hK.out _ _ (.inl rfl) ?_
  clear hK K
  refine wpEnd_done (by kernel_rfl) ?_
  have HS5 := Frame.hid hS5
  clear hS0 hS5 e0 e1 f0 f1
  have hml1 : m0 - 1 = ml := by have := HML.out; omega
  generalize ((w3.setCell ⟨g, 0, none⟩ (.float .f32 s0)).setCell ⟨g, m0, none⟩ (.float .f32 s1)).drew = w5 at *
  have HZ5 : Hid (MidI xs ys m0 0 (((List.replicate (m0 + 1) 0).set 0 s0).set m0 s1)) := MidI.start hm0p (by rw [HS01.out.1]; exact HSL.out 0 hm0p) (by rw [HS01.out.2, hml1]; exact HSL.out ml (by have := HML.out; omega))
  have hg53 : gr < w3.heap.size := Nat.lt_trans hgr3 hg3
  have hgrne : gr ≠ g := Nat.ne_of_lt hgr3
  have HGR := Frame.hid (And.intro hg53 hgrne)
  have HG3 := Frame.hid hg3
  clear HKS HS5 HS01 hwr hlm hgr3 hg3 hg53 hgrne hs2 hs1 hm0i
  have hmlm : ml < m0 := by have := HML.out; omega
  by_cases hcr : cr = 1
  · have hml0 : ml = 0 := by have := HCAP.out; have := HML.out; omega
    have HML0 := Frame.hid hml0
    clear hml0
    subst hcr
    go_wp2_with fail
    go_loopw [44] (fun i wr => MidW xs ys m0 g w w3 i wr) (fun i _ => m0 - (intOf i).toNat)
    case atStart => exact ⟨0, _, by omega, rfl, HZ5.out, HO5.out, HX5.out, HB5.out⟩
    case round =>
      obtain ⟨k, zs, hk, rfl, hM, hO, hX, hB⟩ := hrel
      have HMI := Frame.hid hM
      have HO := Frame.hid hO
      have HX := Frame.hid hX
      have HB := Frame.hid hB
      have hzl : zs.length = m0 + 1 := hM.1
      have HZL := Frame.hid hzl
      clear hM hO hX hB HZ5 HO5 HX5 HB5 hzl
      by_cases hlt : k < ml
      · exact absurd HML0.out (by omega)
      · have HSTL : Hid (SteadyL xs ys m0 0 zs) := HMI.out.done (by have := HML.out; omega)
        clear HMI
        go_wp2_with fail
        clear hlt
        go_loopw [72] (fun i wr => StW xs ys m0 g w w3 i wr) (fun i _ => m0 - (intOf i).toNat)
        case atStart => exact ⟨0, _, Nat.zero_le _, rfl, HSTL.out, HO.out, HX.out, HB.out⟩
        case round =>
          obtain ⟨k2, zs2, hk2, rfl, hS2, hO2, hX2, hB2⟩ := hrel
          have HS2 := Frame.hid hS2
          have HO2 := Frame.hid hO2
          have HX2 := Frame.hid hX2
          have HB2 := Frame.hid hB2
          have HZ2 := Frame.hid hS2.len
          clear hS2 hO2 hX2 hB2 HSTL HO HX HB HZL
          by_cases hlt2 : k2 < m0
          · have hrc : ∀ i, i < m0 → wr.cell? ⟨gr, off + i * 2, none⟩ = some (.float .f32 (l.getD i (0, 0)).1) ∧ wr.cell? ⟨gr, off + i * 2 + 1, none⟩ = some (.float .f32 (l.getD i (0, 0)).2) := fun i hi => ⟨(HX2.out.cell HGR.out.1 HGR.out.2).trans (HLC.out i hi).1, (HX2.out.cell HGR.out.1 HGR.out.2).trans (HLC.out i hi).2⟩
            obtain ⟨a0, a1⟩ := hrc k2 hlt2
            have HSA := Frame.hid (HSL.out k2 hlt2)
            generalize (l.getD k2 (0, 0)).1 = wa at a0
            generalize (l.getD k2 (0, 0)).2 = sa at a1 HSA
            have hgrw : gr < wr.heap.size := Nat.lt_of_lt_of_le HGR.out.1 HX2.out.s
            have hk47 : k2 < 1000 := by have := HMM.out; omega
            clear hrc
            have hO := HO2.out
            have za0 := hO.cell HZ2.out.symm (j := k2) (by have := HZ2.out; omega)
            have zb0 := hO.cell HZ2.out.symm (j := k2 + 1) (by have := HZ2.out; omega)
            obtain ⟨za, hza⟩ : ∃ za, za = zs2.getD k2 0 := ⟨_, rfl⟩
            obtain ⟨zb, hzb⟩ : ∃ zb, zb = zs2.getD (k2 + 1) 0 := ⟨_, rfl⟩
            rw [← hza] at za0
            rw [← hzb] at zb0
            have HZAB := Frame.hid (And.intro hza hzb)
            have hgw : g < wr.heap.size := (World.ownsRow.lt hO g rfl).2
            clear hza hzb hO
            have hi1 : (k2 : Int) < (m0 : Int) + 1 := by omega
            have hi2 : IntKind.i64.wrap ((k2 : Int) + 1) = (k2 : Int) + 1 := by rw [IntKind.wrap_i64]; omega
            have hi3 : (0 : Int) ≤ (k2 : Int) + 1 := by omega
            have hi4 : (k2 : Int) < (m0 : Int) := by omega
            have hi5 : ((k2 : Int) + 1).toNat = k2 + 1 := by omega
            go_wp2_with fail
            refine region_hand 23 (fun W => W.cell? ⟨g, k2 + 1, none⟩ = some (.float .f32 zb) ∧ W.cell? ⟨wr.heap.size, 1, none⟩ = some (.float .f32 sa)) (by kernel_rfl) ?_
            obtain ⟨X0, hX0⟩ : ∃ X, X = (wr.alloc (Obj.cells #[.float .f32 wa, .float .f32 sa] 88)).drew := ⟨_, rfl⟩
            rw [← hX0]
            have hBX : Below wr.heap.size wr X0 := by rw [hX0]; exact ((Below.refl _ _).alloc (Nat.le_refl _) _).drew
            have hc8 : X0.cell? ⟨g, k2, none⟩ = some (.float .f32 za) := (hBX.cell hgw).trans za0
            have hcn : X0.cell? ⟨wr.heap.size, 1, none⟩ = some (.float .f32 sa) := by rw [hX0]; exact (two_here wr (.float .f32 wa) (.float .f32 sa) _).2
            have hcl : wr.heap.size < X0.heap.size := by rw [hX0]; simp [World.drew]
            have hKS : ∀ W, Below X0.heap.size X0 W → W.cell? ⟨g, k2 + 1, none⟩ = some (.float .f32 zb) ∧ W.cell? ⟨wr.heap.size, 1, none⟩ = some (.float .f32 sa) := fun W h => ⟨(h.cell (Nat.lt_of_lt_of_le hgw hBX.size)).trans ((hBX.cell hgw).trans zb0), (h.cell hcl).trans hcn⟩
            have hS0 := hKS _ (Below.refl _ _)
            have HKS := Frame.hid hKS
            have HBX := Frame.hid hBX
            clear hX0 hKS za0 zb0 a0 a1 hBX hcn hcl
            refine' wpEnd_take 0 rfl (by kernel_rfl) hS0 (Or.inl ⟨by rfl, fun wq hSq => _⟩) _
            rotate_left
            · (obtain ⟨q0, q1⟩ := hSq; go_simp; (try with_reducible rfl))
            simp only [Act.put, List.setIfInBounds_toArray, List.set_cons_zero, List.set_cons_succ]
            refine' wpEnd_take 1 rfl (by kernel_rfl) hS0 (Or.inl ⟨by rfl, fun wq hSq => _⟩) _
            rotate_left
            · (obtain ⟨q0, q1⟩ := hSq; go_simp; (try with_reducible rfl))
            simp only [Act.put, List.setIfInBounds_toArray, List.set_cons_zero, List.set_cons_succ]
            refine' wpEnd_take 2 rfl (by kernel_rfl) hS0 (Or.inl ⟨by rfl, fun wq hSq => _⟩) _
            rotate_left
            · (obtain ⟨q0, q1⟩ := hSq; go_simp; (try with_reducible rfl))
            simp only [Act.put, List.setIfInBounds_toArray, List.set_cons_zero, List.set_cons_succ]
            refine' wpEnd_take 3 rfl (by kernel_rfl) hS0 (Or.inl ⟨by rfl, fun wq hSq => _⟩) _
            rotate_left
            · (obtain ⟨q0, q1⟩ := hSq; go_simp; (try with_reducible rfl))
            simp only [Act.put, List.setIfInBounds_toArray, List.set_cons_zero, List.set_cons_succ]
            refine' wpEnd_take 4 rfl (by kernel_rfl) hS0 (Or.inl ⟨by rfl, fun wq hSq => _⟩) _
            rotate_left
            · (obtain ⟨q0, q1⟩ := hSq; go_simp; (try with_reducible rfl))
            simp only [Act.put, List.setIfInBounds_toArray, List.set_cons_zero, List.set_cons_succ]
            refine' wpEnd_take 5 rfl (by kernel_rfl) hS0 (Or.inl ⟨by rfl, fun wq hSq => _⟩) _
            rotate_left
            · (obtain ⟨q0, q1⟩ := hSq; go_simp; (try with_reducible rfl))
            simp only [Act.put, List.setIfInBounds_toArray, List.set_cons_zero, List.set_cons_succ]
            refine' wpEnd_take 6 rfl (by kernel_rfl) hS0 (Or.inl ⟨by rfl, fun wq hSq => _⟩) _
            rotate_left
            · (obtain ⟨q0, q1⟩ := hSq; go_simp; (try with_reducible rfl))
            simp only [Act.put, List.setIfInBounds_toArray, List.set_cons_zero, List.set_cons_succ]
            refine' wpEnd_take 7 rfl (by kernel_rfl) hS0 (Or.inl ⟨by rfl, fun wq hSq => _⟩) _
            rotate_left
            · (obtain ⟨q0, q1⟩ := hSq; go_simp; (try with_reducible rfl))
            simp only [Act.put, List.setIfInBounds_toArray, List.set_cons_zero, List.set_cons_succ]
            refine' wpEnd_take 9 rfl (by kernel_rfl) hS0 (Or.inl ⟨by rfl, fun wq hSq => _⟩) _
            rotate_left
            · (obtain ⟨q0, q1⟩ := hSq; go_simp; (try with_reducible rfl))
            simp only [Act.put, List.setIfInBounds_toArray, List.set_cons_zero, List.set_cons_succ]
            refine' wpEnd_take 10 rfl (by kernel_rfl) hS0 (Or.inl ⟨by rfl, fun wq hSq => _⟩) _
            rotate_left
            · (obtain ⟨q0, q1⟩ := hSq; go_simp; (try with_reducible rfl))
            simp only [Act.put, List.setIfInBounds_toArray, List.set_cons_zero, List.set_cons_succ]
            refine' wpEnd_take 11 rfl (by kernel_rfl) hS0 (Or.inl ⟨by rfl, fun wq hSq => _⟩) _
            rotate_left
            · (obtain ⟨q0, q1⟩ := hSq; go_simp; (try with_reducible rfl))
            simp only [Act.put, List.setIfInBounds_toArray, List.set_cons_zero, List.set_cons_succ]
            refine' wpEnd_take 12 rfl (by kernel_rfl) hS0 (Or.inl ⟨by rfl, fun wq hSq => _⟩) _
            rotate_left
            · (obtain ⟨q0, q1⟩ := hSq; go_simp; (try with_reducible rfl))
            simp only [Act.put, List.setIfInBounds_toArray, List.set_cons_zero, List.set_cons_succ]
            refine' wpEnd_take 13 rfl (by kernel_rfl) hS0 (Or.inl ⟨by rfl, fun wq hSq => _⟩) _
            rotate_left
            · (obtain ⟨q0, q1⟩ := hSq; go_simp; (try with_reducible rfl))
            simp only [Act.put, List.setIfInBounds_toArray, List.set_cons_zero, List.set_cons_succ]
            refine' wpEnd_take 14 rfl (by kernel_rfl) hS0 (Or.inl ⟨by rfl, fun wq hSq => _⟩) _
            rotate_left
            · (obtain ⟨q0, q1⟩ := hSq; go_simp; (try with_reducible rfl))
            simp only [Act.put, List.setIfInBounds_toArray, List.set_cons_zero, List.set_cons_succ]
            refine' wpEnd_take 15 rfl (by kernel_rfl) hS0 (Or.inl ⟨by rfl, fun wq hSq => _⟩) _
            rotate_left
            · (obtain ⟨q0, q1⟩ := hSq; go_simp; (try with_reducible rfl))
            simp only [Act.put, List.setIfInBounds_toArray, List.set_cons_zero, List.set_cons_succ]
            refine wpEnd_ready [8] (by kernel_rfl) rfl (AllE.cons rfl (fun K hK => ?_) AllE.nil)
            go_simp
            refine hK.out _ _ (.inr hS0) ?_
            clear hK K
            (try simp only [Act.put, List.setIfInBounds_toArray, List.set_cons_zero, List.set_cons_succ])
            refine wpEnd_ready [16] (by kernel_rfl) rfl (AllE.cons rfl (fun K hK => ?_) AllE.nil)
            go_simp
            go_at_call 59
            refine (steadied_calls _ _ _ _).mono ?_
            rintro e_ w7 ⟨f', l', rfl, hst, hB7⟩
            have hS7 := HKS.out _ hB7
            refine hK.out _ _ (.inr hS7) ?_
            clear hK K
            (try simp only [Act.put, List.setIfInBounds_toArray, List.set_cons_zero, List.set_cons_succ])
            have HB7 := Frame.hid (HBX.out.trans (hB7.mono HBX.out.size))
            have HST := Frame.hid hst
            have hO7 := HO2.out.below HB7.out
            have c7 := hO7.cell HZ2.out.symm (j := k2) (by have := HZ2.out; omega)
            have d7 := hO7.cell HZ2.out.symm (j := k2 + 1) (by have := HZ2.out; omega)
            have f7 := hO7.froz HZ2.out.symm k2
            have g7 := hO7.froz HZ2.out.symm (k2 + 1)
            have hO8 := OwnF.put hO7 HZ2.out.symm k2 f'
            have HO9 := Frame.hid (OwnF.put hO8 (by rw [List.length_set]; exact HZ2.out.symm) (k2 + 1) l')
            have hS8 : (w7.setCell ⟨g, k2, none⟩ (.float .f32 f')).cell? ⟨g, k2 + 1, none⟩ = some (.float .f32 zb) ∧ (w7.setCell ⟨g, k2, none⟩ (.float .f32 f')).cell? ⟨wr.heap.size, 1, none⟩ = some (.float .f32 sa) := ⟨by rw [hO8.cell (by rw [List.length_set]; exact HZ2.out.symm) (j := k2 + 1) (by rw [List.length_set]; have := HZ2.out; omega), getD_set_ne (by omega), ← HZAB.out.2], by rw [World.cell?_of_block (a := ⟨wr.heap.size, 1, none⟩) (Below.heap_setCell w7 ⟨g, k2, none⟩ _ _ (by simp; omega))]; exact hS7.2⟩
            generalize zs2.getD k2 0 = z7 at c7
            generalize zs2.getD (k2 + 1) 0 = z8 at d7
            clear hst hB7 hO7 hO8 hc8 hS0
            refine' wpEnd_take 17 rfl (by kernel_rfl) hS7 (Or.inl ⟨by rfl, fun wq hSq => _⟩) _
            rotate_left
            · (obtain ⟨q0, q1⟩ := hSq; go_simp; (try with_reducible rfl))
            simp only [Act.put, List.setIfInBounds_toArray, List.set_cons_zero, List.set_cons_succ]
            refine' wpEnd_take 18 rfl (by kernel_rfl) hS7 (Or.inl ⟨by rfl, fun wq hSq => _⟩) _
            rotate_left
            · (obtain ⟨q0, q1⟩ := hSq; go_simp; (try with_reducible rfl))
            simp only [Act.put, List.setIfInBounds_toArray, List.set_cons_zero, List.set_cons_succ]
            refine' wpEnd_take 19 rfl (by kernel_rfl) hS7 (Or.inl ⟨by rfl, fun wq hSq => _⟩) _
            rotate_left
            · (obtain ⟨q0, q1⟩ := hSq; go_simp; (try with_reducible rfl))
            simp only [Act.put, List.setIfInBounds_toArray, List.set_cons_zero, List.set_cons_succ]
            refine' wpEnd_take 20 rfl (by kernel_rfl) hS7 (Or.inl ⟨by rfl, fun wq hSq => _⟩) _
            rotate_left
            · (obtain ⟨q0, q1⟩ := hSq; go_simp; (try with_reducible rfl))
            simp only [Act.put, List.setIfInBounds_toArray, List.set_cons_zero, List.set_cons_succ]
            refine wpEnd_ready [21] (by kernel_rfl) rfl (AllE.cons rfl (fun K hK => ?_) AllE.nil)
            go_simp
            refine hK.out _ _ (.inr hS8) ?_
            clear hK K
            (try simp only [Act.put, List.setIfInBounds_toArray, List.set_cons_zero, List.set_cons_succ])
            refine' wpEnd_take 22 rfl (by kernel_rfl) hS8 (Or.inl ⟨by rfl, fun wq hSq => _⟩) _
            rotate_left
            · (obtain ⟨q0, q1⟩ := hSq; go_simp; (try with_reducible rfl))
            simp only [Act.put, List.setIfInBounds_toArray, List.set_cons_zero, List.set_cons_succ]
            refine wpEnd_ready [23] (by kernel_rfl) rfl (AllE.cons rfl (fun K hK => ?_) AllE.nil)
            go_simp
            refine hK.out _ _ (.inl rfl) ?_
            clear hK K
            refine wpEnd_done (by kernel_rfl) ?_
            clear c7 d7 f7 g7 hS7 hS8
            go_wp2_with fail
            go_roundw
            case rel => exact ⟨k2 + 1, _, by omega, by go_num, ⟨zs2, HS2.out, sa, f', l', HSA.out, by rw [← HZAB.out.1, ← HZAB.out.2]; exact HST.out, rfl⟩, HO9.out, (HX2.out.below HB7.out).put.put, ((HB2.out.trans (HB7.out.mono HB2.out.size)).setCell (p := ⟨g, _, none⟩) HGB.out _).setCell (p := ⟨g, _, none⟩) HGB.out _⟩
            case measure => simp [intOf]; omega
          · obtain rfl : k2 = m0 := by omega
            have hrd := HO2.out.rd HZ2.out.symm
            go_wp2_with fail
            rw [← HZ2.out]
            refine (numsIfFinite_calls _ zs2 _ _ (by have := HZ2.out; have := HMM.out; omega) hrd).mono ?_
            rintro e w7 ⟨v, ok, rfl, hok, hv1, hv0, m, rfl⟩
            have HOK := Frame.hid hok
            have HV1 := Frame.hid hv1
            have HV0 := Frame.hid hv0
            clear hrd hok hv1 hv0
            go_wp2_with fail
            go_ret2
            refine ⟨_, zs2, _, rfl, HS2.out, HOK.out, fun h => ?_, HV0.out, below_drewN HB2.out _⟩
            rw [HV1.out h]
            have h := (HO2.out.below (below_drewN (Below.refl _ _) m))
            rwa [← HZ2.out] at h
  · go_wp2_with fail
    go_loopw [44] (fun i wr => MidW xs ys m0 g w w3 i wr) (fun i _ => m0 - (intOf i).toNat)
    case atStart => exact ⟨0, _, by omega, rfl, HZ5.out, HO5.out, HX5.out, HB5.out⟩
    case round =>
      obtain ⟨k, zs, hk, rfl, hM, hO, hX, hB⟩ := hrel
      have HMI := Frame.hid hM
      have HO := Frame.hid hO
      have HX := Frame.hid hX
      have HB := Frame.hid hB
      have hzl : zs.length = m0 + 1 := hM.1
      have HZL := Frame.hid hzl
      clear hM hO hX hB HZ5 HO5 HX5 HB5 hzl
      by_cases hlt : k < ml
      · have hrc : ∀ i, i < m0 → wr.cell? ⟨gr, off + i * 2, none⟩ = some (.float .f32 (l.getD i (0, 0)).1) ∧ wr.cell? ⟨gr, off + i * 2 + 1, none⟩ = some (.float .f32 (l.getD i (0, 0)).2) := fun i hi => ⟨(HX.out.cell HGR.out.1 HGR.out.2).trans (HLC.out i hi).1, (HX.out.cell HGR.out.1 HGR.out.2).trans (HLC.out i hi).2⟩
        obtain ⟨a0, a1⟩ := hrc k (by omega)
        obtain ⟨b0, b1⟩ := hrc (k + 1) (by omega)
        have HSA := Frame.hid (HSL.out k (by omega))
        have HSB := Frame.hid (HSL.out (k + 1) (by omega))
        rw [show off + (k + 1) * 2 = off + 2 + k * 2 by omega] at b0 b1
        generalize (l.getD k (0, 0)).1 = wa at a0
        generalize (l.getD (k + 1) (0, 0)).1 = wb at b0
        generalize (l.getD k (0, 0)).2 = sa at a1 HSA
        generalize (l.getD (k + 1) (0, 0)).2 = sb at b1 HSB
        have hkm : k < m0 := by omega
        have hgrw : gr < wr.heap.size := Nat.lt_of_lt_of_le HGR.out.1 HX.out.s
        have hk47 : k < 1000 := by have := HMM.out; omega
        clear hrc
        go_wp2_with fail
        refine upon_arith _ _ _ _ _ rfl ?_
        intro p n1 hp _
        have HP := Frame.hid hp
        clear hp a0 a1 b0 b1
        cases hgt : gtW p 0
        · have HG := Frame.hid hgt
          unfold gtW at hgt
          have hBA : Below wr.heap.size wr ((((wr.alloc (Obj.cells #[Value.float FloatKind.f32 wb, Value.float FloatKind.f32 sb] 88)).alloc (Obj.cells #[Value.float FloatKind.f32 wa, Value.float FloatKind.f32 sa] 88))).drewN n1) := by (apply jbel_of; (repeat (first | apply jbelow_dn | apply jbelow_al | (refine jbelow_sc (by first | (simp; done) | (simp; omega) | omega) ?_ _))); exact jbelow_st _)
          have HBA := Frame.hid hBA
          clear hBA
          go_wp2_with fail
          go_roundw
          case rel => exact ⟨k + 1, zs, by omega, by go_num, HMI.out.stay (by omega) ⟨sa, sb, p, HSA.out, HSB.out, HP.out, .inr ⟨HG.out, rfl⟩⟩, HO.out.below HBA.out, HX.out.below HBA.out, HB.out.trans (HBA.out.mono HB.out.size)⟩
          case measure => simp [intOf]; omega
        · have HG := Frame.hid hgt
          unfold gtW at hgt
          go_wp2_with fail
          refine upon_arith _ _ _ _ _ rfl ?_
          intro q n2 hq _
          have HQ := Frame.hid hq
          clear hq
          go_wp2_with fail
          refine (halfB_calls _ _).mono ?_
          rintro e w7 ⟨z, rfl, hz, hB7⟩
          have HB7 : Hid (Below wr.heap.size wr w7) := (below_ch (by repeat' first | exact below_st _ | apply below_dn | apply below_al) hB7 rfl).2
          have HZ := Frame.hid hz
          have hO7 := HO.out.below HB7.out
          have c7 := hO7.cell HZL.out.symm (j := k + 1) (by have := HZL.out; omega)
          have f7 := hO7.froz HZL.out.symm (k + 1)
          have HO7 := Frame.hid hO7
          generalize zs.getD (k + 1) 0 = z7 at c7
          clear hz hB7 hO7
          go_wp2_with fail
          go_roundw
          case rel => exact ⟨k + 1, zs.set (k + 1) z, by omega, by go_num, HMI.out.step (by omega) ⟨sa, sb, p, HSA.out, HSB.out, HP.out, .inl ⟨HG.out, q, HQ.out, HZ.out⟩⟩, OwnF.put HO7.out HZL.out.symm (k + 1) z, (HX.out.below HB7.out).put, (HB.out.trans (HB7.out.mono HB.out.size)).setCell (p := ⟨g, _, none⟩) HGB.out _⟩
          case measure => simp [intOf]; omega
      · have HSTL : Hid (SteadyL xs ys m0 0 zs) := HMI.out.done (by have := HML.out; omega)
        clear HMI
        go_wp2_with fail
        clear hlt
        go_loopw [72] (fun i wr => StW xs ys m0 g w w3 i wr) (fun i _ => m0 - (intOf i).toNat)
        case atStart => exact ⟨0, _, Nat.zero_le _, rfl, HSTL.out, HO.out, HX.out, HB.out⟩
        case round =>
          obtain ⟨k2, zs2, hk2, rfl, hS2, hO2, hX2, hB2⟩ := hrel
          have HS2 := Frame.hid hS2
          have HO2 := Frame.hid hO2
          have HX2 := Frame.hid hX2
          have HB2 := Frame.hid hB2
          have HZ2 := Frame.hid hS2.len
          clear hS2 hO2 hX2 hB2 HSTL HO HX HB HZL
          by_cases hlt2 : k2 < m0
          · have hrc : ∀ i, i < m0 → wr.cell? ⟨gr, off + i * 2, none⟩ = some (.float .f32 (l.getD i (0, 0)).1) ∧ wr.cell? ⟨gr, off + i * 2 + 1, none⟩ = some (.float .f32 (l.getD i (0, 0)).2) := fun i hi => ⟨(HX2.out.cell HGR.out.1 HGR.out.2).trans (HLC.out i hi).1, (HX2.out.cell HGR.out.1 HGR.out.2).trans (HLC.out i hi).2⟩
            obtain ⟨a0, a1⟩ := hrc k2 hlt2
            have HSA := Frame.hid (HSL.out k2 hlt2)
            generalize (l.getD k2 (0, 0)).1 = wa at a0
            generalize (l.getD k2 (0, 0)).2 = sa at a1 HSA
            have hgrw : gr < wr.heap.size := Nat.lt_of_lt_of_le HGR.out.1 HX2.out.s
            have hk47 : k2 < 1000 := by have := HMM.out; omega
            clear hrc
            have hO := HO2.out
            have za0 := hO.cell HZ2.out.symm (j := k2) (by have := HZ2.out; omega)
            have zb0 := hO.cell HZ2.out.symm (j := k2 + 1) (by have := HZ2.out; omega)
            obtain ⟨za, hza⟩ : ∃ za, za = zs2.getD k2 0 := ⟨_, rfl⟩
            obtain ⟨zb, hzb⟩ : ∃ zb, zb = zs2.getD (k2 + 1) 0 := ⟨_, rfl⟩
            rw [← hza] at za0
            rw [← hzb] at zb0
            have HZAB := Frame.hid (And.intro hza hzb)
            have hgw : g < wr.heap.size := (World.ownsRow.lt hO g rfl).2
            clear hza hzb hO
            have hi1 : (k2 : Int) < (m0 : Int) + 1 := by omega
            have hi2 : IntKind.i64.wrap ((k2 : Int) + 1) = (k2 : Int) + 1 := by rw [IntKind.wrap_i64]; omega
            have hi3 : (0 : Int) ≤ (k2 : Int) + 1 := by omega
            have hi4 : (k2 : Int) < (m0 : Int) := by omega
            have hi5 : ((k2 : Int) + 1).toNat = k2 + 1 := by omega
            go_wp2_with fail
            refine region_hand 23 (fun W => W.cell? ⟨g, k2 + 1, none⟩ = some (.float .f32 zb) ∧ W.cell? ⟨wr.heap.size, 1, none⟩ = some (.float .f32 sa)) (by kernel_rfl) ?_
            obtain ⟨X0, hX0⟩ : ∃ X, X = (wr.alloc (Obj.cells #[.float .f32 wa, .float .f32 sa] 88)).drew := ⟨_, rfl⟩
            rw [← hX0]
            have hBX : Below wr.heap.size wr X0 := by rw [hX0]; exact ((Below.refl _ _).alloc (Nat.le_refl _) _).drew
            have hc8 : X0.cell? ⟨g, k2, none⟩ = some (.float .f32 za) := (hBX.cell hgw).trans za0
            have hcn : X0.cell? ⟨wr.heap.size, 1, none⟩ = some (.float .f32 sa) := by rw [hX0]; exact (two_here wr (.float .f32 wa) (.float .f32 sa) _).2
            have hcl : wr.heap.size < X0.heap.size := by rw [hX0]; simp [World.drew]
            have hKS : ∀ W, Below X0.heap.size X0 W → W.cell? ⟨g, k2 + 1, none⟩ = some (.float .f32 zb) ∧ W.cell? ⟨wr.heap.size, 1, none⟩ = some (.float .f32 sa) := fun W h => ⟨(h.cell (Nat.lt_of_lt_of_le hgw hBX.size)).trans ((hBX.cell hgw).trans zb0), (h.cell hcl).trans hcn⟩
            have hS0 := hKS _ (Below.refl _ _)
            have HKS := Frame.hid hKS
            have HBX := Frame.hid hBX
            clear hX0 hKS za0 zb0 a0 a1 hBX hcn hcl
            refine' wpEnd_take 0 rfl (by kernel_rfl) hS0 (Or.inl ⟨by rfl, fun wq hSq => _⟩) _
            rotate_left
            · (obtain ⟨q0, q1⟩ := hSq; go_simp; (try with_reducible rfl))
            simp only [Act.put, List.setIfInBounds_toArray, List.set_cons_zero, List.set_cons_succ]
            refine' wpEnd_take 1 rfl (by kernel_rfl) hS0 (Or.inl ⟨by rfl, fun wq hSq => _⟩) _
            rotate_left
            · (obtain ⟨q0, q1⟩ := hSq; go_simp; (try with_reducible rfl))
            simp only [Act.put, List.setIfInBounds_toArray, List.set_cons_zero, List.set_cons_succ]
            refine' wpEnd_take 2 rfl (by kernel_rfl) hS0 (Or.inl ⟨by rfl, fun wq hSq => _⟩) _
            rotate_left
            · (obtain ⟨q0, q1⟩ := hSq; go_simp; (try with_reducible rfl))
            simp only [Act.put, List.setIfInBounds_toArray, List.set_cons_zero, List.set_cons_succ]
            refine' wpEnd_take 3 rfl (by kernel_rfl) hS0 (Or.inl ⟨by rfl, fun wq hSq => _⟩) _
            rotate_left
            · (obtain ⟨q0, q1⟩ := hSq; go_simp; (try with_reducible rfl))
            simp only [Act.put, List.setIfInBounds_toArray, List.set_cons_zero, List.set_cons_succ]
            refine' wpEnd_take 4 rfl (by kernel_rfl) hS0 (Or.inl ⟨by rfl, fun wq hSq => _⟩) _
            rotate_left
            · (obtain ⟨q0, q1⟩ := hSq; go_simp; (try with_reducible rfl))
            simp only [Act.put, List.setIfInBounds_toArray, List.set_cons_zero, List.set_cons_succ]
            refine' wpEnd_take 5 rfl (by kernel_rfl) hS0 (Or.inl ⟨by rfl, fun wq hSq => _⟩) _
            rotate_left
            · (obtain ⟨q0, q1⟩ := hSq; go_simp; (try with_reducible rfl))
            simp only [Act.put, List.setIfInBounds_toArray, List.set_cons_zero, List.set_cons_succ]
            refine' wpEnd_take 6 rfl (by kernel_rfl) hS0 (Or.inl ⟨by rfl, fun wq hSq => _⟩) _
            rotate_left
            · (obtain ⟨q0, q1⟩ := hSq; go_simp; (try with_reducible rfl))
            simp only [Act.put, List.setIfInBounds_toArray, List.set_cons_zero, List.set_cons_succ]
            refine' wpEnd_take 7 rfl (by kernel_rfl) hS0 (Or.inl ⟨by rfl, fun wq hSq => _⟩) _
            rotate_left
            · (obtain ⟨q0, q1⟩ := hSq; go_simp; (try with_reducible rfl))
            simp only [Act.put, List.setIfInBounds_toArray, List.set_cons_zero, List.set_cons_succ]
            refine' wpEnd_take 9 rfl (by kernel_rfl) hS0 (Or.inl ⟨by rfl, fun wq hSq => _⟩) _
            rotate_left
            · (obtain ⟨q0, q1⟩ := hSq; go_simp; (try with_reducible rfl))
            simp only [Act.put, List.setIfInBounds_toArray, List.set_cons_zero, List.set_cons_succ]
            refine' wpEnd_take 10 rfl (by kernel_rfl) hS0 (Or.inl ⟨by rfl, fun wq hSq => _⟩) _
            rotate_left
            · (obtain ⟨q0, q1⟩ := hSq; go_simp; (try with_reducible rfl))
            simp only [Act.put, List.setIfInBounds_toArray, List.set_cons_zero, List.set_cons_succ]
            refine' wpEnd_take 11 rfl (by kernel_rfl) hS0 (Or.inl ⟨by rfl, fun wq hSq => _⟩) _
            rotate_left
            · (obtain ⟨q0, q1⟩ := hSq; go_simp; (try with_reducible rfl))
            simp only [Act.put, List.setIfInBounds_toArray, List.set_cons_zero, List.set_cons_succ]
            refine' wpEnd_take 12 rfl (by kernel_rfl) hS0 (Or.inl ⟨by rfl, fun wq hSq => _⟩) _
            rotate_left
            · (obtain ⟨q0, q1⟩ := hSq; go_simp; (try with_reducible rfl))
            simp only [Act.put, List.setIfInBounds_toArray, List.set_cons_zero, List.set_cons_succ]
            refine' wpEnd_take 13 rfl (by kernel_rfl) hS0 (Or.inl ⟨by rfl, fun wq hSq => _⟩) _
            rotate_left
            · (obtain ⟨q0, q1⟩ := hSq; go_simp; (try with_reducible rfl))
            simp only [Act.put, List.setIfInBounds_toArray, List.set_cons_zero, List.set_cons_succ]
            refine' wpEnd_take 14 rfl (by kernel_rfl) hS0 (Or.inl ⟨by rfl, fun wq hSq => _⟩) _
            rotate_left
            · (obtain ⟨q0, q1⟩ := hSq; go_simp; (try with_reducible rfl))
            simp only [Act.put, List.setIfInBounds_toArray, List.set_cons_zero, List.set_cons_succ]
            refine' wpEnd_take 15 rfl (by kernel_rfl) hS0 (Or.inl ⟨by rfl, fun wq hSq => _⟩) _
            rotate_left
            · (obtain ⟨q0, q1⟩ := hSq; go_simp; (try with_reducible rfl))
            simp only [Act.put, List.setIfInBounds_toArray, List.set_cons_zero, List.set_cons_succ]
            refine wpEnd_ready [8] (by kernel_rfl) rfl (AllE.cons rfl (fun K hK => ?_) AllE.nil)
            go_simp
            refine hK.out _ _ (.inr hS0) ?_
            clear hK K
            (try simp only [Act.put, List.setIfInBounds_toArray, List.set_cons_zero, List.set_cons_succ])
            refine wpEnd_ready [16] (by kernel_rfl) rfl (AllE.cons rfl (fun K hK => ?_) AllE.nil)
            go_simp
            go_at_call 59
            refine (steadied_calls _ _ _ _).mono ?_
            rintro e_ w7 ⟨f', l', rfl, hst, hB7⟩
            have hS7 := HKS.out _ hB7
            refine hK.out _ _ (.inr hS7) ?_
            clear hK K
            (try simp only [Act.put, List.setIfInBounds_toArray, List.set_cons_zero, List.set_cons_succ])
            have HB7 := Frame.hid (HBX.out.trans (hB7.mono HBX.out.size))
            have HST := Frame.hid hst
            have hO7 := HO2.out.below HB7.out
            have c7 := hO7.cell HZ2.out.symm (j := k2) (by have := HZ2.out; omega)
            have d7 := hO7.cell HZ2.out.symm (j := k2 + 1) (by have := HZ2.out; omega)
            have f7 := hO7.froz HZ2.out.symm k2
            have g7 := hO7.froz HZ2.out.symm (k2 + 1)
            have hO8 := OwnF.put hO7 HZ2.out.symm k2 f'
            have HO9 := Frame.hid (OwnF.put hO8 (by rw [List.length_set]; exact HZ2.out.symm) (k2 + 1) l')
            have hS8 : (w7.setCell ⟨g, k2, none⟩ (.float .f32 f')).cell? ⟨g, k2 + 1, none⟩ = some (.float .f32 zb) ∧ (w7.setCell ⟨g, k2, none⟩ (.float .f32 f')).cell? ⟨wr.heap.size, 1, none⟩ = some (.float .f32 sa) := ⟨by rw [hO8.cell (by rw [List.length_set]; exact HZ2.out.symm) (j := k2 + 1) (by rw [List.length_set]; have := HZ2.out; omega), getD_set_ne (by omega), ← HZAB.out.2], by rw [World.cell?_of_block (a := ⟨wr.heap.size, 1, none⟩) (Below.heap_setCell w7 ⟨g, k2, none⟩ _ _ (by simp; omega))]; exact hS7.2⟩
            generalize zs2.getD k2 0 = z7 at c7
            generalize zs2.getD (k2 + 1) 0 = z8 at d7
            clear hst hB7 hO7 hO8 hc8 hS0
            refine' wpEnd_take 17 rfl (by kernel_rfl) hS7 (Or.inl ⟨by rfl, fun wq hSq => _⟩) _
            rotate_left
            · (obtain ⟨q0, q1⟩ := hSq; go_simp; (try with_reducible rfl))
            simp only [Act.put, List.setIfInBounds_toArray, List.set_cons_zero, List.set_cons_succ]
            refine' wpEnd_take 18 rfl (by kernel_rfl) hS7 (Or.inl ⟨by rfl, fun wq hSq => _⟩) _
            rotate_left
            · (obtain ⟨q0, q1⟩ := hSq; go_simp; (try with_reducible rfl))
            simp only [Act.put, List.setIfInBounds_toArray, List.set_cons_zero, List.set_cons_succ]
            refine' wpEnd_take 19 rfl (by kernel_rfl) hS7 (Or.inl ⟨by rfl, fun wq hSq => _⟩) _
            rotate_left
            · (obtain ⟨q0, q1⟩ := hSq; go_simp; (try with_reducible rfl))
            simp only [Act.put, List.setIfInBounds_toArray, List.set_cons_zero, List.set_cons_succ]
            refine' wpEnd_take 20 rfl (by kernel_rfl) hS7 (Or.inl ⟨by rfl, fun wq hSq => _⟩) _
            rotate_left
            · (obtain ⟨q0, q1⟩ := hSq; go_simp; (try with_reducible rfl))
            simp only [Act.put, List.setIfInBounds_toArray, List.set_cons_zero, List.set_cons_succ]
            refine wpEnd_ready [21] (by kernel_rfl) rfl (AllE.cons rfl (fun K hK => ?_) AllE.nil)
            go_simp
            refine hK.out _ _ (.inr hS8) ?_
            clear hK K
            (try simp only [Act.put, List.setIfInBounds_toArray, List.set_cons_zero, List.set_cons_succ])
            refine' wpEnd_take 22 rfl (by kernel_rfl) hS8 (Or.inl ⟨by rfl, fun wq hSq => _⟩) _
            rotate_left
            · (obtain ⟨q0, q1⟩ := hSq; go_simp; (try with_reducible rfl))
            simp only [Act.put, List.setIfInBounds_toArray, List.set_cons_zero, List.set_cons_succ]
            refine wpEnd_ready [23] (by kernel_rfl) rfl (AllE.cons rfl (fun K hK => ?_) AllE.nil)
            go_simp
            refine hK.out _ _ (.inl rfl) ?_
            clear hK K
            refine wpEnd_done (by kernel_rfl) ?_
            clear c7 d7 f7 g7 hS7 hS8
            go_wp2_with fail
            go_roundw
            case rel => exact ⟨k2 + 1, _, by omega, by go_num, ⟨zs2, HS2.out, sa, f', l', HSA.out, by rw [← HZAB.out.1, ← HZAB.out.2]; exact HST.out, rfl⟩, HO9.out, (HX2.out.below HB7.out).put.put, ((HB2.out.trans (HB7.out.mono HB2.out.size)).setCell (p := ⟨g, _, none⟩) HGB.out _).setCell (p := ⟨g, _, none⟩) HGB.out _⟩
            case measure => simp [intOf]; omega
          · obtain rfl : k2 = m0 := by omega
            have hrd := HO2.out.rd HZ2.out.symm
            go_wp2_with fail
            rw [← HZ2.out]
            refine (numsIfFinite_calls _ zs2 _ _ (by have := HZ2.out; have := HMM.out; omega) hrd).mono ?_
            rintro e w7 ⟨v, ok, rfl, hok, hv1, hv0, m, rfl⟩
            have HOK := Frame.hid hok
            have HV1 := Frame.hid hv1
            have HV0 := Frame.hid hv0
            clear hrd hok hv1 hv0
            go_wp2_with fail
            go_ret2
            refine ⟨_, zs2, _, rfl, HS2.out, HOK.out, fun h => ?_, HV0.out, below_drewN HB2.out _⟩
            rw [HV1.out h]
            have h := (HO2.out.below (below_drewN (Below.refl _ _) m))
            rwa [← HZ2.out] at h

end Go.Proofs.Ytfkdkdocbecjmaa
