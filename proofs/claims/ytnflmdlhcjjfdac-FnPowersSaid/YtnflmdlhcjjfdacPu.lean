/-
  The law of powers and logarithms, walked.
-/
import Derived.Test.YtnflmdlhcjjfdacPv
import Derived.Test.YtnflmdlhcjjfdacPp0
import Derived.Test.YtnflmdlhcjjfdacPp1
import Derived.Test.YtnflmdlhcjjfdacPp2
import Derived.Test.YtnflmdlhcjjfdacPp3
import Derived.Test.YtnflmdlhcjjfdacPp4
import Derived.Test.YtnflmdlhcjjfdacPz
namespace Go.Proofs.Ytnflmdlhcjjfdac
open Go.RowKit Fl Ieee

theorem getD_drop (l : List Nat) (k i : Nat) : (l.drop k).getD i 0 = l.getD (k + i) 0 := by
  simp only [List.getD_eq_getElem?_getD, List.getElem?_drop]
theorem getD_take (l : List Nat) (n i : Nat) (h : i < n) : (l.take n).getD i 0 = l.getD i 0 := by
  simp only [List.getD_eq_getElem?_getD, List.getElem?_take, if_pos h]

theorem pair_part {k : Nat} (h : allB ((tabX.drop k).take 13) ((tabAw.drop k).take 13) (tabZ.drop k) (tabCw.drop k) (tabM.drop k) = true) (hl : ((tabX.drop k).take 13).length = 13) {i j : Nat} (hi : i < 13) (hj : j < 65) :
    pairB (at' tabX (k + i)) (at' tabAw (k + i)) (at' tabX j) (at' tabAw j) (at' tabZ (k + i + j)) (at' tabCw (k + i + j)) (at' tabM (k + i + j)) = true := by
  have hl2 : tabX.length = 65 := by decide
  have g := allB_ok h i (by omega) j (by omega)
  rw [getD_take _ _ _ hi, getD_take _ _ _ hi, getD_drop, getD_drop, getD_drop, getD_drop, getD_drop] at g
  have e : k + (i + j) = k + i + j := by omega
  rw [e] at g
  exact g

theorem pair_at {i j : Nat} (hi : i < 65) (hj : j < 65) : pairB (at' tabX i) (at' tabAw i) (at' tabX j) (at' tabAw j) (at' tabZ (i + j)) (at' tabCw (i + j)) (at' tabM (i + j)) = true := by
  rcases (by omega : i < 13 ∨ (13 ≤ i ∧ i < 26) ∨ (26 ≤ i ∧ i < 39) ∨ (39 ≤ i ∧ i < 52) ∨ (52 ≤ i ∧ i < 65)) with h | ⟨h, h'⟩ | ⟨h, h'⟩ | ⟨h, h'⟩ | ⟨h, h'⟩
  · have := pair_part (k := 0) allP0 (by decide) h hj
    rwa [Nat.zero_add] at this
  · obtain ⟨i', rfl⟩ : ∃ i', i = 13 + i' := ⟨i - 13, by omega⟩
    exact pair_part (k := 13) allP1 (by decide) (by omega) hj
  · obtain ⟨i', rfl⟩ : ∃ i', i = 26 + i' := ⟨i - 26, by omega⟩
    exact pair_part (k := 26) allP2 (by decide) (by omega) hj
  · obtain ⟨i', rfl⟩ : ∃ i', i = 39 + i' := ⟨i - 39, by omega⟩
    exact pair_part (k := 39) allP3 (by decide) (by omega) hj
  · obtain ⟨i', rfl⟩ : ∃ i', i = 52 + i' := ⟨i - 52, by omega⟩
    exact pair_part (k := 52) allP4 (by decide) (by omega) hj

/-- What is known of one x. -/
def FX (i x a aw l : Nat) : Prop :=
  floatBits .quo .f32 (floatOfInt .f32 ((i : Int) - 32)) 1090519040 = some x ∧ midB x = true ∧ expO x = some a ∧ floatToFloatBits .f32 a .f64 = some aw ∧
  fin .f32 a = true ∧ FloatKind.f32.format.order a 0 = some Ordering.gt ∧ a < 4294967296 ∧ logO a = some l ∧ isNan .f32 l = false
theorem fx_at {i : Nat} (h : i < 65) : FX i (at' tabX i) (at' tabA i) (at' tabAw i) (at' tabL i) := by
  have h0 : chkX i = true := List.all_eq_true.1 allX i (List.mem_range.2 h)
  unfold chkX at h0
  simp only [Bool.and_eq_true, beq_iff_eq, Bool.not_eq_true'] at h0
  obtain ⟨⟨⟨⟨⟨⟨⟨⟨h1, h2⟩, h3⟩, h4⟩, h5⟩, h6⟩, h7⟩, h8⟩, h9⟩ := h0
  exact ⟨h1, h2, h3, h4, h5, h6, Eq.mp Nat.blt_eq h7, h8, h9⟩
/-- How near the logarithm of the power is. -/
def FLg (x l : Nat) : Prop := ∃ lw xw g, floatToFloatBits .f32 l .f64 = some lw ∧ floatToFloatBits .f32 x .f64 = some xw ∧ gapO lw xw = some g ∧ (FloatKind.f64.format.order g 4562254508917369340 == some Ordering.lt) = true
theorem fl_at {i : Nat} (h : i < 65) : FLg (at' tabX i) (at' tabL i) := by
  have h0 : chkL i = true := List.all_eq_true.1 allL i (List.mem_range.2 h)
  unfold chkL at h0
  rw [beq_iff_eq] at h0
  obtain ⟨lw, h1, h0⟩ := bnd h0
  obtain ⟨xw, h2, h0⟩ := bnd h0
  obtain ⟨g, h3, h0⟩ := bnd h0
  injection h0 with h0
  exact ⟨lw, xw, g, h1, h2, h3, h0⟩
def FZ (z c cw m : Nat) : Prop := midB z = true ∧ expO z = some c ∧ floatToFloatBits .f32 c .f64 = some cw ∧ floatBits .mul .f64 4562254508917369340 cw = some m
theorem fz_at {k : Nat} (h : k < 129) : FZ (at' tabZ k) (at' tabC k) (at' tabCw k) (at' tabM k) := by
  have h0 : chkZ k = true := List.all_eq_true.1 allZ k (List.mem_range.2 h)
  unfold chkZ at h0
  simp only [Bool.and_eq_true, beq_iff_eq] at h0
  obtain ⟨⟨⟨h1, h2⟩, h3⟩, h4⟩ := h0
  exact ⟨h1, h2, h3, h4⟩
def FP (x aw y bw z cw m : Nat) : Prop := floatBits .add .f32 x y = some z ∧ ∃ d g, floatBits .mul .f64 aw bw = some d ∧ gapO d cw = some g ∧ (FloatKind.f64.format.order g m == some Ordering.lt) = true
theorem fp_at {i j : Nat} (hi : i < 65) (hj : j < 65) : FP (at' tabX i) (at' tabAw i) (at' tabX j) (at' tabAw j) (at' tabZ (i + j)) (at' tabCw (i + j)) (at' tabM (i + j)) := by
  have h0 := pair_at hi hj
  unfold pairB at h0
  rw [Bool.and_eq_true, beq_iff_eq, beq_iff_eq] at h0
  obtain ⟨h1, h0⟩ := h0
  obtain ⟨d, h2, h0⟩ := bnd h0
  obtain ⟨g, h3, h0⟩ := bnd h0
  injection h0 with h0
  exact ⟨h1, d, g, h2, h3, h0⟩

theorem log_told {a l r : Nat} (hb : a < 4294967296) (hf : fin .f32 a = true) (ho : FloatKind.f32.format.order a 0 = some Ordering.gt) (h : logO a = some l) (hn : isNan .f32 l = false) (g : LogV a r) : r = l := by
  rcases LogV.same (logO_ok hb hf ho h) g with e | ⟨e, _⟩
  · exact e.symm
  · rw [hn] at e; cases e

theorem exp_zero : expO 0 = some 1065353216 := by decide +kernel
theorem mid_zero : midB 0 = true := by decide +kernel
theorem log_one : (logO 1065353216).bind (fun r => some (!isNan .f32 r && FloatKind.f32.format.order r 0 == some Ordering.eq)) = some true := by decide +kernel

set_option maxHeartbeats 4000000 in
theorem powers_walk (A B : Option Addr) (zs ys : List Nat) (c d : Nat) (hz : zs.length ≤ 1048576) (hy : ys.length ≤ 1048576) (w : World) (hA : RdB w A zs) (hB : RdB w B ys) :
    Calls Try.prog 5 #[.slice A zs.length c, .slice B ys.length d] w fun e w' => e = .returned (.bool true) ∧ Below w.heap.size w w' := by
  have HA := Frame.hid hA
  have HB := Frame.hid hB
  have HZ := Frame.hid hz
  have HY := Frame.hid hy
  clear hA hB
  go_enter Try.func5, Try.ntmps5
  go_wp2_with fail
  refine (b10Long_calls _ _ _ _ _ _ (by unfold maxLen; omega) (by unfold maxLen; omega) _).mono ?_
  rintro e w' ⟨rfl, rfl⟩
  rw [decide_eq_false (show ¬ 1048576 < (zs.length : Int) by have := HZ.out; omega), decide_eq_false (show ¬ 1048576 < (ys.length : Int) by have := HY.out; omega)]
  clear hz hy
  go_wp2_with fail
  refine (b10At_calls _ zs _ HZ.out _ HA.out).mono ?_
  rintro e w' ⟨i, hi, rfl, rfl⟩
  go_wp2_with fail
  refine upon_arith _ _ _ _ _ rfl ?_
  intro x n1 hx _
  obtain ⟨x1, x2, x3, x4, x5, x6, x7, x8, x9⟩ := fx_at hi
  obtain ⟨lw, xw, g1, l1, l2, l3, l4⟩ := fl_at hi
  have e := fop_eq x1 hx
  subst e
  clear hx
  go_wp2_with fail
  refine (b10At_calls _ ys _ HY.out _ (show RdB (w.drewN n1) B ys from HB.out)).mono ?_
  rintro e w' ⟨j, hj, rfl, rfl⟩
  go_wp2_with fail
  refine upon_arith _ _ _ _ _ rfl ?_
  intro y n2 hy _
  obtain ⟨y1, y2, y3, y4, _, _, _, _, _⟩ := fx_at hj
  obtain ⟨p1, dd, g2, p2, p3, p4⟩ := fp_at hi hj
  obtain ⟨z2, z3, z4, z5⟩ := fz_at (k := i + j) (by omega)
  have e := fop_eq y1 hy
  subst e
  clear hy x1 y1
  generalize at' tabX i = x at *
  generalize at' tabX j = y at *
  generalize at' tabA i = a at *
  generalize at' tabA j = b at *
  generalize at' tabAw i = aw at *
  generalize at' tabAw j = bw at *
  generalize at' tabL i = l at *
  generalize at' tabZ (i + j) = z at *
  generalize at' tabC (i + j) = cc at *
  generalize at' tabCw (i + j) = cw at *
  generalize at' tabM (i + j) = m at *
  have X2 := Frame.hid x2
  have X3 := Frame.hid x3
  have X4 := Frame.hid x4
  have X8 := Frame.hid (show ∀ r, LogV a r → r = l from fun r h => log_told x7 x5 x6 x8 x9 h)
  have X7 := Frame.hid x7
  have L1 := Frame.hid l1
  have L2 := Frame.hid l2
  have L3 := Frame.hid l3
  have Y2 := Frame.hid y2
  have Y3 := Frame.hid y3
  have Y4 := Frame.hid y4
  have P1 := Frame.hid p1
  have P2 := Frame.hid p2
  have P3 := Frame.hid p3
  have Z2 := Frame.hid z2
  have Z3 := Frame.hid z3
  have Z4 := Frame.hid z4
  have Z5 := Frame.hid z5
  clear x2 x3 x4 x5 x7 x8 x9 l1 l2 l3 y2 y3 y4 p1 p2 p3 z2 z3 z4 z5
  go_wp2_with fail
  refine (expNumber_calls x X2.out _).mono ?_
  rintro e w' ⟨q, n3, rfl, hq, _, rfl⟩
  have e := expO_eq X3.out hq
  subst e
  clear hq
  go_wp2_with fail
  refine (expNumber_calls y Y2.out _).mono ?_
  rintro e w' ⟨q', n4, rfl, hq, _, rfl⟩
  have e := expO_eq Y3.out hq
  subst e
  clear hq
  go_wp2_with fail
  refine upon_arith _ _ _ _ _ rfl ?_
  intro z' n5 hz' _
  have e := fop_eq P1.out hz'
  subst e
  clear hz'
  go_wp2_with fail
  refine (expNumber_calls _ Z2.out _).mono ?_
  rintro e w' ⟨q'', n6, rfl, hq, _, rfl⟩
  have e := expO_eq Z3.out hq
  subst e
  clear hq
  go_wp2_with fail
  refine (logNumber_calls _ (by have := X7.out; omega) _).mono ?_
  rintro e w' ⟨l', n7, rfl, hl, _, rfl⟩
  have e := X8.out _ hl
  subst e
  clear hl
  go_wp2_with fail
  refine upon_conv _ _ .f32 .f64 _ (by decide) (.inl rfl) (by kernel_rfl) (by kernel_rfl) ?_
  intro lw' n_lw' h_lw' _
  have e := fcv_eq L1.out h_lw'
  subst e
  clear h_lw'
  go_wp2_with fail
  refine upon_conv _ _ .f32 .f64 _ (by decide) (.inl rfl) (by kernel_rfl) (by kernel_rfl) ?_
  intro xw' n_xw' h_xw' _
  have e := fcv_eq L2.out h_xw'
  subst e
  clear h_xw'
  go_wp2_with fail
  refine (b10Gap_calls _ _ _).mono ?_
  rintro e w' ⟨g', n8, rfl, hg, _, rfl⟩
  have e := gapO_eq L3.out hg
  subst e
  clear hg
  go_wp2_with fail
  refine upon_conv _ _ .f32 .f64 _ (by decide) (.inl rfl) (by kernel_rfl) (by kernel_rfl) ?_
  intro aw' n_aw' h_aw' _
  have e := fcv_eq X4.out h_aw'
  subst e
  clear h_aw'
  go_wp2_with fail
  refine upon_conv _ _ .f32 .f64 _ (by decide) (.inl rfl) (by kernel_rfl) (by kernel_rfl) ?_
  intro bw' n_bw' h_bw' _
  have e := fcv_eq Y4.out h_bw'
  subst e
  clear h_bw'
  go_wp2_with fail
  refine upon_arith _ _ _ _ _ rfl ?_
  intro d' n_d' h_d' _
  have e := fop_eq P2.out h_d'
  subst e
  clear h_d'
  go_wp2_with fail
  refine upon_conv _ _ .f32 .f64 _ (by decide) (.inl rfl) (by kernel_rfl) (by kernel_rfl) ?_
  intro cw' n_cw' h_cw' _
  have e := fcv_eq Z4.out h_cw'
  subst e
  clear h_cw'
  go_wp2_with fail
  refine (b10Gap_calls _ _ _).mono ?_
  rintro e w' ⟨g'', n9, rfl, hg, _, rfl⟩
  have e := gapO_eq P3.out hg
  subst e
  clear hg
  go_wp2_with fail
  refine upon_conv _ _ .f32 .f64 _ (by decide) (.inl rfl) (by kernel_rfl) (by kernel_rfl) ?_
  intro cw2 n_cw2 h_cw2 _
  have e := fcv_eq Z4.out h_cw2
  subst e
  clear h_cw2
  go_wp2_with fail
  refine upon_arith _ _ _ _ _ rfl ?_
  intro m' n_m' h_m' _
  have e := fop_eq Z5.out h_m'
  subst e
  clear h_m'
  go_wp2_with fail
  refine (expNumber_calls _ mid_zero _).mono ?_
  rintro e w' ⟨q0, n10, rfl, hq, _, rfl⟩
  have e := expO_eq exp_zero hq
  subst e
  clear hq
  have o1 : FloatKind.f32.format.order 1065353216 1065353216 = some Ordering.eq := by decide +kernel
  go_wp2_with fail
  refine (logNumber_calls _ (by omega) _).mono ?_
  rintro e w' ⟨r0, n11, rfl, hr0, _, rfl⟩
  obtain ⟨r1, k1, k2⟩ := bnd log_one
  injection k2 with k2
  rw [Bool.and_eq_true, Bool.not_eq_true', beq_iff_eq] at k2
  have e := log_told (by omega) (by decide) (by decide) k1 k2.1 hr0
  subst e
  have o2 := k2.2
  clear hr0 k1 k2 o1
  go_wp2_with fail
  go_ret
  exact ⟨rfl, below_drewN (Below.refl _ _) _⟩

set_option maxHeartbeats 1000000 in
theorem fnPowers_walk (A : Option Addr) (zs : List Nat) (c : Nat) (B : Option Addr) (ys : List Nat) (d : Nat) (hz : zs.length ≤ maxLen) (hy : ys.length ≤ maxLen) (w : World) (hA : RdB w A zs) (hB : RdB w B ys) :
    Calls Try.prog 5 #[.slice A zs.length c, .slice B ys.length d] w fun e w' => e = .returned (.bool true) ∧ Below w.heap.size w w' := by
  by_cases h : zs.length ≤ 1048576 ∧ ys.length ≤ 1048576
  · exact powers_walk A B zs ys c d h.1 h.2 w hA hB
  · have hd : (decide (1048576 < (zs.length : Int)) || decide (1048576 < (ys.length : Int))) = true := by
      rw [Bool.or_eq_true, decide_eq_true_eq, decide_eq_true_eq]
      omega
    clear hA hB h
    go_enter Try.func5, Try.ntmps5
    go_wp2_with fail
    refine (b10Long_calls _ _ _ _ _ _ hz hy _).mono ?_
    rintro e w' ⟨rfl, rfl⟩
    rw [hd]
    clear hd
    go_wp2_with fail
    go_ret
    exact ⟨rfl, Below.refl _ _⟩

end Go.Proofs.Ytnflmdlhcjjfdac
