/-
  FnProducts: the law, walked.
-/
import Derived.Test.YtnflmdlhcjjfdadGreatDoorQq
import Derived.Test.YtnflmdlhcjjfdadGreatDoorQe
import Derived.Test.YtnflmdlhcjjfdadGreatDoorQs
import Derived.Test.YtnflmdlhcjjfdadGreatDoorGt
import Derived.Test.YtnflmdlhcjjfdadGreatDoorNw
namespace Go.Proofs.YtnflmdlhcjjfdadGreatDoor
open Go.RowKit Go.Lib Rd Go.WideShapes Fl

theorem prod_bd {a b : Int} (ha : a.natAbs ≤ 200) (hb : b.natAbs ≤ 200) : -40000 ≤ a * b ∧ a * b ≤ 40000 := by
  have h : (a * b).natAbs ≤ 200 * 200 := by rw [Int.natAbs_mul]; exact Nat.mul_le_mul ha hb
  omega
theorem conv_of {x : Nat} {a : Int} (ha : a.natAbs ≤ 200) (h : IVs FloatKind.f32.format x a) (W : World) : (convert 28 2 (.float .f32 x)).run Tryz.prog W = .ok (.int .i64 a) W :=
  run_convert_float_int W 28 2 .f32 .i64 x a (by kernel_rfl) (by kernel_rfl) (to_int (sm32 (by omega)) (by omega) (by omega) (.inl h))

theorem ord_eq {x y : Nat} {a : Int} (ha : a.natAbs < 16777216) (hx : IV FloatKind.f32.format x a) (hy : IV FloatKind.f32.format y a) : FloatKind.f32.format.order x y = some Ordering.eq := eq_of_beq (eq_int (k := .f32) (sm32 ha) hx hy)
theorem zero_int : IV FloatKind.f32.format 0 0 := .inl (ivs_zero FloatKind.f32.format)
theorem ord_ne {x : Nat} {a : Int} (ha : a.natAbs < 16777216) (hx : IV FloatKind.f32.format x a) (h : a ≠ 0) : ¬ FloatKind.f32.format.order x 0 = some Ordering.eq := by
  rw [order_int (k := .f32) (sm32 ha) (sm32 (by decide)) hx zero_int]
  intro e
  injection e with e
  simp only [compare, compareOfLessAndEq] at e
  by_cases h1 : a < 0
  · rw [if_pos h1] at e; cases e
  · rw [if_neg h1, if_neg h] at e; cases e
theorem add_told {x y : Nat} {a b : Int} (ha : a.natAbs < 16777216) (hb : b.natAbs < 16777216) (hc : (a + b).natAbs < 16777216) (hx : IV FloatKind.f32.format x a) (hy : IV FloatKind.f32.format y b) : ∃ r, floatBits .add .f32 x y = some r ∧ IV FloatKind.f32.format r (a + b) := by
  cases h : floatBits .add .f32 x y with
  | some r => exact ⟨r, rfl, (add_int (k := .f32) (sm32 ha) (sm32 hb) (sm32 hc) hx hy (by unfold FOp; rw [h])).1⟩
  | none =>
    have h1 := (add_int (k := .f32) (r := 2143289344) (sm32 ha) (sm32 hb) (sm32 hc) hx hy (by unfold FOp; rw [h]; exact nan_one)).1
    have h2 := iv_num (k := .f32) (sm32 hc) h1
    rw [nan_one] at h2
    cases h2

theorem sq_nn (a : Int) : 0 ≤ a * a := by
  rcases Int.le_total 0 a with h | h
  · exact Int.mul_nonneg h h
  · exact Int.mul_nonneg_of_nonpos_of_nonpos h h
theorem sq_pos {a : Int} (h : a ≠ 0) : 0 < a * a := by
  have h1 := sq_nn a
  have h2 : a * a ≠ 0 := fun e => by rcases Int.mul_eq_zero.1 e with e | e <;> exact h e
  omega
theorem three_bd {a P : Int} (ha : a.natAbs ≤ 200) (hP : P.natAbs ≤ 80000) : (a * P).natAbs < 9007199254740992 := by
  have h : (a * P).natAbs ≤ 200 * 80000 := by rw [Int.natAbs_mul]; exact Nat.mul_le_mul ha hP
  omega
theorem csum_told {x1 x2 r1 r2 : Nat} (h1 : floatBits .add .f32 x1 x1 = some r1) (h2 : floatBits .add .f32 x2 x2 = some r2) (W : World) : (binOp .add 24 (.complex .f32 x1 x2) (.complex .f32 x1 x2)).run Tryz.prog W = .ok (.complex .f32 r1 r2) W :=
  run_complex_sum W .add (.inl rfl) 24 .f32 x1 x2 x1 x2 r1 r2 (by unfold cSumBits; rw [h1, h2]; rfl)
theorem OwnC.rd {w : World} {base g n cap : Nat} {zs : List (Nat × Nat)} (h : OwnC w base (.slice (some ⟨g, 0, none⟩) n cap) zs) : RdC w (some ⟨g, 0, none⟩) zs := by
  obtain ⟨A, c, hv, hr⟩ := h.reads
  injection hv with h1 _ _
  rw [h1]
  exact hr

theorem RdC.drewN {w : World} {A : Option Addr} {zs : List (Nat × Nat)} (h : RdC w A zs) (n : Nat) : RdC (w.drewN n) A zs := fun h0 => h h0
theorem bnd_of {xs : List (Nat × Nat)} (h : Bounded xs) : Bnd xs := fun j hj => by
  have e : xs.getD j (0, 0) = xs[j] := by rw [List.getD_eq_getElem?_getD, List.getElem?_eq_getElem hj]; rfl
  rw [e]
  exact h _ (List.getElem_mem hj)
theorem textC_len {xs : List (Nat × Nat)} (h : xs.length ≤ 256) : (textC xs).length ≤ 1048576 := by
  have h1 := joinC_len xs
  unfold textC
  split
  · simp
  · omega

set_option maxRecDepth 100000 in
set_option maxHeartbeats 8000000 in
theorem products_law (A B : Option Addr) (zs ys : List Nat) (c d : Nat) (hz : zs.length ≤ 1048576) (hy : ys.length ≤ 1048576) (w : World) (hA : RdB w A zs) (hB : RdB w B ys) (m : Int) (hm : w.cell? ⟨1, 0, none⟩ = some (.int .i64 m)) (hzr : ZerosAt w) :
    Calls Tryz.prog 3 #[.slice A zs.length c, .slice B ys.length d] w fun e w' => e = .returned (.bool true) ∧ Below w.heap.size w w' := by
  have HA := Frame.hid hA
  have HB := Frame.hid hB
  have HZ := Frame.hid hz
  have HY := Frame.hid hy
  have HM := Frame.hid hm
  have HZR := Frame.hid hzr
  have hL : (decide (1048576 < (zs.length : Int)) || decide (1048576 < (ys.length : Int))) = false := by
    rw [Bool.or_eq_false_iff, decide_eq_false_iff_not, decide_eq_false_iff_not]; omega
  have HL := Frame.hid hL
  clear hA hB hz hy hm hzr hL
  go_enter Tryz.func3, Tryz.ntmps3
  go_wp2_with fail
  refine (b10Long_c _ _ _ _ _ _ (by have := HZ.out; unfold maxLen; omega) (by have := HY.out; unfold maxLen; omega) _).mono ?_
  rintro e w0 ⟨rfl, rfl⟩
  rw [HL.out]
  go_wp2_with fail
  refine (b10Whole_calls A zs c HZ.out _ HA.out).mono ?_
  rintro e w1 ⟨g1, cap1, x1, x2, rfl, hwh1, hc1, hB1⟩
  have HW1 := Frame.hid hwh1
  have HB1 := Frame.hid hB1
  clear hwh1 hB1
  go_wp2_with fail
  refine (b10Whole_calls B ys d HY.out _ (HB.out.below HB1.out)).mono ?_
  rintro e w2 ⟨g2, cap2, y1, y2, rfl, hwh2, hc2, hB2⟩
  have HW2 := Frame.hid hwh2
  have HB2 := Frame.hid (HB1.out.trans (hB2.mono HB1.out.size))
  clear hwh2 hB2
  go_wp2_with fail
  obtain ⟨p, q, hp, hq, hx1, hx2⟩ := HW1.out
  obtain ⟨r, s, hr, hs, hy1, hy2⟩ := HW2.out
  have hci1 := conv_of hp hx1
  have hci2 := conv_of hq hx2
  have hci3 := conv_of hr hy1
  have hci4 := conv_of hs hy2
  have bpr := prod_bd hp hr
  have bqs := prod_bd hq hs
  have bps := prod_bd hp hs
  have bqr := prod_bd hq hr
  have bpp := prod_bd hp hp
  have bqq := prod_bd hq hq
  have HPR := Frame.hid (show Sml p ∧ Sml q ∧ Sml r ∧ Sml s from ⟨by unfold Sml; omega, by unfold Sml; omega, by unfold Sml; omega, by unfold Sml; omega⟩)
  have HX := Frame.hid (show IVs FloatKind.f32.format x1 p ∧ IVs FloatKind.f32.format x2 q ∧ IVs FloatKind.f32.format y1 r ∧ IVs FloatKind.f32.format y2 s from ⟨hx1, hx2, hy1, hy2⟩)
  clear hx1 hx2 hy1 hy2 HW1 HW2 hc1 hc2
  refine (mulComplex_calls x1 x2 y1 y2 p q r s HPR.out.1 HPR.out.2.1 HPR.out.2.2.1 HPR.out.2.2.2 (.inl HX.out.1) (.inl HX.out.2.1) (.inl HX.out.2.2.1) (.inl HX.out.2.2.2) (by omega) (by omega) _).mono ?_
  rintro e w3 ⟨p1, p2, n3, rfl, hpp, hp1, hp2, rfl⟩
  have HP := Frame.hid hpp
  have HP1 := Frame.hid (show p1 < 2 ^ FloatKind.f32.format.width ∧ p2 < 2 ^ FloatKind.f32.format.width from ⟨hp1, hp2⟩)
  clear hpp hp1 hp2
  have ho1 := ord_eq (by omega) HP.out.1 (.inl (of_int .f32 (p * r - q * s)))
  have ho2 := ord_eq (by omega) HP.out.2 (.inl (of_int .f32 (p * s + q * r)))
  go_wp2_with fail
  refine (mulComplex_calls y1 y2 x1 x2 r s p q HPR.out.2.2.1 HPR.out.2.2.2 HPR.out.1 HPR.out.2.1 (.inl HX.out.2.2.1) (.inl HX.out.2.2.2) (.inl HX.out.1) (.inl HX.out.2.1) (by rw [Int.mul_comm r p, Int.mul_comm s q]; omega) (by rw [Int.mul_comm r q, Int.mul_comm s p]; omega) _).mono ?_
  rintro e w4 ⟨q1, q2, n4, rfl, hpp, _, _, rfl⟩
  have ho3 := ord_eq (a := p * r - q * s) (by omega) (by have h := hpp.1; rwa [Int.mul_comm r p, Int.mul_comm s q] at h) HP.out.1
  have ho4 := ord_eq (a := p * s + q * r) (by omega) (by have h := hpp.2; rwa [Int.mul_comm r q, Int.mul_comm s p, Int.add_comm] at h) HP.out.2
  clear hpp ho1 ho2
  go_wp2_with fail
  refine (powerOf_calls x1 x2 p q HPR.out.1 HPR.out.2.1 (.inl HX.out.1) (.inl HX.out.2.1) (by omega) _).mono ?_
  rintro e w5 ⟨v, n5, rfl, hv, _, rfl⟩
  have ho5 := ord_eq (by omega) (.inl hv) (.inl (of_int .f32 (p * p + q * q)))
  clear hv ho3 ho4
  go_wp2_with fail
  refine (conjugateOf_calls x1 x2 _).mono ?_
  rintro e w6 ⟨rfl, rfl⟩
  go_wp2_with fail
  refine (mulComplex_calls x1 x2 x1 _ p q p (-q) HPR.out.1 HPR.out.2.1 HPR.out.1 HPR.out.2.1.neg (.inl HX.out.1) (.inl HX.out.2.1) (.inl HX.out.1) (neg_int HPR.out.2.1.few (.inl HX.out.2.1)) (by rw [Int.mul_neg]; omega) (by rw [Int.mul_neg, Int.mul_comm q p]; omega) _).mono ?_
  rintro e w6 ⟨u1, u2, n6, rfl, hpp, _, _, rfl⟩
  have ho6 := ord_eq (a := p * p + q * q) (by omega) (by have h := hpp.1; rwa [Int.mul_neg, Int.sub_neg] at h) (.inl (of_int .f32 (p * p + q * q)))
  have ho7 := ord_eq (a := 0) (by decide) (by have h := hpp.2; rwa [Int.mul_neg, Int.mul_comm q p, show -(p * q) + p * q = 0 by omega] at h) zero_int
  clear hpp ho5
  go_wp2_with fail
  refine (longOf_calls x1 x2 (floatOfInt .f32 (p * p + q * q)) p q HPR.out.1 HPR.out.2.1 (.inl HX.out.1) (.inl HX.out.2.1) (by omega) (of_int .f32 _) _).mono ?_
  rintro e w7 ⟨t1, n7, rfl, ht1, hl1, rfl⟩
  have HT1 := Frame.hid ht1
  have HL1 := Frame.hid hl1
  clear ht1 hl1 ho6 ho7
  go_wp2_with fail
  refine (specRootNumber_calls (floatOfInt .f32 (p * p + q * q)) _).mono ?_
  rintro e w8 ⟨t2, n8, rfl, ht2, hl2, rfl⟩
  have HBT : Hid ((bitsV t1 == bitsV t2) = true) := Frame.hid (by rw [bits_same (RootR.same HT1.out ht2)]; exact beq_self_eq_true _)
  have HL2 := Frame.hid hl2
  clear ht2 hl2
  go_wp2_with fail
  refine (specSameNumber_calls t1 t2 (int_lt32 HL1.out) (int_lt32 HL2.out) _).mono ?_
  rintro e w9 ⟨rfl, rfl⟩
  rw [HBT.out]
  have brr := prod_bd hr hr
  have bss := prod_bd hs hs
  obtain ⟨ra, hra, hva⟩ := add_told (a := p) (b := p) (by omega) (by omega) (by omega) (.inl HX.out.1) (.inl HX.out.1)
  obtain ⟨rb, hrb, hvb⟩ := add_told (a := q) (b := q) (by omega) (by omega) (by omega) (.inl HX.out.2.1) (.inl HX.out.2.1)
  have hadd := csum_told hra hrb
  have HV := Frame.hid (show IV FloatKind.f32.format ra (p * 2) ∧ IV FloatKind.f32.format rb (q * 2) from ⟨by rwa [show p * 2 = p + p by omega], by rwa [show q * 2 = q + q by omega]⟩)
  have hsc : Hid (p.natAbs ≤ 200 ∧ q.natAbs ≤ 200) := Frame.hid ⟨hp, hq⟩
  have hQ : 0 < r * r + s * s → Hid (∀ w, Calls Tryz.prog 12 #[.complex .f32 p1 p2, .complex .f32 y1 y2] w (GivesW .f32 (fun s1 s2 => IV FloatKind.f32.format s1 p ∧ IV FloatKind.f32.format s2 q) w)) := fun hP => Frame.hid fun w =>
    quotientOf_calls p1 p2 y1 y2 p q r s HPR.out.1 HPR.out.2.1 HPR.out.2.2.1 HPR.out.2.2.2 (by unfold Sml; omega) (by unfold Sml; omega) hP (three_bd hp (by omega)) (three_bd hq (by omega)) (by omega) HP.out.1 HP.out.2 (.inl HX.out.2.2.1) (.inl HX.out.2.2.2) w
  have hcs : (Hid (0 < r * r + s * s) ∧ ¬ FloatKind.f32.format.order y1 0 = some Ordering.eq) ∨ (Hid (0 < r * r + s * s) ∧ FloatKind.f32.format.order y1 0 = some Ordering.eq ∧ ¬ FloatKind.f32.format.order y2 0 = some Ordering.eq) ∨ (FloatKind.f32.format.order y1 0 = some Ordering.eq ∧ FloatKind.f32.format.order y2 0 = some Ordering.eq) := by
    by_cases h1 : r = 0
    · by_cases h2 : s = 0
      · exact .inr (.inr ⟨ord_eq (a := 0) (by decide) (by have h := HX.out.2.2.1; rw [h1] at h; exact .inl h) zero_int, ord_eq (a := 0) (by decide) (by have h := HX.out.2.2.2; rw [h2] at h; exact .inl h) zero_int⟩)
      · exact .inr (.inl ⟨Frame.hid (by have := sq_nn r; have := sq_pos h2; omega), ord_eq (a := 0) (by decide) (by have h := HX.out.2.2.1; rw [h1] at h; exact .inl h) zero_int, ord_ne (by omega) (.inl HX.out.2.2.2) h2⟩)
    · exact .inl ⟨Frame.hid (by have := sq_pos h1; have := sq_nn s; omega), ord_ne (by omega) (.inl HX.out.2.2.1) h1⟩
  clear hci1 hci2 hci3 hci4 bpr bqs bps bqr bpp bqq brr bss hra hrb hva hvb hr hs
  rcases hcs with ⟨hP, hn1⟩ | ⟨hP, hn1, hn2⟩ | ⟨hn1, hn2⟩
  case' inl =>
    have HQ := hQ hP.out
    clear hQ hP
    go_wp2_with fail
    refine (HQ.out _).mono ?_
    rintro e w10 ⟨s1, s2, n9, rfl, hss, _, _, rfl⟩
    have ho8 := ord_eq (a := p) (by omega) hss.1 (.inl HX.out.1)
    have ho9 := ord_eq (a := q) (by omega) hss.2 (.inl HX.out.2.1)
    clear hss
    go_wp2_with fail
    clear ho8 ho9 hn1 HQ
  case' inr.inl =>
    have HQ := hQ hP.out
    clear hQ hP
    go_wp2_with fail
    refine (HQ.out _).mono ?_
    rintro e w10 ⟨s1, s2, n9, rfl, hss, _, _, rfl⟩
    have ho8 := ord_eq (a := p) (by omega) hss.1 (.inl HX.out.1)
    have ho9 := ord_eq (a := q) (by omega) hss.2 (.inl HX.out.2.1)
    clear hss
    go_wp2_with fail
    clear ho8 ho9 hn1 hn2 HQ
  case' inr.inr =>
    clear hQ
    go_wp2_with fail
    clear hn1 hn2
  all_goals
    clear hp hq
    refine (scaleComplex_calls x1 x2 p q HPR.out.1 HPR.out.2.1 (.inl HX.out.1) (.inl HX.out.2.1) _).mono ?_
    rintro e w11 ⟨v1, v2, n10, rfl, hvv, _, _, rfl⟩
    have ho10 := ord_eq (a := p * 2) (by have := hsc.out; omega) hvv.1 HV.out.1
    have ho11 := ord_eq (a := q * 2) (by have := hsc.out; omega) hvv.2 HV.out.2
    clear hvv
    go_wp2_with fail
    refine (b10At9_c A zs c HZ.out _ (HA.out.below (below_drewN HB2.out _))).mono ?_
    rintro e w12 ⟨k, hk, rfl, rfl⟩
    clear ho10 ho11 hadd
    go_wp2_with fail
    refine (b10Any_calls B ys d k (by omega) HY.out _ (HB.out.below (below_drewN HB2.out _))).mono ?_
    rintro e w13 ⟨g0, cap, xs, hl, rfl, hxs, hO, hB⟩
    have HLL := Frame.hid hl
    have HXS := Frame.hid hxs
    have HO := Frame.hid (hO.mono (base' := w.heap.size) HB2.out.size)
    have HB5 := Frame.hid ((below_drewN HB2.out _).trans (hB.mono HB2.out.size))
    clear hl hxs hO hB
    go_wp2_with fail
    have hTxt := complexText_calls (some ⟨g0, 0, none⟩) xs cap w13 (by rw [HLL.out]; omega) (bnd_of HXS.out) HO.out.rd (zeros_below HZR.out HB5.out)
    rw [HLL.out] at hTxt
    refine hTxt.mono ?_
    clear hTxt
    rintro e w14 ⟨hcase, hB⟩
    obtain rfl : e = .returned (.tuple #[.string ⟨(textC xs).toArray⟩, .bool true]) := by
      rcases hcase with ⟨_, h1⟩ | ⟨h1, _⟩
      · exact h1
      · have := HLL.out; omega
    have HO6 : Hid (OwnC w14 w.heap.size (.slice (some ⟨g0, 0, none⟩) k cap) xs) := Frame.hid (OwnC.below (w := w13) HO.out hB)
    have HB6 := Frame.hid (HB5.out.trans (hB.mono HB5.out.size))
    clear hcase hB
    go_wp2_with fail
    have hsz : (⟨(textC xs).toArray⟩ : ByteArray).size ≤ 1048576 := by
      show (textC xs).toArray.size ≤ _
      rw [List.size_toArray]
      exact textC_len (by have := HLL.out; omega)
    have hRd := readComplex_calls ⟨(textC xs).toArray⟩ hsz w14 m (cell_below HM.out HB6.out)
    refine hRd.mono ?_
    clear hRd hsz
    rintro e w15 ⟨v9, ys9, b9, rfl, hl9, hA9, hO9, hB9⟩
    obtain ⟨rfl, rfl⟩ := rc_same (.inl ⟨rfl, ok_textC (by have := HLL.out; omega) HXS.out⟩) hA9
    obtain ⟨A9, c9, rfl, hr9⟩ := hO9.reads
    have hlen9 : (xs.map canonC).length = k := by rw [List.length_map]; exact HLL.out
    rw [hlen9]
    have HR9 := Frame.hid hr9
    have HO7 : Hid (OwnC w15 w.heap.size (.slice (some ⟨g0, 0, none⟩) k cap) xs) := Frame.hid (OwnC.below HO6.out hB9)
    have HB7 := Frame.hid (HB6.out.trans (hB9.mono HB6.out.size))
    clear hl9 hA9 hO9 hB9 hr9 hlen9
    go_wp2_with fail
    refine (b10Number_calls A zs c HZ.out _ (HA.out.below HB7.out)).mono ?_
    rintro e w16 ⟨x, hx, rfl, hB⟩
    have HXX : Unit → (x : Int) < 4294967296 := fun _ => hx
    have HXC : Hid ((bitsV (canon x) == bitsV x) = true) := Frame.hid (by rw [bits_canon]; exact beq_self_eq_true _)
    have HR8 := Frame.hid (HR9.out.below hB)
    have HO8 : Hid (OwnC w16 w.heap.size (.slice (some ⟨g0, 0, none⟩) k cap) xs) := Frame.hid (OwnC.below HO7.out hB)
    have HB8 := Frame.hid (HB7.out.trans (hB.mono HB7.out.size))
    clear hx hB
    go_wp2_with fail
    refine (bitsOf_calls x (HXX ()) _).mono ?_
    rintro e w17 ⟨rfl, n17, rfl⟩
    go_wp2_with fail
    refine (fromBits_calls (bitsV x) _).mono ?_
    rintro e w18 ⟨rfl, rfl⟩
    rw [fromV_yes (bitsV_range (HXX ())).1 (by have := (bitsV_range (HXX ())).2; omega), show (bitsV x).toNat = canon x from rfl]
    go_wp2_with fail
    refine (b10Complex_calls A zs c HZ.out _ (HA.out.below (below_drewN HB8.out n17))).mono ?_
    rintro e w19 ⟨z1, z2, hz1, hz2, rfl, hB⟩
    have HZZ : Unit → (z1 : Int) < 4294967296 ∧ (z2 : Int) < 4294967296 := fun _ => ⟨hz1, hz2⟩
    have HR10 := Frame.hid ((HR8.out.drewN n17).below hB)
    have HO9 : Hid (OwnC w19 w.heap.size (.slice (some ⟨g0, 0, none⟩) k cap) xs) := Frame.hid (OwnC.below (w := w16.drewN n17) HO8.out hB)
    have HB9 := Frame.hid ((below_drewN HB8.out n17).trans (hB.mono HB8.out.size))
    clear hz1 hz2 hB
    go_wp2_with fail
    refine upon_conv _ _ .f32 .f64 _ (by decide) (.inl rfl) (by kernel_rfl) (by kernel_rfl) ?_
    intro r1 m1 hr1 hl1
    have HW1 := Frame.hid hr1
    clear hr1 hl1
    go_wp2_with fail
    refine upon_conv _ _ .f32 .f64 _ (by decide) (.inl rfl) (by kernel_rfl) (by kernel_rfl) ?_
    intro r2 m2 hr2 hl2
    have HW2 := Frame.hid hr2
    clear hr2 hl2
    go_wp2_with fail
    refine (b10SameC_calls A9 (some ⟨g0, 0, none⟩) xs k c9 cap (by omega) HLL.out.symm HXS.out _ (HR10.out.drewN _) (HO9.out.rd.drewN _)).mono ?_
    rintro e w20 ⟨rfl, n20, rfl⟩
    go_wp2_with fail
    refine (specSameNumber_calls (canon x) x (canon_lt (HXX ())) (HXX ()) _).mono ?_
    rintro e w21 ⟨rfl, rfl⟩
    rw [HXC.out]
    go_wp2_with fail
    refine (narrowC_calls r1 r2 _).mono ?_
    rintro e w22 ⟨s3, s4, n22, rfl, ⟨k1, k2⟩, l1, l2, rfl⟩
    have HS : Hid (∀ W, Calls Tryz.prog 23 #[.complex .f32 s3 s4, .complex .f32 z1 z2] W fun e w' => e = .returned (.bool true) ∧ ∃ n, w' = W.drewN n) := Frame.hid
      (implSameC_calls s3 s4 z1 z2 (int_lt32 l1) (int_lt32 l2) (HZZ ()).1 (HZZ ()).2 (bits_same (narrow_wide (by have := (HZZ ()).1; omega) HW1.out k1)) (bits_same (narrow_wide (by have := (HZZ ()).2; omega) HW2.out k2)))
    clear k1 k2 l1 l2
    go_wp2_with fail
    refine (HS.out _).mono ?_
    rintro e w23 ⟨rfl, n23, rfl⟩
    go_wp2_with fail
    refine (conjugateOf_calls z1 z2 _).mono ?_
    rintro e w24 ⟨rfl, rfl⟩
    go_wp2_with fail
    refine (conjugateOf_calls z1 _ _).mono ?_
    rintro e w25 ⟨rfl, rfl⟩
    rw [neg_neg32]
    go_wp2_with fail
    refine (implSameC_calls z1 z2 z1 z2 (HZZ ()).1 (HZZ ()).2 (HZZ ()).1 (HZZ ()).2 rfl rfl _).mono ?_
    rintro e w26 ⟨rfl, n26, rfl⟩
    go_wp2_with fail
    refine (isFiniteC_calls z1 z2 _).mono ?_
    rintro e w27 ⟨rfl, n27, rfl⟩
    obtain ⟨t1, ht1⟩ : ∃ t, t = fin .f32 z1 := ⟨_, rfl⟩
    obtain ⟨t2, ht2⟩ : ∃ t, t = fin .f32 z2 := ⟨_, rfl⟩
    have HF1 := Frame.hid ht1
    have HF2 := Frame.hid ht2
    rw [← HF1.out, ← HF2.out]
    clear ht1 ht2
    cases t1
    · go_wp2_with fail
      refine (specIsFinite_calls z1 _).mono ?_
      rintro e w28 ⟨rfl, n28, rfl⟩
      rw [← HF1.out]
      go_wp2_with fail
      go_ret
      exact ⟨rfl, below_drewN HB9.out _⟩
    · cases t2
      all_goals
        go_wp2_with fail
        refine (specIsFinite_calls z1 _).mono ?_
        rintro e w28 ⟨rfl, n28, rfl⟩
        rw [← HF1.out]
        go_wp2_with fail
        refine (specIsFinite_calls z2 _).mono ?_
        rintro e w29 ⟨rfl, n29, rfl⟩
        rw [← HF2.out]
        go_wp2_with fail
        go_ret
        exact ⟨rfl, below_drewN HB9.out _⟩

set_option maxRecDepth 100000 in
theorem fnProducts_walk (A : Option Addr) (zs : List Nat) (c : Nat) (B : Option Addr) (ys : List Nat) (d : Nat) (hz : zs.length ≤ maxLen) (hy : ys.length ≤ maxLen) (w : World) (hA : RdB w A zs) (hB : RdB w B ys) (m : Int) (hm : w.cell? ⟨1, 0, none⟩ = some (.int .i64 m)) (hzr : ZerosAt w) :
    Calls Tryz.prog 3 #[.slice A zs.length c, .slice B ys.length d] w fun e w' => e = .returned (.bool true) ∧ Below w.heap.size w w' := by
  by_cases h : zs.length ≤ 1048576 ∧ ys.length ≤ 1048576
  · exact products_law A B zs ys c d h.1 h.2 w hA hB m hm hzr
  · have hL : (decide (1048576 < (zs.length : Int)) || decide (1048576 < (ys.length : Int))) = true := by
      rw [Bool.or_eq_true, decide_eq_true_eq, decide_eq_true_eq]; omega
    clear hm hzr hA hB h
    go_enter Tryz.func3, Tryz.ntmps3
    go_wp2_with fail
    refine (b10Long_c _ _ _ _ _ _ hz hy _).mono ?_
    rintro e w0 ⟨rfl, rfl⟩
    rw [hL]
    go_wp2_with fail
    go_ret
    exact ⟨rfl, Below.refl _ _⟩

end Go.Proofs.YtnflmdlhcjjfdadGreatDoor
