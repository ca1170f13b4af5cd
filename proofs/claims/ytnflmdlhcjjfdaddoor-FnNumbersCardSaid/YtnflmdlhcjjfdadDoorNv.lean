/-
  FnNumbers: the law, walked.
-/
import Derived.Test.YtnflmdlhcjjfdadDoorNu
namespace Go.Proofs.YtnflmdlhcjjfdadDoor
open Go.RowKit Go.Lib Rd Go.WideShapes Fl

set_option maxRecDepth 100000 in
set_option maxHeartbeats 8000000 in
theorem numbers_law (A B : Option Addr) (zs ys : List Nat) (c d : Nat) (hz : zs.length ≤ 1048576) (hy : ys.length ≤ 1048576) (w : World) (hA : RdB w A zs) (hB : RdB w B ys) (m : Int) (hm : w.cell? ⟨2, 0, none⟩ = some (.int .i64 m)) (hzr : ZerosAt w) :
    Calls Tryd.prog 3 #[.slice A zs.length c, .slice B ys.length d] w fun e w' => e = .returned (.bool true) ∧ Below w.heap.size w w' := by
  have HA := Frame.hid hA
  have HB := Frame.hid hB
  have HZ := Frame.hid hz
  have HY := Frame.hid hy
  have HM := Frame.hid hm
  have HZR := Frame.hid hzr
  have hL : (decide (1048576 < (zs.length : Int)) || decide (1048576 < (ys.length : Int))) = false := by
    rw [Bool.or_eq_false_iff, decide_eq_false_iff_not, decide_eq_false_iff_not]; omega
  have HL := Frame.hid hL
  clear hA hB hz hy hm hzr hL
  go_enter Tryd.func3, Tryd.ntmps3
  go_wp2_with fail
  refine (b10Long_c _ _ _ _ _ _ (by have := HZ.out; unfold maxLen; omega) (by have := HY.out; unfold maxLen; omega) _).mono ?_
  rintro e w0 ⟨rfl, rfl⟩
  rw [HL.out]
  go_wp2_with fail
  refine (b10Number_calls A zs c HZ.out _ HA.out).mono ?_
  rintro e w1 ⟨x, hx, rfl, hB1⟩
  have HX : Unit → (x : Int) < 4294967296 := fun _ => hx
  have HB1 := Frame.hid hB1
  clear hx hB1
  go_wp2_with fail
  refine (b10Number_calls B ys d HY.out _ (HB.out.below HB1.out)).mono ?_
  rintro e w2 ⟨y, hy, rfl, hB2⟩
  have HYY : Unit → (y : Int) < 4294967296 := fun _ => hy
  have HB2 := Frame.hid (HB1.out.trans (hB2.mono HB1.out.size))
  clear hy hB2
  go_wp2_with fail
  refine (bitsOf_calls x (HX ()) _).mono ?_
  rintro e w3 ⟨rfl, n3, rfl⟩
  go_wp2_with fail
  refine (fromBits_calls (bitsV x) _).mono ?_
  rintro e w3 ⟨rfl, rfl⟩
  rw [fromV_yes (bitsV_range (HX ())).1 (by have := (bitsV_range (HX ())).2; omega), show (bitsV x).toNat = canon x from rfl]
  go_wp2_with fail
  refine (flushNumber_calls x (by have := HX (); omega) _).mono ?_
  rintro e w4 ⟨rfl, n4, rfl⟩
  go_wp2_with fail
  refine (b10At_c A zs c HZ.out _ (HA.out.below (below_drewN HB2.out (n3 + n4)))).mono ?_
  rintro e w5 ⟨n, hn, rfl, rfl⟩
  go_wp2_with fail
  refine (b10Numbers_calls B ys d n (by omega) HY.out _ (HB.out.below (below_drewN HB2.out (n3 + n4)))).mono ?_
  rintro e w6 ⟨g0, cap, xs, hl, rfl, hxs, hO, hB6⟩
  have HLL := Frame.hid hl
  have HXS := Frame.hid hxs
  have HO6 := Frame.hid (hO.mono (base' := w.heap.size) (HB2.out.size))
  have HB6 := Frame.hid ((below_drewN HB2.out (n3 + n4)).trans (hB6.mono HB2.out.size))
  clear hl hxs hO hB6
  go_wp2_with fail
  go_loopw [11, 41] (fun s i wr => SumBAt xs w6 n s i wr) (fun _ i _ => n - (Go.RowKit.intOf i).toNat)
  case atStart => exact ⟨0, 0, Nat.zero_le _, rfl, rfl, rfl, zero_wide, 0, rfl⟩
  case round =>
    obtain ⟨k, s, hk, rfl, rfl, hs, hsl, m6, rfl⟩ := hrel
    have HSL := Frame.hid hsl
    clear hsl
    by_cases hlt : k < n
    · have hc1 : (w6.drewN m6).cell? ⟨g0, k, none⟩ = some (.float .f32 (xs.getD k 0)) := HO6.out.cell HLL.out.symm (by have := HLL.out; omega)
      have hst : ∀ r, FOp .add .f32 s (xs.getD k 0) r → SumTo xs (k + 1) r := fun r h => ⟨s, hs, h⟩
      have HST := Frame.hid hst
      obtain ⟨x', hx'⟩ : ∃ x', x' = xs.getD k 0 := ⟨_, rfl⟩
      rw [← hx'] at hc1 HST
      clear hst hs hx'
      go_wp2_with (refine wpList_arith rfl _ _ _ _ _ rfl rfl _ _ _ rfl rfl ?_; intro r n hr hl)
      go_roundw
      case rel => exact ⟨k + 1, _, by omega, by go_num, rfl, HST.out _ hr, hl, _, rfl⟩
      case measure => simp [Go.RowKit.intOf]; omega
    · have hkn : k = n := by omega
      subst hkn
      have HS := Frame.hid (show SumTo xs xs.length s by rw [HLL.out]; exact hs)
      clear hs hk hlt
      go_wp2_with fail
      have hSum := sumNumbersB_calls (some ⟨g0, 0, none⟩) xs cap (w6.drewN m6) (by rw [HLL.out]; omega) (RdF.drewN (HO6.out.rd HLL.out.symm) m6)
      rw [HLL.out] at hSum
      refine hSum.mono ?_
      clear hSum
      rintro e w7 ⟨r, t, n7, rfl, hcase, rfl⟩
      obtain ⟨rfl, hr, hrl⟩ : t = true ∧ SumTo xs xs.length r ∧ r < 2 ^ FloatKind.f32.format.width := by
        rcases hcase with ⟨_, h1, h2⟩ | ⟨h1, _⟩
        · exact ⟨h1, h2⟩
        · have := HLL.out; omega
      have HGOT := Frame.hid (show (bitsV r == bitsV s) = true by rw [bits_same (SumTo.same hr HS.out)]; exact beq_self_eq_true _)
      have HRL := Frame.hid hrl
      clear hcase hr hrl
      go_wp2_with fail
      have HBt : Hid (Below w.heap.size w (w6.drewN (m6 + n7))) := below_drewN HB6.out (m6 + n7)
      have hbX : ∀ j, j < xs.length → ((xs.getD j 0 : Nat) : Int) < 4294967296 := fun j hj => by
        have e : xs.getD j 0 = xs[j] := by rw [List.getD_eq_getElem?_getD, List.getElem?_eq_getElem hj]; rfl
        rw [e]
        exact HXS.out _ (List.getElem_mem hj)
      have hTxt := numbersText_calls (some ⟨g0, 0, none⟩) xs cap (w6.drewN (m6 + n7)) (by rw [HLL.out]; omega) hbX (RdF.drewN (HO6.out.rd HLL.out.symm) (m6 + n7)) (zeros_below HZR.out HBt.out)
      rw [HLL.out] at hTxt
      refine hTxt.mono ?_
      clear hTxt hbX
      rintro e w8 ⟨hcase, hB8⟩
      obtain rfl : e = .returned (.tuple #[.string ⟨(textX xs).toArray⟩, .bool true]) := by
        rcases hcase with ⟨_, h1⟩ | ⟨h1, _⟩
        · exact h1
        · have := HLL.out; omega
      have HO8 : Hid (OwnF w8 w.heap.size (.slice (some ⟨g0, 0, none⟩) k cap) xs) := OwnF.below (w := w6.drewN (m6 + n7)) HO6.out hB8
      have HB8 := Frame.hid (HBt.out.trans (hB8.mono HBt.out.size))
      clear hcase hB8
      go_wp2_with fail
      have hsz : (⟨(textX xs).toArray⟩ : ByteArray).size ≤ 1048576 := by
        show (textX xs).toArray.size ≤ _
        rw [List.size_toArray]
        have h1 := joinX_len xs
        have h2 := HLL.out
        unfold textX
        split
        · simp
        · omega
      have hRd := readNumbers_calls ⟨(textX xs).toArray⟩ hsz w8 m (cell_below HM.out HB8.out)
      refine hRd.mono ?_
      clear hRd hsz
      rintro e w9 ⟨v9, ys9, b9, rfl, hl9, hA9, hO9, hB9⟩
      obtain ⟨rfl, rfl⟩ := rn_same (.inl ⟨rfl, ok_text (xs := xs) (by have := HLL.out; omega) HXS.out⟩) hA9
      obtain ⟨A9, c9, rfl, hr9⟩ := hO9.reads
      have hlen9 : (xs.map canon).length = k := by rw [List.length_map]; exact HLL.out
      rw [hlen9]
      have HR9 := Frame.hid hr9
      have HO9 : Hid (OwnF w9 w.heap.size (.slice (some ⟨g0, 0, none⟩) k cap) xs) := OwnF.below HO8.out hB9
      have HB9 := Frame.hid (HB8.out.trans (hB9.mono HB8.out.size))
      have HXC := Frame.hid (show (bitsV (canon x) == bitsV x) = true by rw [bits_canon]; exact beq_self_eq_true _)
      clear hl9 hA9 hO9 hB9 hr9 hlen9
      go_wp2_with fail
      refine (specSameNumber_calls _ _ (canon_lt (HX ())) (HX ()) _).mono ?_
      rintro e w10 ⟨rfl, rfl⟩
      rw [HXC.out]
      go_wp2_with fail
      refine (isSubnormal_calls (flushV x) _).mono ?_
      rintro e w10 ⟨rfl, n10, rfl⟩
      rw [flush_not_sub x]
      go_wp2_with fail
      refine (isSubnormal_calls x _).mono ?_
      rintro e w11 ⟨rfl, n11, rfl⟩
      go_wp2_with fail
      refine (specSameNumber_calls x (flushV x) (HX ()) (flush_lt (HX ())) _).mono ?_
      rintro e w12 ⟨rfl, rfl⟩
      have hfd := flush_differs x
      go_wp2_with fail
      refine (specSameNumber_calls r s (int_lt32 HRL.out) (int_lt32 HSL.out) _).mono ?_
      rintro e w13 ⟨rfl, rfl⟩
      rw [HGOT.out]
      go_wp2_with fail
      obtain ⟨W, hWW⟩ : ∃ W, W = w9.drewN (n10 + n11) := ⟨_, rfl⟩
      have HRW : Hid (RdF W A9 (xs.map canon)) := by rw [hWW]; exact RdF.drewN HR9.out _
      have HOW : Hid (OwnF W w.heap.size (.slice (some ⟨g0, 0, none⟩) k cap) xs) := by rw [hWW]; exact HO9.out
      have HBW : Hid (Below w.heap.size w W) := by rw [hWW]; exact below_drewN HB9.out _
      rw [← hWW]
      clear hWW
      go_loopw [113] (fun i wr => ∃ j : Nat, j ≤ k ∧ i = .int .i64 j ∧ ∃ m, wr = W.drewN m) (fun i _ => k - (Go.RowKit.intOf i).toNat)
      case atStart => exact ⟨0, Nat.zero_le _, rfl, 0, rfl⟩
      case round =>
        obtain ⟨j, hj, rfl, m13, rfl⟩ := hrel
        by_cases hlt : j < k
        · obtain ⟨b, off, rfl, hb, hc⟩ := HRW.out (by rw [List.length_map]; have := HLL.out; omega)
          have hc1 := hc j (by rw [List.length_map]; have := HLL.out; omega)
          have hc2 := HOW.out.cell HLL.out.symm (j := j) (by have := HLL.out; omega)
          have hxj : Unit → ((xs.getD j 0 : Nat) : Int) < 4294967296 := fun _ => by
            have hjl : j < xs.length := by have := HLL.out; omega
            have e : xs.getD j 0 = xs[j] := by rw [List.getD_eq_getElem?_getD, List.getElem?_eq_getElem hjl]; rfl
            rw [e]
            exact HXS.out _ (List.getElem_mem hjl)
          have hcj : (xs.map canon).getD j 0 = canon (xs.getD j 0) := by
            have hjl : j < xs.length := by have := HLL.out; omega
            rw [List.getD_eq_getElem?_getD, List.getElem?_map, List.getElem?_eq_getElem hjl, List.getD_eq_getElem?_getD, List.getElem?_eq_getElem hjl]
            rfl
          rw [hcj] at hc1
          generalize xs.getD j 0 = v at *
          clear hc hcj hb
          go_wp2_with fail
          go_region_with (go_at_call 14; refine (sameCanon_calls v hxj _).mono ?_; rintro e w' ⟨rfl, rfl⟩)
          all_goals
            go_wp2_with fail
            go_roundw
            case rel => exact ⟨j + 1, by omega, by go_num, _, rfl⟩
            case measure => simp [Go.RowKit.intOf]; omega
        · have hjk : j = k := by omega
          subst hjk
          have HBE : Hid (Below w.heap.size w (W.drewN m13)) := below_drewN HBW.out m13
          clear hlt hj
          go_wp2_with fail
          refine (angleTurns_calls y x _).mono ?_
          rintro e w14 ⟨r1, q1, rfl, ha1, hl1, rfl⟩
          have HA1 := Frame.hid ha1
          have HL1 := Frame.hid hl1
          clear ha1 hl1
          go_wp2_with fail
          refine (angleOf_calls x y _).mono ?_
          rintro e w15 ⟨r2, q2, rfl, ha2, hl2, rfl⟩
          have hAA : (bitsV r1 == bitsV r2) = true := by rw [bits_same (AngleV.same HA1.out ha2)]; exact beq_self_eq_true _
          have HAA := Frame.hid hAA
          have HL2 := Frame.hid hl2
          clear ha2 hl2 hAA
          go_wp2_with fail
          refine (specSameNumber_calls r1 r2 (int_lt32 HL1.out) (int_lt32 HL2.out) _).mono ?_
          rintro e w16 ⟨rfl, rfl⟩
          rw [HAA.out]
          go_wp2_with fail
          refine upon_conv _ _ .f32 .f64 _ (by decide) (.inl rfl) (by kernel_rfl) (by kernel_rfl) ?_
          intro y64 q3 hwide hyl
          have HW := Frame.hid hwide
          clear hwide hyl
          go_wp2_with fail
          refine (narrowNumber_calls y64 _).mono ?_
          rintro e w17 ⟨r3, q4, rfl, hn3, hl3, rfl⟩
          have hNN : (bitsV r3 == bitsV x) = true := by rw [bits_same (narrow_wide (by have := HX (); omega) HW.out hn3)]; exact beq_self_eq_true _
          have HNN := Frame.hid hNN
          have HL3 := Frame.hid hl3
          clear hn3 hl3 hNN
          go_wp2_with fail
          refine (specSameNumber_calls r3 x (int_lt32 HL3.out) (HX ()) _).mono ?_
          rintro e w18 ⟨rfl, rfl⟩
          rw [HNN.out]
          go_wp2_with fail
          refine (sineTurns_calls 1048576000 _).mono ?_
          rintro e w19 ⟨r4, q5, rfl, hs4, hl4, rfl⟩
          obtain rfl := sine_quarter hs4
          clear hs4 hl4
          have hone := eql_self .f32 1065353216
          rw [show isNan .f32 1065353216 = false from by decide +kernel] at hone
          go_wp2_with fail
          go_ret
          exact ⟨rfl, below_drewN HBW.out _⟩

theorem fnNumbers_walk (A : Option Addr) (zs : List Nat) (c : Nat) (B : Option Addr) (ys : List Nat) (d : Nat) (hz : zs.length ≤ maxLen) (hy : ys.length ≤ maxLen) (w : World) (hA : RdB w A zs) (hB : RdB w B ys) (m : Int) (hm : w.cell? ⟨2, 0, none⟩ = some (.int .i64 m)) (hzr : ZerosAt w) :
    Calls Tryd.prog 3 #[.slice A zs.length c, .slice B ys.length d] w fun e w' => e = .returned (.bool true) ∧ Below w.heap.size w w' := by
  by_cases h : zs.length ≤ 1048576 ∧ ys.length ≤ 1048576
  · exact numbers_law A B zs ys c d h.1 h.2 w hA hB m hm hzr
  · have hL : (decide (1048576 < (zs.length : Int)) || decide (1048576 < (ys.length : Int))) = true := by
      rw [Bool.or_eq_true, decide_eq_true_eq, decide_eq_true_eq]; omega
    clear hm hzr hA hB h
    go_enter Tryd.func3, Tryd.ntmps3
    go_wp2_with fail
    refine (b10Long_c _ _ _ _ _ _ hz hy _).mono ?_
    rintro e w0 ⟨rfl, rfl⟩
    rw [hL]
    go_wp2_with fail
    go_ret
    exact ⟨rfl, Below.refl _ _⟩

end Go.Proofs.YtnflmdlhcjjfdadDoor
