/-
  NaturalBends: the law.
-/
import Derived.Test.YtfkdkdocbecjmaaB8
import Derived.Test.YtfkdkdocbecjmaaC6
namespace Go.Proofs.Ytfkdkdocbecjmaa
open Go.RowKit Fl Ieee Go.WideShapes Go.Deep
attribute [local go_sem] run_store_f

set_option maxRecDepth 100000 in
set_option maxHeartbeats 4000000 in
theorem fnExactNaturalBends_walk (A : Option Addr) (xs : List Nat) (c : Nat) (B : Option Addr) (ys : List Nat) (d : Nat) (hmax : xs.length ≤ maxLen) (hmay : ys.length ≤ maxLen) (w : World) (hA : RdF w A xs) (hB : RdF w B ys) :
    Calls Try.prog 5 #[.slice A xs.length c, .slice B ys.length d] w fun e w' => e = .returned (.bool true) ∧ Below w.heap.size w w' := by
  unfold maxLen at hmax hmay
  have HA := Frame.hid hA
  have HB := Frame.hid hB
  clear hA hB
  by_cases hbig : 1048576 < xs.length
  · go_enter Try.func5, Try.ntmps5
    go_wp2
    go_ret
    exact ⟨rfl, Below.refl _ _⟩
  by_cases hbiy : 1048576 < ys.length
  · go_enter Try.func5, Try.ntmps5
    go_wp2
    go_ret
    exact ⟨rfl, Below.refl _ _⟩
  have hn : xs.length ≤ 1048576 := by omega
  have hm : ys.length ≤ 1048576 := by omega
  clear hbig hbiy hmax hmay
  go_enter Try.func5, Try.ntmps5
  go_wp2_with fail
  refine (toFOwn_calls _ xs _ _ hn HA.out).mono ?_
  rintro e w0 ⟨rfl, hO0, hB0⟩
  have HB0 := Frame.hid hB0
  have HO0 := Frame.hid hO0
  clear hO0 hB0
  go_wp2_with fail
  refine (toFOwn_calls _ ys _ _ hm (HB.out.below HB0.out)).mono ?_
  rintro e w1 ⟨rfl, hO1, hB1⟩
  have HB1 := Frame.hid (HB0.out.trans (hB1.mono HB0.out.size))
  have hrx := (HO0.out.below hB1).rd rfl
  have hry := hO1.rd rfl
  clear hO1 hB1 HO0 HB0
  go_wp2_with fail
  refine (specNaturalV_calls _ _ xs ys _ _ _ hn hm hrx hry).mono ?_
  rintro e w2 ⟨v2, vs, ok2, rfl, hS2, hO2, hB2⟩
  have HS2 := Frame.hid hS2
  have HO2 := Frame.hid hO2
  have HB2 := Frame.hid (HB1.out.trans (hB2.mono HB1.out.size))
  have HL := Frame.hid hS2.len
  clear hS2 hO2 hB2 hrx hry HB1
  go_wp2_with fail
  refine (toFOwn_calls _ xs _ _ hn (HA.out.below HB2.out)).mono ?_
  rintro e w3 ⟨rfl, hO3, hB3⟩
  have HO3 := Frame.hid hO3
  have HB3 := Frame.hid hB3
  have hl3 : w2.heap.size < w3.heap.size := (World.ownsRow.lt hO3 _ rfl).2
  clear hO3 hB3
  go_wp2_with fail
  refine (toFOwn_calls _ ys _ _ hm ((HB.out.below HB2.out).below HB3.out)).mono ?_
  rintro e w3y ⟨rfl, hO3y, hB3y⟩
  have HO3y := Frame.hid hO3y
  have hO3x := HO3.out.below hB3y
  have HO3x := Frame.hid hO3x
  have HB3y := Frame.hid (HB3.out.trans (hB3y.mono HB3.out.size))
  have hl3y : w3.heap.size < w3y.heap.size := (World.ownsRow.lt hO3y _ rfl).2
  have hrx := hO3x.rd rfl
  have hry := hO3y.rd rfl
  clear hO3x hO3y hB3y HO3 HB3
  go_wp2_with fail
  refine (naturalV_calls _ _ xs ys _ _ _ hn hm hrx hry).mono ?_
  rintro e w4 ⟨v4, us, ok4, rfl, hS4, hO4, hB4⟩
  obtain ⟨e1, e3⟩ := HS2.out.same hS4
  subst e1
  subst e3
  have HO4 := Frame.hid hO4
  have HB4 := Frame.hid (HB3y.out.trans (hB4.mono HB3y.out.size))
  have HO4x := Frame.hid (HO3x.out.below hB4)
  have HO4y := Frame.hid (HO3y.out.below hB4)
  clear hS4 hO4 hB4 hrx hry HB3y HO3x HO3y
  have HB24 := Frame.hid (HB2.out.trans (HB4.out.mono HB2.out.size))
  go_wp2_with fail
  obtain ⟨A2, c2, rfl, hr2⟩ := (HO2.out.below HB4.out).reads
  obtain ⟨A4, c4, rfl, hr4⟩ := HO4.out.reads
  refine (eqFl_calls _ _ vs vs _ _ _ (by have := HL.out; omega) (LSame.refl _) hr4 hr2).mono ?_
  rintro e w5 ⟨rfl, m5, rfl⟩
  have hcc : (ok2 != ok2) = false := by cases ok2 <;> rfl
  clear hr2 hr4
  go_wp2_with fail
  refine (toFOwn_calls _ xs _ _ hn ((HA.out.below HB24.out).drewN _)).mono ?_
  rintro e w6 ⟨rfl, hO6, hB6⟩
  have hB46 : Below w4.heap.size w4 w6 := (below_drewN (Below.refl _ _) _).trans hB6
  have HB46 := Frame.hid hB46
  have hr6 := hO6.rd rfl
  have hr36 := (HO4x.out.below hB46).rd rfl
  clear hB46 hO6 hB6
  go_wp2_with fail
  refine (eqFl_calls _ _ xs xs _ _ _ hn (LSame.refl _) hr36 hr6).mono ?_
  rintro e w7 ⟨rfl, m7, rfl⟩
  clear hr6 hr36
  have HB26 := Frame.hid (HB24.out.trans (HB46.out.mono HB24.out.size))
  go_wp2_with fail
  refine (toFOwn_calls _ ys _ _ hm ((HB.out.below HB26.out).drewN _)).mono ?_
  rintro e w7y ⟨rfl, hO7, hB7⟩
  have hB47 : Below w4.heap.size w4 w7y := (below_drewN HB46.out m7).trans (hB7.mono (below_drewN HB46.out m7).size)
  have HB47 := Frame.hid hB47
  have hr7 := hO7.rd rfl
  have hr47 := (HO4y.out.below hB47).rd rfl
  clear hB47 hO7 hB7 HB46
  go_wp2_with fail
  refine (eqFl_calls _ _ ys ys _ _ _ hm (LSame.refl _) hr47 hr7).mono ?_
  rintro e w7z ⟨rfl, m7y, rfl⟩
  clear hr7 hr47
  have hB47' := below_drewN HB47.out m7y
  have HB47' := Frame.hid hB47'
  have HO7x := Frame.hid (HO4x.out.below hB47')
  have HO7y := Frame.hid (HO4y.out.below hB47')
  have HO7 := Frame.hid (HO4.out.below hB47')
  have hk0 : decide ((1 : Int) + (xs.length : Int) + (ys.length : Int) < 0) = false := by rw [decide_eq_false_iff_not]; omega
  have hsz2 : w2.heap.size ≤ w3.heap.size := by omega
  clear hB47'
  go_wp2_with fail
  refine (markFS_calls w2.heap.size _ xs.length _ 0 xs rfl hn (by omega) _ HO7x.out (Nat.le_refl _)).mono ?_
  rintro e w8 ⟨rfl, hB8, hF8⟩
  have HB8 := Frame.hid hB8
  have HO8y := Frame.hid (OwnF.only HO7y.out hl3 hF8)
  have HO8 := Frame.hid (OwnF.only HO7.out (Nat.lt_trans hl3 hl3y) hF8)
  clear hB8 hF8
  go_wp2_with fail
  refine (markFS_calls w3.heap.size _ ys.length _ xs.length ys rfl hm hn _ HO8y.out (Nat.le_refl _)).mono ?_
  rintro e w9 ⟨rfl, hB9, hF9⟩
  have hB29 : Below w2.heap.size w2 w9 := (HB4.out.trans (HB47'.out.mono HB4.out.size)).trans (HB8.out.trans (hB9.mono hsz2))
  have HB29 := Frame.hid hB29
  have HO9 := Frame.hid (OwnF.only HO8.out hl3y hF9)
  clear hB29 hB9 hF9
  go_wp2_with fail
  obtain ⟨hr2⟩ : Nonempty (RdF w9 A2 vs) := by
    obtain ⟨A', c', hv, hr⟩ := (HO2.out.below HB29.out).reads
    cases hv
    exact ⟨hr⟩
  obtain ⟨hr4⟩ : Nonempty (RdF w9 A4 vs) := by
    obtain ⟨A', c', hv, hr⟩ := HO9.out.reads
    cases hv
    exact ⟨hr⟩
  refine (eqFl_calls _ _ vs vs _ _ _ (by have := HL.out; omega) (LSame.refl _) hr4 hr2).mono ?_
  rintro e w9' ⟨rfl, m9, rfl⟩
  clear hr2 hr4
  go_wp2_with fail
  refine (markF_calls _ _ vs HL.out _ (HO9.out.below (below_drewN (Below.refl _ _) _))).mono ?_
  rintro e w10 ⟨rfl, hO10, hB10⟩
  have HO10 := Frame.hid hO10
  have hB210 : Below w2.heap.size w2 w10 := HB29.out.trans (((below_drewN (Below.refl _ _) _).trans hB10).mono (Nat.le_trans hsz2 (Nat.le_of_lt hl3y)))
  have HB210 := Frame.hid hB210
  have HBw10 := Frame.hid (HB2.out.trans (hB210.mono HB2.out.size))
  clear hO10 hB10 hB210
  go_wp2_with fail
  refine (heldF_calls _ _ vs.length HL.out _ HO10.out).mono ?_
  rintro e w' ⟨rfl, rfl⟩
  go_wp2_with fail
  refine (toFOwn_calls _ xs _ _ hn (HA.out.below HBw10.out)).mono ?_
  rintro e w11 ⟨rfl, hO11, hB11⟩
  have HO11 := Frame.hid hO11
  have HB11 := Frame.hid hB11
  clear hO11 hB11
  go_wp2_with fail
  refine (toFOwn_calls _ ys _ _ hm ((HB.out.below HBw10.out).below HB11.out)).mono ?_
  rintro e w11y ⟨rfl, hO11y, hB11y⟩
  have hrx := (HO11.out.below hB11y).rd rfl
  have hry := hO11y.rd rfl
  have HB11y := Frame.hid (HB11.out.trans (hB11y.mono HB11.out.size))
  clear hO11y hB11y HO11 HB11
  go_wp2_with fail
  refine (naturalV_calls _ _ xs ys _ _ _ hn hm hrx hry).mono ?_
  rintro e w12 ⟨v12, us, ok12, rfl, hS12, hO12, hB12⟩
  obtain ⟨e1, e3⟩ := HS2.out.same hS12
  subst e1
  subst e3
  have hB1012 := HB11y.out.trans (hB12.mono HB11y.out.size)
  have HO12 := Frame.hid hO12
  have HOM := Frame.hid (HO10.out.below hB1012)
  have HB212 := Frame.hid (HB210.out.trans (hB1012.mono HB210.out.size))
  clear hS12 hO12 hB12 hB1012 hrx hry
  go_wp2_with fail
  obtain ⟨hr2⟩ : Nonempty (RdF w12 A2 vs) := by
    obtain ⟨A', c', hv, hr⟩ := (HO2.out.below HB212.out).reads
    cases hv
    exact ⟨hr⟩
  obtain ⟨A5, c5, rfl, hr5⟩ := HO12.out.reads
  refine (eqFl_calls _ _ vs vs _ _ _ (by have := HL.out; omega) (LSame.refl _) hr5 hr2).mono ?_
  rintro e w13 ⟨rfl, m13, rfl⟩
  clear hr2 hr5
  go_wp2_with fail
  refine (heldF_calls _ _ vs.length HL.out _ (HOM.out.below (below_drewN (Below.refl _ _) _))).mono ?_
  rintro e w' ⟨rfl, rfl⟩
  go_wp2_with fail
  go_ret
  exact ⟨rfl, below_drewN (HB2.out.trans (HB212.out.mono HB2.out.size)) _⟩

end Go.Proofs.Ytfkdkdocbecjmaa
