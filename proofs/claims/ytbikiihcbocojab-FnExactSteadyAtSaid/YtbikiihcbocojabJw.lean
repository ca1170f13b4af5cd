/-
  The law of SteadyAt, walked.
-/
import Derived.Test.YtbikiihcbocojabJv
import Derived.Test.YtbikiihcbocojabOp
namespace Go.Proofs.Ytbikiihcbocojab
open Go.RowKit Fl Ieee

set_option maxRecDepth 100000 in
set_option maxHeartbeats 4000000 in
theorem fnExactSteadyAt_walk (A : Option Addr) (xs : List Nat) (c : Nat) (B : Option Addr) (ys : List Nat) (d : Nat) (D : Option Addr) (zs : List Nat) (f t : Nat) (hmax : xs.length ≤ maxLen) (hmay : ys.length ≤ maxLen) (hmaz : zs.length ≤ maxLen) (w : World) (hA : RdF w A xs) (hB : RdF w B ys) (hD : RdF w D zs) :
    Calls Try.prog 9 #[.slice A xs.length c, .slice B ys.length d, .slice D zs.length f, .float .f32 t] w fun e w' => e = .returned (.bool true) ∧ Below w.heap.size w w' := by
  unfold maxLen at hmax hmay hmaz
  have HA := Frame.hid hA
  have HB := Frame.hid hB
  have HD := Frame.hid hD
  clear hA hB hD
  by_cases hbig : 1048576 < xs.length
  · go_enter Try.func9, Try.ntmps9
    go_wp2
    go_ret
    exact ⟨rfl, Below.refl _ _⟩
  by_cases hbiy : 1048576 < ys.length
  · go_enter Try.func9, Try.ntmps9
    go_wp2
    go_ret
    exact ⟨rfl, Below.refl _ _⟩
  by_cases hbiz : 1048576 < zs.length
  · go_enter Try.func9, Try.ntmps9
    go_wp2
    go_ret
    exact ⟨rfl, Below.refl _ _⟩
  have hn : xs.length ≤ 1048576 := by omega
  have hm : ys.length ≤ 1048576 := by omega
  have hk : zs.length ≤ 1048576 := by omega
  clear hbig hbiy hbiz hmax hmay hmaz
  go_enter Try.func9, Try.ntmps9
  go_wp2_with fail
  refine (toFloat32S_calls _ xs _ _ hn HA.out).mono ?_
  rintro e w1 ⟨g1, rfl, hr1, hb1⟩
  have R1 := Frame.hid hr1
  have B1 := Frame.hid hb1
  clear hr1 hb1
  go_wp2_with fail
  refine (toFloat32S_calls _ ys _ _ hm (HB.out.below B1.out)).mono ?_
  rintro e w2 ⟨g2, rfl, hr2, hb2⟩
  have R2 := Frame.hid hr2
  have Q1 := Frame.hid (R1.out.below hb2)
  have B2 := Frame.hid (B1.out.trans (hb2.mono B1.out.size))
  clear hr2 hb2 R1 B1
  go_wp2_with fail
  refine (toFloat32S_calls _ zs _ _ hk (HD.out.below B2.out)).mono ?_
  rintro e w3 ⟨g3, rfl, hr3, hb3⟩
  have R3 := Frame.hid hr3
  have Q2 := Frame.hid (Q1.out.below hb3)
  have Q3 := Frame.hid (R2.out.below hb3)
  have B3 := Frame.hid (B2.out.trans (hb3.mono B2.out.size))
  clear hr3 hb3 Q1 R2 B2
  go_wp2_with fail
  refine (specSteadyAt_calls _ _ _ xs ys zs t _ hn hm hk Q2.out Q3.out R3.out).mono ?_
  rintro e w4 ⟨r1, t1, rfl, hv1, m1, rfl⟩
  have V1 := Frame.hid hv1
  clear hv1 Q2 Q3 R3
  go_wp2_with fail
  refine (toFloat32S_calls _ xs _ _ hn ((HA.out.below B3.out).drewN _)).mono ?_
  rintro e w4 ⟨g4, rfl, hr4, hb4⟩
  have R4 := Frame.hid hr4
  have B4 := Frame.hid (below_stepJ B3.out hb4)
  clear hr4 hb4 B3
  go_wp2_with fail
  refine (toFloat32S_calls _ ys _ _ hm (HB.out.below B4.out)).mono ?_
  rintro e w5 ⟨g5, rfl, hr5, hb5⟩
  have R5 := Frame.hid hr5
  have Q4 := Frame.hid (R4.out.below hb5)
  have B5 := Frame.hid (B4.out.trans (hb5.mono B4.out.size))
  clear hr5 hb5 R4 B4
  go_wp2_with fail
  refine (toFloat32S_calls _ zs _ _ hk (HD.out.below B5.out)).mono ?_
  rintro e w6 ⟨g6, rfl, hr6, hb6⟩
  have R6 := Frame.hid hr6
  have Q5 := Frame.hid (Q4.out.below hb6)
  have Q6 := Frame.hid (R5.out.below hb6)
  have B6 := Frame.hid (B5.out.trans (hb6.mono B5.out.size))
  clear hr6 hb6 Q4 R5 B5
  go_wp2_with fail
  refine (steadyAt_calls _ _ _ xs ys zs t _ hn hm Q5.out Q6.out R6.out).mono ?_
  rintro e w7 ⟨r2, t2, rfl, hv2, hb7⟩
  obtain ⟨hs, ht⟩ := AtV.same (R := SteadyR) (fun h g => SteadyR.same h g) hv2 V1.out
  subst ht
  have HS := Frame.hid hs
  have S1 := Frame.hid (Q5.out.below hb7)
  have S2 := Frame.hid (Q6.out.below hb7)
  have S3 := Frame.hid (R6.out.below hb7)
  have B7 := Frame.hid (B6.out.trans (hb7.mono B6.out.size))
  clear hv2 hs hb7 Q5 Q6 R6 B6 V1
  have htt : (t2 != t2) = false := by cases t2 <;> rfl
  go_wp2_with (first | (refine wpList_conv rfl _ _ _ rfl .f32 .f64 (by decide) (.inl rfl) _ rfl (by kernel_rfl) (by kernel_rfl) ?_; intro r n hr hl) | (go_at_call 21; refine (sameFloat_calls _ _ (wide_pair HS.out (by with_reducible assumption) (by with_reducible assumption)) _).mono ?_; rintro e w' ⟨rfl, n, rfl⟩))
  refine (toFloat32S_calls _ xs _ _ hn ((HA.out.below B7.out).drewN _)).mono ?_
  rintro e w8 ⟨g8, rfl, hr8, hb8⟩
  have R8 := Frame.hid hr8
  have U1 := Frame.hid ((S1.out.drewN _).below hb8)
  have U2 := Frame.hid ((S2.out.drewN _).below hb8)
  have U3 := Frame.hid ((S3.out.drewN _).below hb8)
  have B8 := Frame.hid (below_stepJ B7.out hb8)
  clear hr8 hb8 S1 S2 S3 B7
  go_wp2_with fail
  refine (eqFloat32S_calls _ _ xs _ _ _ hn U1.out R8.out).mono ?_
  rintro e w9 ⟨rfl, m9, rfl⟩
  clear U1 R8
  go_wp2_with fail
  refine (toFloat32S_calls _ ys _ _ hm ((HB.out.below B8.out).drewN _)).mono ?_
  rintro e w10 ⟨g10, rfl, hr10, hb10⟩
  have R10 := Frame.hid hr10
  have X2 := Frame.hid ((U2.out.drewN _).below hb10)
  have X3 := Frame.hid ((U3.out.drewN _).below hb10)
  have B10 := Frame.hid (below_stepJ B8.out hb10)
  clear hr10 hb10 U2 U3 B8
  go_wp2_with fail
  refine (eqFloat32S_calls _ _ ys _ _ _ hm X2.out R10.out).mono ?_
  rintro e w11 ⟨rfl, m11, rfl⟩
  clear X2 R10
  go_wp2_with fail
  refine (toFloat32S_calls _ zs _ _ hk ((HD.out.below B10.out).drewN _)).mono ?_
  rintro e w12 ⟨g12, rfl, hr12, hb12⟩
  have R12 := Frame.hid hr12
  have Y3 := Frame.hid ((X3.out.drewN _).below hb12)
  have B12 := Frame.hid (below_stepJ B10.out hb12)
  clear hr12 hb12 X3 B10
  go_wp2_with fail
  refine (eqFloat32S_calls _ _ zs _ _ _ hk Y3.out R12.out).mono ?_
  rintro e w13 ⟨rfl, m13, rfl⟩
  clear Y3 R12
  go_wp2_with fail
  go_ret
  exact ⟨rfl, below_drewN B12.out _⟩

end Go.Proofs.Ytbikiihcbocojab
