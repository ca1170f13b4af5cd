/-
  The law of AreaOfTiles, walked.
-/
import Derived.Test.YtnhpiebddelebaaA5
import Derived.Test.YtnhpiebddelebaaKm
namespace Go.Proofs.Ytnhpiebddelebaa
open Go.RowKit Fl Go.WideShapes Go.Deep
attribute [local go_sem] kstore_f kalloc_drewN kset_drewN

set_option maxRecDepth 100000 in
set_option maxHeartbeats 4000000 in
theorem fnExactAreaOfTiles_walk (A : Option Addr) (xs : List (Nat × Nat × Nat)) (c : Nat) (hl : xs.length ≤ maxLen) (m k : Int) (w : World) (hr : RdS w A xs) : Calls Try.prog 7 #[.slice A xs.length c, .int .i64 m, .int .i64 k] w fun e w' => e = .returned (.bool true) ∧ Below w.heap.size w w' := by
  by_cases hbig : 1048576 < xs.length
  · go_enter Try.func7, Try.ntmps7
    go_wp2_with (go_at_call 29; refine (szSpotS_calls _ _ _ (by unfold maxLen at hl; omega) _).mono ?_; rintro e w' ⟨rfl, rfl⟩; rw [if_pos hbig])
    go_ret
    exact ⟨rfl, by (apply bel_of; (repeat (first | apply below_dn | apply below_al)); exact below_st _)⟩
  · have hn : xs.length ≤ 1048576 := by omega
    have HN := Frame.hid hn
    have HR := Frame.hid hr
    clear hr hn hl
    go_enter Try.func7, Try.ntmps7
    go_wp2_with (go_at_call 29; refine (szSpotS_calls _ _ _ (by have := HN.out; omega) _).mono ?_; rintro e w' ⟨rfl, rfl⟩; rw [if_neg hbig])
    refine (toSpotS_calls A xs _ _ HN.out HR.out).mono ?_
    rintro e w1 ⟨g1, rfl, hC1, hB1, hg1⟩
    have HB1 := Frame.hid hB1
    have HC1 := Frame.hid hC1
    clear hB1 hC1
    go_wp2_with fail
    refine (specAreaOfTiles_calls _ xs _ _ rfl HN.out _ _ _ HC1.out).mono ?_
    rintro e w2 ⟨r, ok, rfl, hO, hB2⟩
    have HO := Frame.hid hO
    have HB2 := Frame.hid (HB1.out.trans (hB2.mono HB1.out.size))
    clear hO hB2
    go_wp2_with fail
    refine (toSpotS_calls A xs _ _ HN.out (HR.out.below HB2.out)).mono ?_
    rintro e w3 ⟨g3, rfl, hC3, hB3, hg3⟩
    have HC3 := Frame.hid hC3
    have HB3 := Frame.hid (HB2.out.trans (hB3.mono HB2.out.size))
    clear hC3 hB3
    go_wp2_with fail
    refine (areaOfTiles_calls _ xs _ _ rfl HN.out _ _ _ HC3.out).mono ?_
    rintro e w4 ⟨r', ok', rfl, hO4, hB4⟩
    obtain ⟨hS, rfl⟩ := AoO.same hO4 HO.out
    have HC4 := Frame.hid (HC3.out.below hB4)
    have HB4 := Frame.hid (HB3.out.trans (hB4.mono HB3.out.size))
    have HSM := Frame.hid hS
    clear hO4 hB4 hS HO
    go_wp2_with (first | (refine wpList_conv rfl _ _ _ rfl .f32 .f64 (by decide) (.inl rfl) _ rfl (by kernel_rfl) (by kernel_rfl) ?_; intro r n hr hl) | (refine upon_conv _ _ .f32 .f64 _ (by decide) (.inl rfl) (by kernel_rfl) (by kernel_rfl) ?_; intro r n hr hl))
    refine (sameFloat_calls _ _ (wide_pair HSM.out (by with_reducible assumption) (by with_reducible assumption)) _).mono ?_
    rintro e w5 ⟨rfl, n3, rfl⟩
    go_wp2_with fail
    refine (toSpotS_calls A xs _ _ HN.out (HR.out.below (below_drewN HB4.out _))).mono ?_
    rintro e w6 ⟨g6, rfl, hC6, hB6, hg6⟩
    go_wp2_with fail
    refine (eqSpotS_calls _ _ xs xs _ _ _ rfl _ HN.out ((HC4.out.below (below_drewN (Below.refl _ _) _)).below hB6) hC6 (LS.refl _)).mono ?_
    rintro e w7 ⟨rfl, hB7⟩
    have HB6 := (below_drewN HB4.out _).trans (hB6.mono (below_drewN HB4.out _).size)
    have HB7 := HB6.trans (hB7.mono HB6.size)
    go_wp2_with fail
    go_ret
    exact ⟨rfl, HB7⟩

end Go.Proofs.Ytnhpiebddelebaa
