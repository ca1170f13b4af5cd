/-
  The law of NearestTile, walked.
-/
import Derived.Test.YtoldefcajampcaaKn
namespace Go.Proofs.Ytoldefcajampcaa
open Go.RowKit Fl Go.WideShapes Go.Deep
attribute [local go_sem] kstore_f kalloc_drewN kset_drewN

set_option maxRecDepth 100000 in
set_option maxHeartbeats 4000000 in
theorem fnExactNearestTile_walk (A : Option Addr) (xs : List (Nat × Nat × Nat)) (c : Nat) (hl : xs.length ≤ maxLen) (x y z : Nat) (w : World) (hr : RdS w A xs) : Calls Try.prog 14 #[.slice A xs.length c, .agg #[.float .f32 x, .float .f32 y, .float .f32 z]] w fun e w' => e = .returned (.bool true) ∧ Below w.heap.size w w' := by
  by_cases hbig : 1048576 < xs.length
  · go_enter Try.func14, Try.ntmps14
    go_wp2_with (go_at_call 43; refine (szSpotS_calls _ _ _ (by unfold maxLen at hl; omega) _).mono ?_; rintro e w' ⟨rfl, rfl⟩; rw [if_pos hbig])
    go_ret
    exact ⟨rfl, by (apply bel_of; (repeat (first | apply below_dn | apply below_al)); exact below_st _)⟩
  · have hn : xs.length ≤ 1048576 := by omega
    have hST : SK (w.heap.size + 1) (w.alloc (.cells #[.float .f32 x, .float .f32 y, .float .f32 z] 24)) [((⟨w.heap.size, 0, none⟩ : Addr), Value.float .f32 x), ((⟨w.heap.size, 1, none⟩ : Addr), Value.float .f32 y), ((⟨w.heap.size, 2, none⟩ : Addr), Value.float .f32 z)] (w.alloc (.cells #[.float .f32 x, .float .f32 y, .float .f32 z] 24)) := SK.start (by simp) (by intro p hp; simp at hp; rcases hp with rfl | rfl | rfl <;> simp [go_sem]) (by intro p hp; simp at hp; rcases hp with rfl | rfl | rfl <;> (simp; try omega))
    have hw1 : Below w.heap.size w (w.alloc (.cells #[.float .f32 x, .float .f32 y, .float .f32 z] 24)) := by (apply bel_of; (repeat (first | apply below_dn | apply below_al)); exact below_st _)
    have HRD := Frame.hid (fun W (h : SK (w.heap.size + 1) (w.alloc (.cells #[.float .f32 x, .float .f32 y, .float .f32 z] 24)) [((⟨w.heap.size, 0, none⟩ : Addr), Value.float .f32 x), ((⟨w.heap.size, 1, none⟩ : Addr), Value.float .f32 y), ((⟨w.heap.size, 2, none⟩ : Addr), Value.float .f32 z)] W) => hr.below (hw1.trans (h.m.mono (by omega))))
    have HN := Frame.hid hn
    have HL := Frame.hid hl
    clear hr hn hl hw1
    go_enter Try.func14, Try.ntmps14
    go_wp2_with (go_at_call 43; refine (szSpotS_calls _ _ _ (by have := HN.out; omega) _).mono ?_; rintro e w' ⟨rfl, rfl⟩; rw [if_neg hbig])
    go_region_held3 (fun W => W.cell? ⟨w.heap.size, 0, none⟩ = some (.float .f32 x) ∧ W.cell? ⟨w.heap.size, 1, none⟩ = some (.float .f32 y) ∧ W.cell? ⟨w.heap.size, 2, none⟩ = some (.float .f32 z) ∧ w.heap.size + 1 ≤ W.heap.size ∧ SK (w.heap.size + 1) (w.alloc (.cells #[.float .f32 x, .float .f32 y, .float .f32 z] 24)) [((⟨w.heap.size, 0, none⟩ : Addr), Value.float .f32 x), ((⟨w.heap.size, 1, none⟩ : Addr), Value.float .f32 y), ((⟨w.heap.size, 2, none⟩ : Addr), Value.float .f32 z)] W) ((refine SK_all3 ?_; (repeat' first | with_reducible assumption | exact SK_of3 (by with_reducible assumption) | exact hST | apply SK.drew | apply SK.drewN | apply SK.alloc | (refine SK.call ?_ (by with_reducible assumption)) | (refine SK.set ?_ _ _ _ (by omega)))))
      (first | (go_at_call 45; refine (toSpotS_calls A xs _ _ HN.out (HRD.out _ ?_)).mono ?_; (· (repeat' first | with_reducible assumption | exact SK_of3 (by with_reducible assumption) | exact hST | apply SK.drew | apply SK.drewN | apply SK.alloc | (refine SK.call ?_ (by with_reducible assumption)) | (refine SK.set ?_ _ _ _ (by omega)))); rintro e w' ⟨g, rfl, hCp, hB, hg⟩) | (go_at_call 16; refine (toSpot_calls _ _ _ _).mono ?_; rintro e w' ⟨rfl, hB⟩) | (go_at_call 48; refine (specNearestTile_calls _ xs _ _ rfl _ _ _ _ HN.out ?_).mono ?_; (· (first | exact hCp | exact hCp.below (by with_reducible assumption))); rintro e w' ⟨i, l, ok, rfl, hO, hB⟩))
    have hSK : SK (w.heap.size + 1) (w.alloc (.cells #[.float .f32 x, .float .f32 y, .float .f32 z] 24)) [((⟨w.heap.size, 0, none⟩ : Addr), Value.float .f32 x), ((⟨w.heap.size, 1, none⟩ : Addr), Value.float .f32 y), ((⟨w.heap.size, 2, none⟩ : Addr), Value.float .f32 z)] _ := SK_of3 (by with_reducible assumption)
    have HO := Frame.hid hO
    have HSK := Frame.hid hSK
    clear hO hSK
    go_wp2_with fail
    refine (toSpotS_calls A xs _ _ HN.out (HRD.out _ HSK.out)).mono ?_
    rintro e w2 ⟨g2, rfl, hC2, hB2, hg2⟩
    have HSK2 := Frame.hid (HSK.out.call hB2)
    have HC2 := Frame.hid hC2
    have a0 := HSK2.out.c (⟨w.heap.size, 0, none⟩, .float .f32 x) (by simp)
    have a1 := HSK2.out.c (⟨w.heap.size, 1, none⟩, .float .f32 y) (by simp)
    have a2 := HSK2.out.c (⟨w.heap.size, 2, none⟩, .float .f32 z) (by simp)
    clear hC2 hB2
    go_wp2_with (go_at_call 16; refine (toSpot_calls _ _ _ _).mono ?_; rintro e w3 ⟨rfl, hB3⟩; have HC3 := Frame.hid (HC2.out.below hB3); have HSK3 := Frame.hid (HSK2.out.call hB3); clear hB3 a0 a1 a2)
    refine (nearestTile_calls _ xs _ _ rfl _ _ _ _ HN.out HC3.out).mono ?_
    rintro e w4 ⟨i', l', ok', rfl, hO4, hB4⟩
    obtain ⟨hi, hS, rfl⟩ := NearO.same hO4 HO.out
    subst hi
    have HC4 := Frame.hid (HC3.out.below hB4)
    have HSK4 := Frame.hid (HSK3.out.call hB4)
    clear hO4 hB4 HO
    have HSM := Frame.hid hS
    clear hS
    go_wp2_with (first | (refine wpList_conv rfl _ _ _ rfl .f32 .f64 (by decide) (.inl rfl) _ rfl (by kernel_rfl) (by kernel_rfl) ?_; intro r n hr hl) | (refine upon_conv _ _ .f32 .f64 _ (by decide) (.inl rfl) (by kernel_rfl) (by kernel_rfl) ?_; intro r n hr hl))
    refine (sameFloat_calls _ _ (wide_pair HSM.out (by with_reducible assumption) (by with_reducible assumption)) _).mono ?_
    rintro e w5 ⟨rfl, n3, rfl⟩
    go_wp2_with fail
    refine (toSpotS_calls A xs _ _ HN.out (HRD.out _ (HSK4.out.drewN _))).mono ?_
    rintro e w6 ⟨g6, rfl, hC6, hB6, hg6⟩
    go_wp2_with fail
    refine (eqSpotS_calls _ _ xs xs _ _ _ rfl _ HN.out ((HC4.out.below (below_drewN (Below.refl _ _) _)).below hB6) hC6 (LS.refl _)).mono ?_
    rintro e w7 ⟨rfl, hB7⟩
    have HSK7 := Frame.hid (((HSK4.out.drewN _).call hB6).call hB7)
    clear hB6 hB7
    go_wp2_with fail
    go_ret
    have hw : Below w.heap.size w (w.alloc (.cells #[.float .f32 x, .float .f32 y, .float .f32 z] 24)) := by (apply bel_of; (repeat (first | apply below_dn | apply below_al)); exact below_st _)
    exact ⟨rfl, hw.trans (HSK7.out.m.mono (by omega))⟩

end Go.Proofs.Ytoldefcajampcaa
