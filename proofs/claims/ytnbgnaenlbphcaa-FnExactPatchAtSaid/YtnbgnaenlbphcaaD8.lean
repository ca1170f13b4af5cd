/-
  PatchAt: the specification's side, whole; the law, walked.
-/
import Derived.Test.YtnbgnaenlbphcaaD7
import Derived.Test.YtnbgnaenlbphcaaKo
namespace Go.Proofs.Ytnbgnaenlbphcaa
open Go.RowKit Fl Ieee Go.WideShapes Go.Deep
attribute [local go_sem] kstore_f kalloc_drewN kset_drewN hstore_i hstore_s

set_option maxRecDepth 100000 in
set_option maxHeartbeats 4000000 in
theorem specPatchAt_no (A : Option Addr) (cx n : Nat) (xs : List (Nat × Nat × Nat)) (hxn : n = xs.length) (hn : n ≤ 1048576) (d : Int) (a b : Nat) (h : (patB d xs && (fin .f32 a && geP a) && (fin .f32 b && geP b)) = false) (w : World) (hr : RdS w A xs) :
    Calls Try.prog 48 #[.slice A n cx, .int .i64 d, .float .f32 a, .float .f32 b] w fun e' w' => e' = .returned (.tuple #[.agg #[.float .f32 0, .float .f32 0, .float .f32 0], .bool false]) ∧ Below w.heap.size w w' := by
  have HPV := Frame.hid (fun W (hW : Below w.heap.size w W) => l04Patch_calls A xs cx n hxn d W hn (hr.below hW))
  clear hxn hr
  have hb1 : Below w.heap.size w (w.alloc (.cells #[.float .f32 0, .float .f32 0, .float .f32 0] 57)) := (Below.refl _ _).alloc (Nat.le_refl _) _
  have hcs : patB d xs = false ∨ (patB d xs = true ∧ (fin .f32 a && geP a) = false) ∨ (patB d xs = true ∧ (fin .f32 a && geP a) = true ∧ (fin .f32 b && geP b) = false) := by
    cases h1 : patB d xs <;> cases h2 : (fin .f32 a && geP a) <;> cases h3 : (fin .f32 b && geP b) <;> simp [h1, h2, h3] at h ⊢
  clear h
  rcases hcs with h1 | ⟨h1, h2⟩ | ⟨h1, h2, h3⟩
  · rw [h1] at HPV
    clear h1
    go_enter Try.func48, Try.ntmps48
    go_wp2_with fail
    refine (HPV.out _ hb1).mono ?_
    rintro e1 w1 ⟨rfl, hB1⟩
    have HN1 := Frame.hid (show New w1 w.heap.size from New.born hB1)
    have HB1 := Frame.hid (hb1.trans (hB1.mono hb1.size))
    clear hb1 hB1
    have z0 := HN1.out.a.c0
    have z1 := HN1.out.a.c1
    have z2 := HN1.out.a.c2
    have zf := HN1.out.f
    have zl := HN1.out.l
    obtain ⟨e0, e1, e2⟩ := set3_read (w := w1) (v0 := .float .f32 0) (v1 := .float .f32 0) (v2 := .float .f32 0) z0 z1 z2
    go_wp2_with fail
    refine bodyPost_ret (v := .tuple #[.agg #[.float .f32 0, .float .f32 0, .float .f32 0], .bool false]) (by simp [results, Try.results48, go_sem, e0, e1, e2]) rfl ⟨rfl, ?_⟩
    exact ((HB1.out.setCell (p := ⟨w.heap.size, 0, none⟩) (Nat.le_refl _) _).setCell (p := ⟨w.heap.size, 1, none⟩) (Nat.le_refl _) _).setCell (p := ⟨w.heap.size, 2, none⟩) (Nat.le_refl _) _
  · rw [h1] at HPV
    have H2 := Frame.hid h2
    clear h1 h2
    go_enter Try.func48, Try.ntmps48
    go_wp2_with fail
    refine (HPV.out _ hb1).mono ?_
    rintro e1 w1 ⟨rfl, hB1⟩
    have HN1 := Frame.hid (show New w1 w.heap.size from New.born hB1)
    have HB1 := Frame.hid (hb1.trans (hB1.mono hb1.size))
    clear hb1 hB1
    go_wp2_with fail
    refine (l02LeastD_calls _ _).mono ?_
    rintro e2 w2 ⟨rfl, hB2⟩
    rw [H2.out]
    have HN2 := Frame.hid (HN1.out.go hB2)
    have HB2 := Frame.hid (HB1.out.trans (hB2.mono HB1.out.size))
    clear hB2
    have z0 := HN2.out.a.c0
    have z1 := HN2.out.a.c1
    have z2 := HN2.out.a.c2
    have zf := HN2.out.f
    have zl := HN2.out.l
    obtain ⟨e0, e1, e2⟩ := set3_read (w := w2) (v0 := .float .f32 0) (v1 := .float .f32 0) (v2 := .float .f32 0) z0 z1 z2
    go_wp2_with fail
    refine bodyPost_ret (v := .tuple #[.agg #[.float .f32 0, .float .f32 0, .float .f32 0], .bool false]) (by simp [results, Try.results48, go_sem, e0, e1, e2]) rfl ⟨rfl, ?_⟩
    exact ((HB2.out.setCell (p := ⟨w.heap.size, 0, none⟩) (Nat.le_refl _) _).setCell (p := ⟨w.heap.size, 1, none⟩) (Nat.le_refl _) _).setCell (p := ⟨w.heap.size, 2, none⟩) (Nat.le_refl _) _
  · rw [h1] at HPV
    have H2 := Frame.hid h2
    have H3 := Frame.hid h3
    clear h1 h2 h3
    go_enter Try.func48, Try.ntmps48
    go_wp2_with fail
    refine (HPV.out _ hb1).mono ?_
    rintro e1 w1 ⟨rfl, hB1⟩
    have HN1 := Frame.hid (show New w1 w.heap.size from New.born hB1)
    have HB1 := Frame.hid (hb1.trans (hB1.mono hb1.size))
    clear hb1 hB1
    go_wp2_with fail
    refine (l02LeastD_calls _ _).mono ?_
    rintro e2 w2 ⟨rfl, hB2⟩
    rw [H2.out]
    have HN2 := Frame.hid (HN1.out.go hB2)
    have HB2 := Frame.hid (HB1.out.trans (hB2.mono HB1.out.size))
    clear hB2
    go_wp2_with fail
    refine (l02LeastD_calls _ _).mono ?_
    rintro e3 w3 ⟨rfl, hB2⟩
    rw [H3.out]
    have HN3 := Frame.hid (HN2.out.go hB2)
    have HB3 := Frame.hid (HB2.out.trans (hB2.mono HB2.out.size))
    clear hB2
    have z0 := HN3.out.a.c0
    have z1 := HN3.out.a.c1
    have z2 := HN3.out.a.c2
    have zf := HN3.out.f
    have zl := HN3.out.l
    obtain ⟨e0, e1, e2⟩ := set3_read (w := w3) (v0 := .float .f32 0) (v1 := .float .f32 0) (v2 := .float .f32 0) z0 z1 z2
    go_wp2_with fail
    refine bodyPost_ret (v := .tuple #[.agg #[.float .f32 0, .float .f32 0, .float .f32 0], .bool false]) (by simp [results, Try.results48, go_sem, e0, e1, e2]) rfl ⟨rfl, ?_⟩
    exact ((HB3.out.setCell (p := ⟨w.heap.size, 0, none⟩) (Nat.le_refl _) _).setCell (p := ⟨w.heap.size, 1, none⟩) (Nat.le_refl _) _).setCell (p := ⟨w.heap.size, 2, none⟩) (Nat.le_refl _) _

theorem specPatchAt_calls (A : Option Addr) (c n : Nat) (xs : List (Nat × Nat × Nat)) (hxn : n = xs.length) (hn : n ≤ 1048576) (d : Int) (a b : Nat) (w : World) (hr : RdS w A xs) :
    Calls Try.prog 48 #[.slice A n c, .int .i64 d, .float .f32 a, .float .f32 b] w fun e' w' => ∃ x y z ok, e' = .returned (.tuple #[.agg #[.float .f32 x, .float .f32 y, .float .f32 z], .bool ok]) ∧ PtO d xs a b x y z ok ∧ Below w.heap.size w w' := by
  cases h : (patB d xs && (fin .f32 a && geP a) && (fin .f32 b && geP b))
  · refine (specPatchAt_no A c n xs hxn hn d a b h w hr).mono ?_
    rintro e' w' ⟨rfl, hB⟩
    refine ⟨_, _, _, _, rfl, .inl ⟨fun c' hc' => ?_, rfl, rfl, rfl, rfl⟩, hB⟩
    cases hp : patB d xs
    · rfl
    · cases ha : geP a
      · rfl
      · cases hb : geP b
        · rfl
        · rw [hp, ha, hb] at h
          obtain ⟨s, h1, h2⟩ := hc'
          rw [big_no ha hb (by simpa using h) h1 h2, Bool.and_false]
  · simp only [Bool.and_eq_true] at h
    obtain ⟨⟨hp, ha⟩, hb⟩ := h
    obtain ⟨e, rfl, he, hl, -⟩ := patB_yes hp
    obtain ⟨bk, off, rfl, -, -⟩ := hr.h (by rw [hl]; exact Nat.lt_of_le_of_lt (Nat.zero_le _) (crd_at (d := e + 1) (i := 0) (j := 0) (by omega) (by omega)).2)
    exact specPatchAt_yes bk off c n xs hxn (e + 1) (by omega) (hxn.trans hl) hp a b (by simpa using ha) (by simpa using hb) w hr

set_option maxRecDepth 100000 in
set_option maxHeartbeats 4000000 in
theorem fnExactPatchAt_walk (A : Option Addr) (xs : List (Nat × Nat × Nat)) (c : Nat) (hl : xs.length ≤ maxLen) (d : Int) (a b : Nat) (w : World) (hr : RdS w A xs) : Calls Try.prog 13 #[.slice A xs.length c, .int .i64 d, .float .f32 a, .float .f32 b] w fun e w' => e = .returned (.bool true) ∧ Below w.heap.size w w' := by
  by_cases hbig : 1048576 < xs.length
  · go_enter Try.func13, Try.ntmps13
    go_wp2_with (go_at_call 47; refine (szSpotS_calls _ _ _ (by unfold maxLen at hl; omega) _).mono ?_; rintro e w' ⟨rfl, rfl⟩; rw [if_pos hbig])
    go_ret
    exact ⟨rfl, by (apply bel_of; (repeat (first | apply below_dn | apply below_al)); exact below_st _)⟩
  · have hn : xs.length ≤ 1048576 := by omega
    have HN := Frame.hid hn
    have HR := Frame.hid hr
    clear hr hn hl
    go_enter Try.func13, Try.ntmps13
    go_wp2_with (go_at_call 47; refine (szSpotS_calls _ _ _ (by have := HN.out; omega) _).mono ?_; rintro e w' ⟨rfl, rfl⟩; rw [if_neg hbig])
    refine (toSpotS_calls A xs _ _ HN.out HR.out).mono ?_
    rintro e w1 ⟨g1, rfl, hC1, hB1, hg1⟩
    have HB1 := Frame.hid hB1
    have HC1 := Frame.hid hC1
    clear hB1 hC1
    go_wp2_with fail
    refine (specPatchAt_calls _ _ _ xs rfl HN.out _ _ _ _ HC1.out).mono ?_
    rintro e w2 ⟨x, y, z, ok, rfl, hO, hB2⟩
    have HO := Frame.hid hO
    obtain ⟨gs, hgs⟩ : ∃ g, g = w2.heap.size := ⟨_, rfl⟩
    have HB2 := Frame.hid ((HB1.out.trans (hB2.mono HB1.out.size)).alloc (Nat.le_trans HB1.out.size hB2.size) (.cells #[.float .f32 x, .float .f32 y, .float .f32 z] 57))
    have HA := Frame.hid (show At3 (w2.alloc (.cells #[.float .f32 x, .float .f32 y, .float .f32 z] 57)) gs x y z by rw [hgs]; exact At3.here _ _ _ _ _)
    have hgl : gs < (w2.alloc (.cells #[.float .f32 x, .float .f32 y, .float .f32 z] 57)).heap.size := by rw [hgs]; simp
    clear hO hB2
    go_wp2_with fail
    rw [← hgs]
    clear hgs
    generalize w2.alloc (.cells #[.float .f32 x, .float .f32 y, .float .f32 z] 57) = wx at HB2 HA hgl ⊢
    refine (toSpotS_calls A xs _ _ HN.out (HR.out.below HB2.out)).mono ?_
    rintro e w3 ⟨g3, rfl, hC3, hB3, hg3⟩
    have HC3 := Frame.hid hC3
    have HA3 := Frame.hid (HA.out.keep hB3 hgl)
    have hgl3 : gs < w3.heap.size := Nat.lt_of_lt_of_le hgl hB3.size
    have HB3 := Frame.hid (HB2.out.trans (hB3.mono HB2.out.size))
    clear hC3 hB3
    go_wp2_with fail
    refine (patchAt_calls _ _ _ xs rfl HN.out _ _ _ _ HC3.out).mono ?_
    rintro e w4 ⟨x', y', z', ok', rfl, hO4, hB4⟩
    obtain ⟨hS, rfl⟩ := PtO.same hO4 HO.out
    have hA4 := HA3.out.keep hB4 hgl3
    have hgl4 : gs < w4.heap.size := Nat.lt_of_lt_of_le hgl3 hB4.size
    have hne4 : ¬ (gs = w4.heap.size) := by omega
    have c0 := hA4.c0
    have c1 := hA4.c1
    have c2 := hA4.c2
    have HC4 := Frame.hid (HC3.out.below hB4)
    have HB4 := Frame.hid (HB3.out.trans (hB4.mono HB3.out.size))
    have HSM := Frame.hid hS
    clear hO4 hB4 hS HO hA4
    go_wp2_with fail
    have hb4 : Below w4.heap.size w4 (w4.alloc (.cells #[.float .f32 x', .float .f32 y', .float .f32 z'] 57)) := (Below.refl _ _).alloc (Nat.le_refl _) _
    refine (eqSpot_calls _ _ _ _ _ _ HSM.out _).mono ?_
    rintro e w5 ⟨rfl, hB5⟩
    have HC5 := Frame.hid ((HC4.out.below hb4).below hB5)
    have HB5 := Frame.hid (HB4.out.trans ((hb4.trans (hB5.mono hb4.size)).mono HB4.out.size))
    clear hb4 hB5 c0 c1 c2
    cases ok'
    all_goals
      go_wp2_with fail
      refine (toSpotS_calls A xs _ _ HN.out (HR.out.below HB5.out)).mono ?_
      rintro e w6 ⟨g6, rfl, hC6, hB6, hg6⟩
      go_wp2_with fail
      refine (eqSpotS_calls _ _ xs xs _ _ _ rfl _ HN.out (HC5.out.below hB6) hC6 (LS.refl _)).mono ?_
      rintro e w7 ⟨rfl, hB7⟩
      have HB6 := HB5.out.trans (hB6.mono HB5.out.size)
      have HB7 := HB6.trans (hB7.mono HB6.size)
      go_wp2_with fail
      go_ret
      exact ⟨rfl, HB7⟩

end Go.Proofs.Ytnbgnaenlbphcaa
