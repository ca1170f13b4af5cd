/-
  MoveSpot: the specification's side.
-/
import Derived.Test.YtbikiihcbocojaaK4
namespace Go.Proofs.Ytbikiihcbocojaa
open Go.RowKit Fl Go.WideShapes Go.Deep
attribute [local go_sem] kstore_f kalloc_drewN kset_drewN hstore_i hstore_s

theorem specSpotW_calls (x y z : Nat) (w : World) : Calls Try.prog 53 #[.agg #[.float .f32 x, .float .f32 y, .float .f32 z]] w fun e w' => e = .returned (.bool (fin3 x y z)) ∧ Below w.heap.size w w' := (l04Spot_calls x y z w).mono (by rintro e w' ⟨rfl, n, rfl⟩; exact ⟨rfl, b1 _ _ _⟩)

theorem shB_mul {a b : Int} {xs : List (Nat × Nat × Nat)} (h : shB a b xs = true) : (xs.length : Int) = a * b := by
  unfold shB at h
  simp only [Bool.and_eq_true, decide_eq_true_eq] at h
  exact h.1.2

set_option maxRecDepth 100000 in
set_option maxHeartbeats 4000000 in
theorem specMoveSpot_calls (A : Option Addr) (xs : List (Nat × Nat × Nat)) (c n : Nat) (hxn : n = xs.length) (a b i : Int) (x y z : Nat) (w : World) (hn : n ≤ 1048576) (hr : RdS w A xs) :
    Calls Try.prog 16 #[.agg #[.int .i64 a, .int .i64 b, .slice A n c], .int .i64 i, .agg #[.float .f32 x, .float .f32 y, .float .f32 z]] w (Out (mvB a b xs i x y z) (outI (mvB a b xs i x y z) a) (outI (mvB a b xs i x y z) b) (outL (mvB a b xs i x y z) (xs.set i.toNat (x, y, z))).length (outL (mvB a b xs i x y z) (xs.set i.toNat (x, y, z))) w) := by
  have hw : Below w.heap.size w (((w.alloc (.cells #[.int .i64 a, .int .i64 b, .slice A n c] 31)).alloc (.cells #[.float .f32 x, .float .f32 y, .float .f32 z] 35)).alloc (.cells #[.int .i64 0, .int .i64 0, .slice none 0 0] 31)) := by (apply bel_of; (repeat (first | apply below_dn | apply below_al)); exact below_st _)
  have hs0 : Sh3 (((w.alloc (.cells #[.int .i64 a, .int .i64 b, .slice A n c] 31)).alloc (.cells #[.float .f32 x, .float .f32 y, .float .f32 z] 35)).alloc (.cells #[.int .i64 0, .int .i64 0, .slice none 0 0] 31)) w.heap.size a b (.slice A n c) := (Sh3.here w a b (.slice A n c) 31).below (((Below.refl _ _).alloc (Nat.le_refl _) _).alloc (by simp) _)
  have HC := Frame.hid (l04Is_calls w.heap.size A xs c n hxn a b _ hn hs0 (hr.below hw))
  have HW := Frame.hid hw
  have HS := Frame.hid hs0
  have HN := Frame.hid (shB_len (a := a) (b := b) (xs := xs))
  have HR := Frame.hid hr
  have HX := Frame.hid hxn
  clear hr hw hxn hs0
  cases h1 : shB a b xs
  · have H1 := Frame.hid h1
    have H4 := Frame.hid h1
    have HL := Frame.hid h1
    have hab : (0 : Int) = 0 := rfl
    have hn1 : (0 : Int) = 0 := rfl
    have hm : mvB a b xs i x y z = false := by unfold mvB; rw [h1]; rfl
    rw [hm]
    generalize hP : Out false _ _ _ _ w = P
    have HP := Frame.hid hP
    clear hP hm h1
    go_enter Try.func16, Try.ntmps16
    go_wp2_with (first | (go_at_call 51; refine (HC.out).mono ?_; rintro e w' ⟨rfl, hB⟩; rw [H1.out]; have hc := rd_of hB; have hz := fz_of hB; have hs := sz_of hB; have s0 := hs w.heap.size (by simp; try omega); have s1 := hs (w.heap.size + 1) (by simp; try omega); have s2 := hs (w.heap.size + 1 + 1) (by simp; try omega)) | (go_at_call 52; refine (l00In_calls _ _ _ _).mono ?_; rintro e w'' ⟨rfl, hE⟩; subst hE; first | rw [HL.out] | (simp only [hab, hn1]; rw [HL.out])) | (go_at_call 53; refine (specSpotW_calls _ _ _ _).mono ?_; rintro e w2 ⟨rfl, hB2⟩; rw [H4.out]; have HB2 := hB.trans (hB2.mono hB.size); have hc2 := rd_of HB2; have hz2 := fz_of HB2; have hs2 := sz_of HB2))
    have k0 : w'.cell? ⟨w.heap.size + 1 + 1, 0, none⟩ = some (.int .i64 0) := by rw [hc _ _ (by simp)]; simp [go_sem]
    have k1 : w'.cell? ⟨w.heap.size + 1 + 1, 1, none⟩ = some (.int .i64 0) := by rw [hc _ _ (by simp)]; simp [go_sem]
    have k2 : w'.cell? ⟨w.heap.size + 1 + 1, 2, none⟩ = some (.slice none 0 0) := by rw [hc _ _ (by simp)]; simp [go_sem]
    obtain ⟨e0, e1, e2⟩ := set3_read (w := w') (v0 := .int .i64 0) (v1 := .int .i64 0) (v2 := .slice none 0 0) k0 k1 k2
    refine bodyPost_ret (v := .tuple #[.agg #[.int .i64 0, .int .i64 0, .slice none 0 0], .bool false]) (by simp [results, Try.results16, go_sem, e0, e1, e2]) rfl ?_
    rw [← HP.out]
    refine ⟨none, 0, rfl, ⟨fun h0 => absurd h0 (by simp [outL])⟩, OwS.nilv _ _, ?_⟩
    exact (((HW.out.trans (hB.mono HW.out.size)).setCell (p := ⟨w.heap.size + 1 + 1, 0, none⟩) (by simp; omega) _).setCell (p := ⟨w.heap.size + 1 + 1, 1, none⟩) (by simp; omega) _).setCell (p := ⟨w.heap.size + 1 + 1, 2, none⟩) (by simp; omega) _
  · have H1 := Frame.hid h1
    have hab : IntKind.i64.wrap (a * b) = (n : Int) := by rw [← shB_mul h1, ← HX.out, IntKind.wrap_i64]; omega
    have hn1 : IntKind.i64.wrap ((n : Int) - 1) = (n : Int) - 1 := by rw [IntKind.wrap_i64]; omega
    cases hl : (decide (0 ≤ i) && decide (i ≤ (n : Int) - 1))
    · have HL := Frame.hid hl
      have H4 := Frame.hid h1
      have hm : mvB a b xs i x y z = false := by unfold mvB; have := HX.out; simp at hl ⊢; intro _ h; have := hl h; omega
      rw [hm]
      generalize hP : Out false _ _ _ _ w = P
      have HP := Frame.hid hP
      clear hP hm h1 hl
      go_enter Try.func16, Try.ntmps16
      go_wp2_with (first | (go_at_call 51; refine (HC.out).mono ?_; rintro e w' ⟨rfl, hB⟩; rw [H1.out]; have hc := rd_of hB; have hz := fz_of hB; have hs := sz_of hB; have s0 := hs w.heap.size (by simp; try omega); have s1 := hs (w.heap.size + 1) (by simp; try omega); have s2 := hs (w.heap.size + 1 + 1) (by simp; try omega)) | (go_at_call 52; refine (l00In_calls _ _ _ _).mono ?_; rintro e w'' ⟨rfl, hE⟩; subst hE; first | rw [HL.out] | (simp only [hab, hn1]; rw [HL.out])) | (go_at_call 53; refine (specSpotW_calls _ _ _ _).mono ?_; rintro e w2 ⟨rfl, hB2⟩; rw [H4.out]; have HB2 := hB.trans (hB2.mono hB.size); have hc2 := rd_of HB2; have hz2 := fz_of HB2; have hs2 := sz_of HB2))
      have k0 : w'.cell? ⟨w.heap.size + 1 + 1, 0, none⟩ = some (.int .i64 0) := by rw [hc _ _ (by simp)]; simp [go_sem]
      have k1 : w'.cell? ⟨w.heap.size + 1 + 1, 1, none⟩ = some (.int .i64 0) := by rw [hc _ _ (by simp)]; simp [go_sem]
      have k2 : w'.cell? ⟨w.heap.size + 1 + 1, 2, none⟩ = some (.slice none 0 0) := by rw [hc _ _ (by simp)]; simp [go_sem]
      obtain ⟨e0, e1, e2⟩ := set3_read (w := w') (v0 := .int .i64 0) (v1 := .int .i64 0) (v2 := .slice none 0 0) k0 k1 k2
      refine bodyPost_ret (v := .tuple #[.agg #[.int .i64 0, .int .i64 0, .slice none 0 0], .bool false]) (by simp [results, Try.results16, go_sem, e0, e1, e2]) rfl ?_
      rw [← HP.out]
      refine ⟨none, 0, rfl, ⟨fun h0 => absurd h0 (by simp [outL])⟩, OwS.nilv _ _, ?_⟩
      exact (((HW.out.trans (hB.mono HW.out.size)).setCell (p := ⟨w.heap.size + 1 + 1, 0, none⟩) (by simp; omega) _).setCell (p := ⟨w.heap.size + 1 + 1, 1, none⟩) (by simp; omega) _).setCell (p := ⟨w.heap.size + 1 + 1, 2, none⟩) (by simp; omega) _
    · have HL := Frame.hid hl
      cases h4 : fin3 x y z
      · have H4 := Frame.hid h4
        have hm : mvB a b xs i x y z = false := by unfold mvB; rw [h4]; simp
        rw [hm]
        generalize hP : Out false _ _ _ _ w = P
        have HP := Frame.hid hP
        clear hP hm h1 h4 hl
        go_enter Try.func16, Try.ntmps16
        go_wp2_with (first | (go_at_call 51; refine (HC.out).mono ?_; rintro e w' ⟨rfl, hB⟩; rw [H1.out]; have hc := rd_of hB; have hz := fz_of hB; have hs := sz_of hB; have s0 := hs w.heap.size (by simp; try omega); have s1 := hs (w.heap.size + 1) (by simp; try omega); have s2 := hs (w.heap.size + 1 + 1) (by simp; try omega)) | (go_at_call 52; refine (l00In_calls _ _ _ _).mono ?_; rintro e w'' ⟨rfl, hE⟩; subst hE; first | rw [HL.out] | (simp only [hab, hn1]; rw [HL.out])) | (go_at_call 53; refine (specSpotW_calls _ _ _ _).mono ?_; rintro e w2 ⟨rfl, hB2⟩; rw [H4.out]; have HB2 := hB.trans (hB2.mono hB.size); have hc2 := rd_of HB2; have hz2 := fz_of HB2; have hs2 := sz_of HB2))
        have k0 : w'.cell? ⟨w.heap.size + 1 + 1, 0, none⟩ = some (.int .i64 0) := by rw [hc _ _ (by simp)]; simp [go_sem]
        have k1 : w'.cell? ⟨w.heap.size + 1 + 1, 1, none⟩ = some (.int .i64 0) := by rw [hc _ _ (by simp)]; simp [go_sem]
        have k2 : w'.cell? ⟨w.heap.size + 1 + 1, 2, none⟩ = some (.slice none 0 0) := by rw [hc _ _ (by simp)]; simp [go_sem]
        have q0 := (hB2.cell s2).trans k0
        have q1 := (hB2.cell s2).trans k1
        have q2 := (hB2.cell s2).trans k2
        obtain ⟨e0, e1, e2⟩ := set3_read (v0 := .int .i64 0) (v1 := .int .i64 0) (v2 := .slice none 0 0) q0 q1 q2
        refine bodyPost_ret (v := .tuple #[.agg #[.int .i64 0, .int .i64 0, .slice none 0 0], .bool false]) (by simp [results, Try.results16, go_sem, e0, e1, e2]) rfl ?_
        rw [← HP.out]
        refine ⟨none, 0, rfl, ⟨fun h0 => absurd h0 (by simp [outL])⟩, OwS.nilv _ _, ?_⟩
        exact (((HW.out.trans (HB2.mono HW.out.size)).setCell (p := ⟨w.heap.size + 1 + 1, 0, none⟩) (by simp; omega) _).setCell (p := ⟨w.heap.size + 1 + 1, 1, none⟩) (by simp; omega) _).setCell (p := ⟨w.heap.size + 1 + 1, 2, none⟩) (by simp; omega) _
      · have H4 := Frame.hid h4
        have hl' : 0 ≤ i ∧ i ≤ (n : Int) - 1 := by simpa using hl
        obtain ⟨k, rfl⟩ := Int.eq_ofNat_of_zero_le hl'.1
        have hk : k < n := by omega
        have hm : mvB a b xs (k : Int) x y z = true := by unfold mvB; have := HX.out; rw [h1, h4]; simp; omega
        rw [hm]
        generalize hP : Out true _ _ _ _ w = P
        have HP := Frame.hid hP
        clear hP hm h1 h4 hl hl'
        obtain ⟨bk, off, rfl, hlt, -⟩ := HR.out.h (by have := HX.out; omega)
        have HCL := Frame.hid (fun W hS hA => by have h := l04Own_calls w.heap.size a b bk off c xs (by have := HX.out; omega) (by have := HX.out; have := HN.out H1.out; omega) W (by rw [← HX.out]; exact hS) hA; exact h : ∀ W, Sh3 W w.heap.size a b (.slice (some ⟨bk, off, none⟩) n c) → RdS W (some ⟨bk, off, none⟩) xs → Calls Try.prog 54 #[.pointer (some ⟨w.heap.size, 0, none⟩)] W fun e w' => ∃ v, e = .returned (.agg #[.int .i64 a, .int .i64 b, v]) ∧ OwnedS w' W.heap.size v xs ∧ Below W.heap.size W w')
        go_enter Try.func16, Try.ntmps16
        go_wp2_with (first | (go_at_call 51; refine (HC.out).mono ?_; rintro e w' ⟨rfl, hB⟩; rw [H1.out]; have hc := rd_of hB; have hz := fz_of hB; have hs := sz_of hB; have s0 := hs w.heap.size (by simp; try omega); have s1 := hs (w.heap.size + 1) (by simp; try omega); have s2 := hs (w.heap.size + 1 + 1) (by simp; try omega)) | (go_at_call 52; refine (l00In_calls _ _ _ _).mono ?_; rintro e w'' ⟨rfl, hE⟩; subst hE; first | rw [HL.out] | (simp only [hab, hn1]; rw [HL.out])) | (go_at_call 53; refine (specSpotW_calls _ _ _ _).mono ?_; rintro e w2 ⟨rfl, hB2⟩; rw [H4.out]; have HB2 := hB.trans (hB2.mono hB.size); have hc2 := rd_of HB2; have hz2 := fz_of HB2; have hs2 := sz_of HB2) | (go_at_call 54; refine (HCL.out _ (HS.out.below HB2) (HR.out.below (HW.out.trans (HB2.mono HW.out.size)))).mono ?_; rintro e w3 ⟨v, rfl, hO, hB3⟩; obtain ⟨g, cap, rfl, hg, hgl, hgf, hgc⟩ := hO.first (by have := HX.out; omega); obtain ⟨d0, d1, d2⟩ := hgc k (by have := HX.out; omega); have HB3 := HB2.trans (hB3.mono HB2.size); have hc3 := rd_of HB3; have hz3 := fz_of HB3; have hs3 := sz_of HB3; have z2 : w.heap.size + 1 + 1 < g := Nat.lt_of_lt_of_le (Nat.lt_of_lt_of_le s2 hB2.size) hg; have z3 : w.heap.size + 1 + 1 < w3.heap.size := Nat.lt_of_lt_of_le (Nat.lt_of_lt_of_le s2 hB2.size) hB3.size; have ng0 : ¬ (g = w.heap.size) := (by omega); have ng1 : ¬ (g = w.heap.size + 1) := (by omega); have ng2 : ¬ (g = w.heap.size + 1 + 1) := (by omega); have mg0 : ¬ (w.heap.size = g) := (by omega); have mg1 : ¬ (w.heap.size + 1 = g) := (by omega); have mg2 : ¬ (w.heap.size + 1 + 1 = g) := (by omega); have hg3 : ¬ (g = w3.heap.size) := (by omega); have mg3 : ¬ (w3.heap.size = g) := (by omega); have hs3' : ¬ (w3.heap.size = w.heap.size + 1 + 1) := (by omega); have ms3' : ¬ (w.heap.size + 1 + 1 = w3.heap.size) := (by omega); have hxl : xs.length = n := HX.out.symm; rw [hxl]; clear hxl))
        have k0 : w3.cell? ⟨w.heap.size + 1 + 1, 0, none⟩ = some (.int .i64 0) := by rw [hc3 _ _ (by simp)]; simp [go_sem]
        have k1 : w3.cell? ⟨w.heap.size + 1 + 1, 1, none⟩ = some (.int .i64 0) := by rw [hc3 _ _ (by simp)]; simp [go_sem]
        have k2 : w3.cell? ⟨w.heap.size + 1 + 1, 2, none⟩ = some (.slice none 0 0) := by rw [hc3 _ _ (by simp)]; simp [go_sem]
        have nn : ∀ m m', (⟨g, m, none⟩ : Addr) ≠ ⟨w.heap.size + 1 + 1, m', none⟩ := fun m m' e => by injection e with e1; exact ng2 e1
        have ap : Apart (some ⟨g, 0, none⟩) (w.heap.size + 1 + 1) := fun h e => by injection e with e; subst e; exact mg2
        obtain ⟨p1, p2⟩ := put_spot (x := x) (y := y) (z := z) hO (by have := HX.out; omega : k < xs.length)
        obtain ⟨w4, hw4⟩ : ∃ w4, w4 = ((w3.setCell ⟨g, k * 3, none⟩ (.float .f32 x)).setCell ⟨g, k * 3 + 1, none⟩ (.float .f32 y)).setCell ⟨g, k * 3 + 2, none⟩ (.float .f32 z) := ⟨_, rfl⟩
        rw [← hw4] at p1 p2 ⊢
        have t0 : w4.cell? ⟨w.heap.size + 1 + 1, 0, none⟩ = some (.int .i64 0) := by rw [hw4, World.cell?_setCell_other _ _ _ _ (nn _ _), World.cell?_setCell_other _ _ _ _ (nn _ _), World.cell?_setCell_other _ _ _ _ (nn _ _)]; exact k0
        have t1 : w4.cell? ⟨w.heap.size + 1 + 1, 1, none⟩ = some (.int .i64 0) := by rw [hw4, World.cell?_setCell_other _ _ _ _ (nn _ _), World.cell?_setCell_other _ _ _ _ (nn _ _), World.cell?_setCell_other _ _ _ _ (nn _ _)]; exact k1
        have t2 : w4.cell? ⟨w.heap.size + 1 + 1, 2, none⟩ = some (.slice none 0 0) := by rw [hw4, World.cell?_setCell_other _ _ _ _ (nn _ _), World.cell?_setCell_other _ _ _ _ (nn _ _), World.cell?_setCell_other _ _ _ _ (nn _ _)]; exact k2
        have HB4 : Below w.heap.size w w4 := by rw [hw4]; exact (((HW.out.trans (HB3.mono HW.out.size)).setCell (p := ⟨g, k * 3, none⟩) (by simp; omega) _).setCell (p := ⟨g, k * 3 + 1, none⟩) (by simp; omega) _).setCell (p := ⟨g, k * 3 + 2, none⟩) (by simp; omega) _
        have hs34 : w3.heap.size ≤ w4.heap.size := by rw [hw4]; simp
        clear hw4 k0 k1 k2
        obtain ⟨e0, e1, e2⟩ := set3_read (w := w4) (v0 := .int .i64 a) (v1 := .int .i64 b) (v2 := .slice (some ⟨g, 0, none⟩) n cap) t0 t1 t2
        have hs4 : w.heap.size + 1 + 1 < w4.heap.size := Nat.lt_of_lt_of_le z3 hs34
        have hA := (Below.refl ((((w4.setCell ⟨w.heap.size + 1 + 1, 0, none⟩ (.int .i64 a)).setCell ⟨w.heap.size + 1 + 1, 1, none⟩ (.int .i64 b)).setCell ⟨w.heap.size + 1 + 1, 2, none⟩ (.slice (some ⟨g, 0, none⟩) n cap))).heap.size (((w4.setCell ⟨w.heap.size + 1 + 1, 0, none⟩ (.int .i64 a)).setCell ⟨w.heap.size + 1 + 1, 1, none⟩ (.int .i64 b)).setCell ⟨w.heap.size + 1 + 1, 2, none⟩ (.slice (some ⟨g, 0, none⟩) n cap))).alloc (Nat.le_refl _) (.cells #[.int .i64 a, .int .i64 b, .slice (some ⟨g, 0, none⟩) n cap] 31)
        have f0 := (hA.cell (by simpa using hs4)).trans e0
        have f1 := (hA.cell (by simpa using hs4)).trans e1
        have f2 := (hA.cell (by simpa using hs4)).trans e2
        refine bodyPost_ret (v := .tuple #[.agg #[.int .i64 a, .int .i64 b, .slice (some ⟨g, 0, none⟩) n cap], .bool true]) (by simp only [results, Try.results16]; simp [go_sem, f0, f1, f2]) rfl ?_
        rw [← HP.out]
        have hl : (outL true (xs.set ((k : Int)).toNat (x, y, z))).length = n := by rw [HX.out]; exact List.length_set ..
        rw [hl]
        rw [← HX.out] at p2
        refine ⟨_, _, rfl, ?_, ?_, ?_⟩
        · exact (((p1.seta ap).seta ap).seta ap).below hA
        · exact ((((p2.seta ap).seta ap).seta ap).mono (by have := HW.out.size; have := HB2.size; simp at this; omega)).below hA
        · exact (((HB4.setCell (p := ⟨w.heap.size + 1 + 1, 0, none⟩) (by simp; omega) _).setCell (p := ⟨w.heap.size + 1 + 1, 1, none⟩) (by simp; omega) _).setCell (p := ⟨w.heap.size + 1 + 1, 2, none⟩) (by simp; omega) _).alloc (by have := HB4.size; simp; try omega) _

end Go.Proofs.Ytbikiihcbocojaa
