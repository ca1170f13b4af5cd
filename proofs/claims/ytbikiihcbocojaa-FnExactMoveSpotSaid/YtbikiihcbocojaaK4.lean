/-
  MoveSpot: the program's side.
-/
import Derived.Test.YtbikiihcbocojaaK3
namespace Go.Proofs.Ytbikiihcbocojaa
open Go.RowKit Fl Go.WideShapes Go.Deep
attribute [local go_sem] kstore_f kalloc_drewN kset_drewN hstore_i hstore_s

theorem shB_len {a b : Int} {xs : List (Nat × Nat × Nat)} (h : shB a b xs = true) : 1 ≤ xs.length ∧ xs.length ≤ 36 := by
  unfold shB at h
  simp only [Bool.and_eq_true, decide_eq_true_eq] at h
  obtain ⟨⟨h1, h2⟩, -⟩ := h
  obtain ⟨⟨a1, -⟩, ⟨b1, -⟩, p1, p2⟩ := cntB_mul h1
  have h3 : 2 * 2 ≤ a * b := Int.mul_le_mul a1 b1 (by omega) (by omega)
  obtain ⟨p, hp⟩ : ∃ p : Int, a * b = p := ⟨_, rfl⟩
  rw [hp] at p2 h2 h3
  omega

theorem isSpotW_calls (x y z : Nat) (w : World) : Calls Try.prog 56 #[.agg #[.float .f32 x, .float .f32 y, .float .f32 z]] w fun e w' => e = .returned (.bool (fin3 x y z)) ∧ Below w.heap.size w w' := (isSpot_calls x y z w).mono (by rintro e w' ⟨rfl, n, rfl⟩; exact ⟨rfl, b1 _ _ _⟩)

theorem OwnedS.first {w : World} {B : Nat} {v : Value} {xs : List (Nat × Nat × Nat)} (h : OwnedS w B v xs) (h1 : 1 ≤ xs.length) : ∃ g cap, v = .slice (some ⟨g, 0, none⟩) xs.length cap ∧ B ≤ g ∧ g < w.heap.size ∧ (∀ i, w.frozen? ⟨g, i, none⟩ = false) ∧ ∀ k, k < xs.length → w.cell? ⟨g, k * 3, none⟩ = some (.float .f32 (sx xs k)) ∧ w.cell? ⟨g, k * 3 + 1, none⟩ = some (.float .f32 (sy xs k)) ∧ w.cell? ⟨g, k * 3 + 2, none⟩ = some (.float .f32 (sz xs k)) := by
  obtain ⟨A, c, e, hr⟩ := h.rd
  obtain ⟨b, off, e', hlt, hc⟩ := hr.h (by omega)
  subst e'
  rcases h.ow.h with ⟨h2, _⟩ | ⟨g', cap', cs, hv, hg, hh, hs⟩
  · rw [e] at h2; cases h2
  · rw [e] at hv
    injection hv with hv _ _
    injection hv with hv
    injection hv with hv1 hv2 _
    subst hv1 hv2
    exact ⟨b, c, e, hg, hlt, fun i => frozen_rowS hh, fun k hk => by have q := hc k hk; rw [Nat.zero_add] at q; exact ⟨q.c0, q.c1, q.c2⟩⟩

set_option maxRecDepth 100000 in
set_option maxHeartbeats 4000000 in
theorem moveSpot_calls (A : Option Addr) (xs : List (Nat × Nat × Nat)) (c n : Nat) (hxn : n = xs.length) (a b i : Int) (x y z : Nat) (w : World) (hn : n ≤ 1048576) (hr : RdS w A xs) :
    Calls Try.prog 19 #[.agg #[.int .i64 a, .int .i64 b, .slice A n c], .int .i64 i, .agg #[.float .f32 x, .float .f32 y, .float .f32 z]] w (Out (mvB a b xs i x y z) (outI (mvB a b xs i x y z) a) (outI (mvB a b xs i x y z) b) (outL (mvB a b xs i x y z) (xs.set i.toNat (x, y, z))).length (outL (mvB a b xs i x y z) (xs.set i.toNat (x, y, z))) w) := by
  have hw : Below w.heap.size w (((w.alloc (.cells #[.int .i64 a, .int .i64 b, .slice A n c] 31)).alloc (.cells #[.float .f32 x, .float .f32 y, .float .f32 z] 35)).alloc (.cells #[.int .i64 0, .int .i64 0, .slice none 0 0] 31)) := by (apply bel_of; (repeat (first | apply below_dn | apply below_al)); exact below_st _)
  have HC := Frame.hid (validSheet_calls A xs c n hxn a b _ hn (hr.below hw))
  have HW := Frame.hid hw
  have HN := Frame.hid (shB_len (a := a) (b := b) (xs := xs))
  have HR := Frame.hid hr
  have HX := Frame.hid hxn
  clear hr hw hxn
  cases h1 : shB a b xs
  · have H1 := Frame.hid h1
    have H4 := Frame.hid h1
    have hm : mvB a b xs i x y z = false := by unfold mvB; rw [h1]; rfl
    rw [hm]
    generalize hP : Out false _ _ _ _ w = P
    have HP := Frame.hid hP
    clear hP hm h1
    go_enter Try.func19, Try.ntmps19
    go_wp2_with (first | (go_at_call 55; refine (HC.out).mono ?_; rintro e w' ⟨rfl, hB⟩; rw [H1.out]; have hc := rd_of hB; have hz := fz_of hB; have hs := sz_of hB; have s0 := hs w.heap.size (by simp; try omega); have s1 := hs (w.heap.size + 1) (by simp; try omega); have s2 := hs (w.heap.size + 1 + 1) (by simp; try omega)) | (go_at_call 56; refine (isSpotW_calls _ _ _ _).mono ?_; rintro e w2 ⟨rfl, hB2⟩; rw [H4.out]; have HB2 := hB.trans (hB2.mono hB.size); have hc2 := rd_of HB2; have hz2 := fz_of HB2; have hs2 := sz_of HB2))
    have k0 : w'.cell? ⟨w.heap.size + 1 + 1, 0, none⟩ = some (.int .i64 0) := by rw [hc _ _ (by simp)]; simp [go_sem]
    have k1 : w'.cell? ⟨w.heap.size + 1 + 1, 1, none⟩ = some (.int .i64 0) := by rw [hc _ _ (by simp)]; simp [go_sem]
    have k2 : w'.cell? ⟨w.heap.size + 1 + 1, 2, none⟩ = some (.slice none 0 0) := by rw [hc _ _ (by simp)]; simp [go_sem]
    obtain ⟨e0, e1, e2⟩ := set3_read (w := w') (v0 := .int .i64 0) (v1 := .int .i64 0) (v2 := .slice none 0 0) k0 k1 k2
    refine bodyPost_ret (v := .tuple #[.agg #[.int .i64 0, .int .i64 0, .slice none 0 0], .bool false]) (by simp [results, Try.results19, go_sem, e0, e1, e2]) rfl ?_
    rw [← HP.out]
    refine ⟨none, 0, rfl, ⟨fun h0 => absurd h0 (by simp [outL])⟩, OwS.nilv _ _, ?_⟩
    exact (((HW.out.trans (hB.mono HW.out.size)).setCell (p := ⟨w.heap.size + 1 + 1, 0, none⟩) (by simp; omega) _).setCell (p := ⟨w.heap.size + 1 + 1, 1, none⟩) (by simp; omega) _).setCell (p := ⟨w.heap.size + 1 + 1, 2, none⟩) (by simp; omega) _
  · have H1 := Frame.hid h1
    by_cases h2 : i < 0
    · have H4 := Frame.hid h1
      have hm : mvB a b xs i x y z = false := by unfold mvB; simp; omega
      rw [hm]
      generalize hP : Out false _ _ _ _ w = P
      have HP := Frame.hid hP
      clear hP hm h1
      go_enter Try.func19, Try.ntmps19
      go_wp2_with (first | (go_at_call 55; refine (HC.out).mono ?_; rintro e w' ⟨rfl, hB⟩; rw [H1.out]; have hc := rd_of hB; have hz := fz_of hB; have hs := sz_of hB; have s0 := hs w.heap.size (by simp; try omega); have s1 := hs (w.heap.size + 1) (by simp; try omega); have s2 := hs (w.heap.size + 1 + 1) (by simp; try omega)) | (go_at_call 56; refine (isSpotW_calls _ _ _ _).mono ?_; rintro e w2 ⟨rfl, hB2⟩; rw [H4.out]; have HB2 := hB.trans (hB2.mono hB.size); have hc2 := rd_of HB2; have hz2 := fz_of HB2; have hs2 := sz_of HB2))
      have k0 : w'.cell? ⟨w.heap.size + 1 + 1, 0, none⟩ = some (.int .i64 0) := by rw [hc _ _ (by simp)]; simp [go_sem]
      have k1 : w'.cell? ⟨w.heap.size + 1 + 1, 1, none⟩ = some (.int .i64 0) := by rw [hc _ _ (by simp)]; simp [go_sem]
      have k2 : w'.cell? ⟨w.heap.size + 1 + 1, 2, none⟩ = some (.slice none 0 0) := by rw [hc _ _ (by simp)]; simp [go_sem]
      obtain ⟨e0, e1, e2⟩ := set3_read (w := w') (v0 := .int .i64 0) (v1 := .int .i64 0) (v2 := .slice none 0 0) k0 k1 k2
      refine bodyPost_ret (v := .tuple #[.agg #[.int .i64 0, .int .i64 0, .slice none 0 0], .bool false]) (by simp [results, Try.results19, go_sem, e0, e1, e2]) rfl ?_
      rw [← HP.out]
      refine ⟨none, 0, rfl, ⟨fun h0 => absurd h0 (by simp [outL])⟩, OwS.nilv _ _, ?_⟩
      exact (((HW.out.trans (hB.mono HW.out.size)).setCell (p := ⟨w.heap.size + 1 + 1, 0, none⟩) (by simp; omega) _).setCell (p := ⟨w.heap.size + 1 + 1, 1, none⟩) (by simp; omega) _).setCell (p := ⟨w.heap.size + 1 + 1, 2, none⟩) (by simp; omega) _
    · by_cases h3 : (n : Int) ≤ i
      · have H4 := Frame.hid h1
        have hm : mvB a b xs i x y z = false := by unfold mvB; have := HX.out; simp; omega
        rw [hm]
        generalize hP : Out false _ _ _ _ w = P
        have HP := Frame.hid hP
        clear hP hm h1
        go_enter Try.func19, Try.ntmps19
        go_wp2_with (first | (go_at_call 55; refine (HC.out).mono ?_; rintro e w' ⟨rfl, hB⟩; rw [H1.out]; have hc := rd_of hB; have hz := fz_of hB; have hs := sz_of hB; have s0 := hs w.heap.size (by simp; try omega); have s1 := hs (w.heap.size + 1) (by simp; try omega); have s2 := hs (w.heap.size + 1 + 1) (by simp; try omega)) | (go_at_call 56; refine (isSpotW_calls _ _ _ _).mono ?_; rintro e w2 ⟨rfl, hB2⟩; rw [H4.out]; have HB2 := hB.trans (hB2.mono hB.size); have hc2 := rd_of HB2; have hz2 := fz_of HB2; have hs2 := sz_of HB2))
        have k0 : w'.cell? ⟨w.heap.size + 1 + 1, 0, none⟩ = some (.int .i64 0) := by rw [hc _ _ (by simp)]; simp [go_sem]
        have k1 : w'.cell? ⟨w.heap.size + 1 + 1, 1, none⟩ = some (.int .i64 0) := by rw [hc _ _ (by simp)]; simp [go_sem]
        have k2 : w'.cell? ⟨w.heap.size + 1 + 1, 2, none⟩ = some (.slice none 0 0) := by rw [hc _ _ (by simp)]; simp [go_sem]
        obtain ⟨e0, e1, e2⟩ := set3_read (w := w') (v0 := .int .i64 0) (v1 := .int .i64 0) (v2 := .slice none 0 0) k0 k1 k2
        refine bodyPost_ret (v := .tuple #[.agg #[.int .i64 0, .int .i64 0, .slice none 0 0], .bool false]) (by simp [results, Try.results19, go_sem, e0, e1, e2]) rfl ?_
        rw [← HP.out]
        refine ⟨none, 0, rfl, ⟨fun h0 => absurd h0 (by simp [outL])⟩, OwS.nilv _ _, ?_⟩
        exact (((HW.out.trans (hB.mono HW.out.size)).setCell (p := ⟨w.heap.size + 1 + 1, 0, none⟩) (by simp; omega) _).setCell (p := ⟨w.heap.size + 1 + 1, 1, none⟩) (by simp; omega) _).setCell (p := ⟨w.heap.size + 1 + 1, 2, none⟩) (by simp; omega) _
      · cases h4 : fin3 x y z
        · have H4 := Frame.hid h4
          have hm : mvB a b xs i x y z = false := by unfold mvB; rw [h4]; simp
          rw [hm]
          generalize hP : Out false _ _ _ _ w = P
          have HP := Frame.hid hP
          clear hP hm h1 h4
          go_enter Try.func19, Try.ntmps19
          go_wp2_with (first | (go_at_call 55; refine (HC.out).mono ?_; rintro e w' ⟨rfl, hB⟩; rw [H1.out]; have hc := rd_of hB; have hz := fz_of hB; have hs := sz_of hB; have s0 := hs w.heap.size (by simp; try omega); have s1 := hs (w.heap.size + 1) (by simp; try omega); have s2 := hs (w.heap.size + 1 + 1) (by simp; try omega)) | (go_at_call 56; refine (isSpotW_calls _ _ _ _).mono ?_; rintro e w2 ⟨rfl, hB2⟩; rw [H4.out]; have HB2 := hB.trans (hB2.mono hB.size); have hc2 := rd_of HB2; have hz2 := fz_of HB2; have hs2 := sz_of HB2))
          have k0 : w'.cell? ⟨w.heap.size + 1 + 1, 0, none⟩ = some (.int .i64 0) := by rw [hc _ _ (by simp)]; simp [go_sem]
          have k1 : w'.cell? ⟨w.heap.size + 1 + 1, 1, none⟩ = some (.int .i64 0) := by rw [hc _ _ (by simp)]; simp [go_sem]
          have k2 : w'.cell? ⟨w.heap.size + 1 + 1, 2, none⟩ = some (.slice none 0 0) := by rw [hc _ _ (by simp)]; simp [go_sem]
          have q0 := (hB2.cell s2).trans k0
          have q1 := (hB2.cell s2).trans k1
          have q2 := (hB2.cell s2).trans k2
          obtain ⟨e0, e1, e2⟩ := set3_read (v0 := .int .i64 0) (v1 := .int .i64 0) (v2 := .slice none 0 0) q0 q1 q2
          refine bodyPost_ret (v := .tuple #[.agg #[.int .i64 0, .int .i64 0, .slice none 0 0], .bool false]) (by simp [results, Try.results19, go_sem, e0, e1, e2]) rfl ?_
          rw [← HP.out]
          refine ⟨none, 0, rfl, ⟨fun h0 => absurd h0 (by simp [outL])⟩, OwS.nilv _ _, ?_⟩
          exact (((HW.out.trans (HB2.mono HW.out.size)).setCell (p := ⟨w.heap.size + 1 + 1, 0, none⟩) (by simp; omega) _).setCell (p := ⟨w.heap.size + 1 + 1, 1, none⟩) (by simp; omega) _).setCell (p := ⟨w.heap.size + 1 + 1, 2, none⟩) (by simp; omega) _
        · have H4 := Frame.hid h4
          obtain ⟨k, rfl⟩ := Int.eq_ofNat_of_zero_le (by omega : 0 ≤ i)
          have hk : k < n := by omega
          have hm : mvB a b xs (k : Int) x y z = true := by unfold mvB; have := HX.out; rw [h1, h4]; simp; omega
          rw [hm]
          generalize hP : Out true _ _ _ _ w = P
          have HP := Frame.hid hP
          clear hP hm h1 h4
          obtain ⟨bk, off, rfl, hlt, -⟩ := HR.out.h (by have := HX.out; omega)
          have HCL := Frame.hid (fun W hA => by have h := cloneS_calls bk off c xs (by have := HX.out; omega) (by have := HX.out; have := HN.out H1.out; omega) W hA; rw [← HX.out] at h; exact h : ∀ W, RdS W (some ⟨bk, off, none⟩) xs → Calls Try.prog 57 #[.slice (some ⟨bk, off, none⟩) n c] W fun e w' => ∃ v, e = .returned v ∧ OwnedS w' W.heap.size v xs ∧ Below W.heap.size W w')
          go_enter Try.func19, Try.ntmps19
          go_wp2_with (first | (go_at_call 55; refine (HC.out).mono ?_; rintro e w' ⟨rfl, hB⟩; rw [H1.out]; have hc := rd_of hB; have hz := fz_of hB; have hs := sz_of hB; have s0 := hs w.heap.size (by simp; try omega); have s1 := hs (w.heap.size + 1) (by simp; try omega); have s2 := hs (w.heap.size + 1 + 1) (by simp; try omega)) | (go_at_call 56; refine (isSpotW_calls _ _ _ _).mono ?_; rintro e w2 ⟨rfl, hB2⟩; rw [H4.out]; have HB2 := hB.trans (hB2.mono hB.size); have hc2 := rd_of HB2; have hz2 := fz_of HB2; have hs2 := sz_of HB2) | (go_at_call 57; refine (HCL.out _ (HR.out.below (HW.out.trans (HB2.mono HW.out.size)))).mono ?_; rintro e w3 ⟨v, rfl, hO, hB3⟩; obtain ⟨g, cap, rfl, hg, hgl, hgf, hgc⟩ := hO.first (by have := HX.out; omega); obtain ⟨d0, d1, d2⟩ := hgc k (by have := HX.out; omega); have HB3 := HB2.trans (hB3.mono HB2.size); have hc3 := rd_of HB3; have hz3 := fz_of HB3; have hs3 := sz_of HB3; have z2 : w.heap.size + 1 + 1 < g := Nat.lt_of_lt_of_le (Nat.lt_of_lt_of_le s2 hB2.size) hg; have ng0 : ¬ (g = w.heap.size) := (by omega); have ng1 : ¬ (g = w.heap.size + 1) := (by omega); have ng2 : ¬ (g = w.heap.size + 1 + 1) := (by omega); have mg0 : ¬ (w.heap.size = g) := (by omega); have mg1 : ¬ (w.heap.size + 1 = g) := (by omega); have mg2 : ¬ (w.heap.size + 1 + 1 = g) := (by omega); have hxl : xs.length = n := HX.out.symm; rw [hxl]; clear hxl))
          have k0 : w3.cell? ⟨w.heap.size + 1 + 1, 0, none⟩ = some (.int .i64 0) := by rw [hc3 _ _ (by simp)]; simp [go_sem]
          have k1 : w3.cell? ⟨w.heap.size + 1 + 1, 1, none⟩ = some (.int .i64 0) := by rw [hc3 _ _ (by simp)]; simp [go_sem]
          have k2 : w3.cell? ⟨w.heap.size + 1 + 1, 2, none⟩ = some (.slice none 0 0) := by rw [hc3 _ _ (by simp)]; simp [go_sem]
          have nn : ∀ m m', (⟨g, m, none⟩ : Addr) ≠ ⟨w.heap.size + 1 + 1, m', none⟩ := fun m m' e => by injection e with e1; exact ng2 e1
          have ap : Apart (some ⟨g, 0, none⟩) (w.heap.size + 1 + 1) := fun h e => by injection e with e; subst e; exact mg2
          obtain ⟨p1, p2⟩ := put_spot (x := x) (y := y) (z := z) hO (by have := HX.out; omega : k < xs.length)
          obtain ⟨w4, hw4⟩ : ∃ w4, w4 = ((w3.setCell ⟨g, k * 3, none⟩ (.float .f32 x)).setCell ⟨g, k * 3 + 1, none⟩ (.float .f32 y)).setCell ⟨g, k * 3 + 2, none⟩ (.float .f32 z) := ⟨_, rfl⟩
          rw [← hw4] at p1 p2 ⊢
          have t0 : w4.cell? ⟨w.heap.size + 1 + 1, 0, none⟩ = some (.int .i64 0) := by rw [hw4, World.cell?_setCell_other _ _ _ _ (nn _ _), World.cell?_setCell_other _ _ _ _ (nn _ _), World.cell?_setCell_other _ _ _ _ (nn _ _)]; exact k0
          have t1 : w4.cell? ⟨w.heap.size + 1 + 1, 1, none⟩ = some (.int .i64 0) := by rw [hw4, World.cell?_setCell_other _ _ _ _ (nn _ _), World.cell?_setCell_other _ _ _ _ (nn _ _), World.cell?_setCell_other _ _ _ _ (nn _ _)]; exact k1
          have t2 : w4.cell? ⟨w.heap.size + 1 + 1, 2, none⟩ = some (.slice none 0 0) := by rw [hw4, World.cell?_setCell_other _ _ _ _ (nn _ _), World.cell?_setCell_other _ _ _ _ (nn _ _), World.cell?_setCell_other _ _ _ _ (nn _ _)]; exact k2
          have HB4 : Below w.heap.size w w4 := by rw [hw4]; exact (((HW.out.trans (HB3.mono HW.out.size)).setCell (p := ⟨g, k * 3, none⟩) (by simp; omega) _).setCell (p := ⟨g, k * 3 + 1, none⟩) (by simp; omega) _).setCell (p := ⟨g, k * 3 + 2, none⟩) (by simp; omega) _
          clear hw4 k0 k1 k2
          obtain ⟨e0, e1, e2⟩ := set3_read (w := w4) (v0 := .int .i64 a) (v1 := .int .i64 b) (v2 := .slice (some ⟨g, 0, none⟩) n cap) t0 t1 t2
          refine bodyPost_ret (v := .tuple #[.agg #[.int .i64 a, .int .i64 b, .slice (some ⟨g, 0, none⟩) n cap], .bool true]) (by simp [results, Try.results19, go_sem, e0, e1, e2]) rfl ?_
          rw [← HP.out]
          have hl : (outL true (xs.set ((k : Int)).toNat (x, y, z))).length = n := by rw [HX.out]; exact List.length_set ..
          rw [hl]
          rw [← HX.out] at p2
          refine ⟨_, _, rfl, ?_, ?_, ?_⟩
          · exact ((p1.seta ap).seta ap).seta ap
          · exact (((p2.seta ap).seta ap).seta ap).mono (by have := HW.out.size; have := HB2.size; simp at this; omega)
          · exact ((HB4.setCell (p := ⟨w.heap.size + 1 + 1, 0, none⟩) (by simp; omega) _).setCell (p := ⟨w.heap.size + 1 + 1, 1, none⟩) (by simp; omega) _).setCell (p := ⟨w.heap.size + 1 + 1, 2, none⟩) (by simp; omega) _

end Go.Proofs.Ytbikiihcbocojaa
