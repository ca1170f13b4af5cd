/-
  CutSheet: the program's side.
-/
import Derived.Test.YtnbgnaenlbphcaaE3
import Derived.Test.YtnbgnaenlbphcaaSh
import Derived.Test.YtnbgnaenlbphcaaKd
namespace Go.Proofs.Ytnbgnaenlbphcaa
open Go.RowKit Go.Shelf Fl Ieee Go.WideShapes Go.Deep
attribute [local go_sem] kstore_f kalloc_drewN kset_drewN hstore_i hstore_s Oper.semAt_some

theorem sh3_store {W : World} {g : Nat} {a b a' b' : Int} {s s' : Value} (h : Sh3 W g a b s) : Sh3 (((W.setCell ⟨g, 0, none⟩ (.int .i64 a')).setCell ⟨g, 1, none⟩ (.int .i64 b')).setCell ⟨g, 2, none⟩ s') g a' b' s' := by
  refine ⟨?_, ?_, ?_, by simpa using h.l⟩
  · rw [World.cell?_setCell_other _ _ _ _ (by simp), World.cell?_setCell_other _ _ _ _ (by simp)]
    exact World.cell?_setCell_same' _ _ _ (by rw [h.c0]; rfl)
  · rw [World.cell?_setCell_other _ _ _ _ (by simp)]
    refine World.cell?_setCell_same' _ _ _ ?_
    rw [World.cell?_setCell_other _ _ _ _ (by simp), h.c1]; rfl
  · refine World.cell?_setCell_same' _ _ _ ?_
    rw [World.cell?_setCell_other _ _ _ _ (by simp), World.cell?_setCell_other _ _ _ _ (by simp), h.c2]; rfl
theorem sh3_keptC {B g : Nat} {a b : Int} {s : Value} {W W' : World} (h : Sh3 W g a b s) (hk : KeptC B W W') : Sh3 W' g a b s := by
  obtain ⟨o, ho, hc⟩ := cells_of_cell h.c0
  have e := hk.1 g o ho hc
  have hb : W'.heap[g]? = W.heap[g]? := e.trans ho.symm
  exact ⟨(World.cell?_of_block (a := ⟨g, 0, none⟩) hb).trans h.c0, (World.cell?_of_block (a := ⟨g, 1, none⟩) hb).trans h.c1, (World.cell?_of_block (a := ⟨g, 2, none⟩) hb).trans h.c2, Nat.lt_of_lt_of_le h.l hk.2.size⟩
theorem sh3_other {W : World} {g : Nat} {a b : Int} {s : Value} (h : Sh3 W g a b s) {k i : Nat} {v : Value} (hn : g ≠ k) : Sh3 (W.setCell ⟨k, i, none⟩ v) g a b s := by
  refine ⟨?_, ?_, ?_, by simpa using h.l⟩
  · rw [World.cell?_setCell_other _ _ _ _ (by first | simp | simp [hn])]; exact h.c0
  · rw [World.cell?_setCell_other _ _ _ _ (by first | simp | simp [hn])]; exact h.c1
  · rw [World.cell?_setCell_other _ _ _ _ (by first | simp | simp [hn])]; exact h.c2
theorem OwnedS.keptC {B C : Nat} {W W' : World} {v : Value} {xs : List (Nat × Nat × Nat)} (h : OwnedS W B v xs) (hk : KeptC C W W') : OwnedS W' B v xs :=
  ⟨h.1, h.2.imp id fun ⟨g, cap, cur, h1, h2, h3, h4⟩ => ⟨g, cap, cur, h1, h2, hk.1 g _ h3 rfl, h4⟩⟩
theorem marks_set {B C : Nat} {W : World} {ds : List Deferred} (h : Marks B C ds W) (b i : Nat) (v : Value) : Marks B C ds (W.setCell ⟨b, i, none⟩ v) := h.keep (Nat.le_refl _) (fun k o _ _ hk hc => (KeepsOthers.setCell W ⟨b, i, none⟩ v).same k o hk hc)

set_option maxRecDepth 100000 in
set_option maxHeartbeats 4000000 in
theorem cutSheet_yes (bk off n p q u : Nat) (xs : List (Nat × Nat × Nat)) (hp : 2 ≤ p ∧ p ≤ 6) (hq : 2 ≤ q ∧ q ≤ 6) (hxn : n = xs.length) (hl : n = p * q) (hsh : shB p q xs = true) (hu : isShareB u = true) (w : World) (hA : RdS w (some ⟨bk, off, none⟩) xs) :
    Calls Try.prog 18 #[.agg #[.int .i64 p, .int .i64 q, .slice (some ⟨bk, off, none⟩) n n], .float .f32 u] w fun e w' => ∃ v1 v2 zs1 zs2, FormP u p xs n zs1 ∧ LatP u p xs n zs2 ∧ ((shB p q zs1 && shB p q zs2) = true ∧ e = .returned (.tuple #[.agg #[.int .i64 p, .int .i64 q, v1], .agg #[.int .i64 p, .int .i64 q, v2], .bool true]) ∧ OwnedS w' w.heap.size v1 zs1 ∧ OwnedS w' w.heap.size v2 zs2 ∧ (v1.ownBlock = none ∨ v1.ownBlock ≠ v2.ownBlock) ∨ (shB p q zs1 && shB p q zs2) = false ∧ e = .returned (.tuple #[.agg #[.int .i64 0, .int .i64 0, .slice none 0 0], .agg #[.int .i64 0, .int .i64 0, .slice none 0 0], .bool false])) ∧ Below w.heap.size w w' := by
  have hn36 : n ≤ 36 := by rw [hl]; exact Nat.mul_le_mul hp.2 hq.2
  have HVS := Frame.hid (fun (W : World) (hW : Below w.heap.size w W) => by have h := validSheet_calls (some ⟨bk, off, none⟩) xs n n hxn (p : Int) (q : Int) W (by omega) (hA.below hW); rw [hsh] at h; exact h)
  have HA := Frame.hid hA
  have HX := Frame.hid hxn
  have HL := Frame.hid hl
  have HU := Frame.hid hu
  clear hA hxn hl hu hsh
  refine (callsIn_wide (n := 9)).1 ?_
  refine callsIn_of_wp_marks Try.func18 rfl trivial ?_
  simp only [Try.ntmps18, List.size_toArray, List.length_cons, List.length_nil, Nat.reduceAdd, Nat.reduceSub, Array.replicate_succ, Array.replicate_zero, List.push_toArray, List.append_toArray, List.nil_append, List.cons_append]
  obtain ⟨w0, hw0⟩ : ∃ w0, w0 = ((w.alloc (.cells #[.int .i64 p, .int .i64 q, .slice (some ⟨bk, off, none⟩) n n] 29)).alloc (.cells #[.int .i64 0, .int .i64 0, .slice none 0 0] 29)).alloc (.cells #[.int .i64 0, .int .i64 0, .slice none 0 0] 29) := ⟨_, rfl⟩
  have hW0 : Below w.heap.size w w0 := by rw [hw0]; exact (((Below.refl _ _).alloc (Nat.le_refl _) _).alloc (by simp) _).alloc (by simp; omega) _
  have hs0 : Sh3 w0 w.heap.size p q (.slice (some ⟨bk, off, none⟩) n n) := by rw [hw0]; refine ⟨?_, ?_, ?_, by simp; omega⟩ <;> simp [go_sem]
  have hs1 : Sh3 w0 (w.heap.size + 1) 0 0 (.slice none 0 0) := by rw [hw0]; refine ⟨?_, ?_, ?_, by simp⟩ <;> simp [go_sem]
  have hs2 : Sh3 w0 (w.heap.size + 2) 0 0 (.slice none 0 0) := by rw [hw0]; refine ⟨?_, ?_, ?_, by simp⟩ <;> simp [go_sem]
  have hfz : ∀ b i, (b = w.heap.size + 1 ∨ b = w.heap.size + 2) → w0.frozen? ⟨b, i, none⟩ = false := by rw [hw0]; rintro b i (rfl | rfl) <;> simp [go_sem]
  have hz0 : w0.heap.size = w.heap.size + 3 := by rw [hw0]; simp
  have c0 := hs0.c0
  have c1 := hs0.c1
  have c2 := hs0.c2
  gi_wp2_with fail
  rw [← hw0]
  clear hw0
  refine ⟨trivial, (callsIn_wide.2 (HVS.out _ hW0)).mono ?_⟩
  rintro e w1 ⟨rfl, hB1⟩
  have HW1 := Frame.hid (hW0.trans (hB1.mono hW0.size))
  have HS0 := Frame.hid (hs0.below hB1)
  have HS1 := Frame.hid (hs1.below hB1)
  have HS2 := Frame.hid (hs2.below hB1)
  have HFZ := Frame.hid (fun b i (hb : b = w.heap.size + 1 ∨ b = w.heap.size + 2) => (hB1.frozen (p := ⟨b, i, none⟩) (by show b < w0.heap.size; omega)).trans (hfz b i hb))
  have hz1 : w.heap.size + 3 ≤ w1.heap.size := by have := hB1.size; omega
  have c0 := HS0.out.c0
  have c1 := HS0.out.c1
  have c2 := HS0.out.c2
  clear hs0 hs1 hs2 hfz hB1 hW0 hz0
  gi_wp2_with fail
  refine ⟨trivial, (callsIn_wide.2 (isShare_calls _ _)).mono ?_⟩
  rintro e w' ⟨rfl, rfl⟩
  rw [HU.out]
  have hlt1 : w.heap.size < w1.heap.size := by omega
  have hne1 : w.heap.size ≠ w1.heap.size := by omega
  have hne2 : w.heap.size ≠ w1.heap.size + 1 := by omega
  gi_wp2_with fail
  obtain ⟨g7, hg7⟩ : ∃ g, g = w1.heap.size := ⟨_, rfl⟩
  obtain ⟨g8, hg8⟩ : ∃ g, g = w1.heap.size + 1 := ⟨_, rfl⟩
  obtain ⟨WL, hWL⟩ : ∃ W, W = (w1.alloc (.cells #[.int .i64 p, .int .i64 q, .slice none 0 0] 29)).alloc (.cells #[.int .i64 p, .int .i64 q, .slice none 0 0] 29) := ⟨_, rfl⟩
  have hBL : Below w1.heap.size w1 WL := by rw [hWL]; exact ((Below.refl _ _).alloc (Nat.le_refl _) _).alloc (by simp) _
  have hCS : CsS w p q (.slice (some ⟨bk, off, none⟩) n n) g7 g8 (.slice none 0 0) (.slice none 0 0) [] [] WL := by
    refine ⟨HS0.out.below hBL, ?_, ?_, HS1.out.below hBL, HS2.out.below hBL, ?_, OwnedS.nil _ _, OwnedS.nil _ _, .inl rfl, HW1.out.trans (hBL.mono HW1.out.size), by omega, by omega⟩
    · rw [hWL, hg7]; refine ⟨?_, ?_, ?_, by simp; omega⟩ <;> simp [go_sem]
    · rw [hWL, hg8]; refine ⟨?_, ?_, ?_, by simp⟩ <;> simp [go_sem]
    · rintro b i hi (rfl | rfl | rfl | rfl)
      · rw [hWL, hg7]; simp [go_sem]
      · rw [hWL, hg8]; simp [go_sem]
      · exact (hBL.frozen (p := ⟨_, i, none⟩) (by show w.heap.size + 1 < _; omega)).trans (HFZ.out _ i (.inl rfl))
      · exact (hBL.frozen (p := ⟨_, i, none⟩) (by show w.heap.size + 2 < _; omega)).trans (HFZ.out _ i (.inr rfl))
  rw [← hg8, ← hg7, ← hWL]
  have HCS := Frame.hid hCS
  have hg7w : w.heap.size + 2 < g7 := hCS.lt.1
  clear hCS hBL hWL hg7 hg8 HS0 HS1 HS2 HFZ HW1 hz1 hlt1 hne1 hne2 c0 c1 c2 HVS
  refine wpIn_loop (fun a' W => ∃ (j : Nat) (ds : List Deferred) (v1 v2 : Value) (zs1 zs2 : List (Nat × Nat × Nat)) (u9 u10 u12 u14 u38 u39 u40 u41 u42 u43 u44 u45 u46 u47 u48 u49 u50 u51 u52 u53 u54 u55 u56 u57 u58 u59 u60 u61 u62 u63 u64 u65 u66 u67 u68 u69 u70 u71 u72 u73 u74 u75 : Value), a' = { tmps := #[.agg #[.int .i64 p, .int .i64 q, .slice (some ⟨bk, off, none⟩) n n], .float .f32 u, .pointer (some ⟨w.heap.size, 0, none⟩), undef, .pointer (some ⟨w.heap.size + 1, 0, none⟩), .pointer (some ⟨w.heap.size + 1 + 1, 0, none⟩), .bool false, .pointer (some ⟨g7, 0, none⟩), .pointer (some ⟨g8, 0, none⟩), u9, u10, undef, u12, undef, u14, .agg #[.int .i64 p, .int .i64 q, .slice (some ⟨bk, off, none⟩) n n], .bool true, .bool false, .bool false, .float .f32 u, .bool true, .bool false, .bool false, undef, undef, .pointer (some ⟨w.heap.size, 0, none⟩), .int .i64 p, .pointer (some ⟨w.heap.size, 1, none⟩), .int .i64 q, .agg #[.int .i64 p, .int .i64 q, .slice none 0 0], .pointer (some ⟨w.heap.size, 0, none⟩), .int .i64 p, .pointer (some ⟨w.heap.size, 1, none⟩), .int .i64 q, .agg #[.int .i64 p, .int .i64 q, .slice none 0 0], .pointer (some ⟨w.heap.size, 1, none⟩), .int .i64 q, .int .i64 (j : Nat), u38, u39, u40, u41, u42, u43, u44, u45, u46, u47, u48, u49, u50, u51, u52, u53, u54, u55, u56, u57, u58, u59, u60, u61, u62, u63, u64, u65, u66, u67, u68, u69, u70, u71, u72, u73, u74, u75, undef, undef, undef, undef, undef, undef, undef, undef, undef, undef, undef, undef], defers := ds } ∧ j ≤ q ∧ Marks w.heap.size W.heap.size ds W ∧ FormP u p xs (j * p) zs1 ∧ LatP u p xs (j * p) zs2 ∧ CsS w p q (.slice (some ⟨bk, off, none⟩) n n) g7 g8 v1 v2 zs1 zs2 W) (fun a' _ => q - (intOf (a'.tmps.getD 37 undef)).toNat) ⟨0, [], .slice none 0 0, .slice none 0 0, [], [], _, _, _, _, _, _, _, _, _, _, _, _, _, _, _, _, _, _, _, _, _, _, _, _, _, _, _, _, _, _, _, _, _, _, _, _, _, _, _, _, _, _, rfl, Nat.zero_le _, trivial, by rw [Nat.zero_mul]; exact PartP.nil _ _ _ _ _, by rw [Nat.zero_mul]; exact PartP.nil _ _ _ _ _, HCS.out⟩ ?_
  rintro a0 wq ⟨j, ds, v1, v2, zs1, zs2, u9, u10, u12, u14, u38, u39, u40, u41, u42, u43, u44, u45, u46, u47, u48, u49, u50, u51, u52, u53, u54, u55, u56, u57, u58, u59, u60, u61, u62, u63, u64, u65, u66, u67, u68, u69, u70, u71, u72, u73, u74, u75, rfl, hj, hM, hF1, hL2, hCS⟩
  have HM := Frame.hid hM
  have HF1 := Frame.hid hF1
  have HL2 := Frame.hid hL2
  have HC := Frame.hid hCS
  have c0 := hCS.s.c0
  have c1 := hCS.s.c1
  have c2 := hCS.s.c2
  clear hM hF1 hL2 hCS HCS
  by_cases hlt : j < q
  · gi_wp2_with fail
    refine ⟨trivial, (callsIn_wide.2 (row_calls bk off n p q j xs hp hq HX.out HL.out hlt _ (HA.out.below HC.out.bel))).mono ?_⟩
    rintro e w2 ⟨vr, rfl, hOr, hB2⟩
    obtain ⟨Ar, cr, rfl, hRr, hNr⟩ := hOr.rdF
    have hRL : (rowP xs p j).length = p := rowP_len xs p j
    have HRR : Hid (RdS w2 Ar (rowP xs p j)) := hRr
    have HNR := Frame.hid hNr
    have hRL' : (partL xs (fun i => j * p + i) p).length = p := hRL
    rw [hRL']
    have HC2 := Frame.hid (HC.out.below hB2)
    have HB2 := Frame.hid hB2
    clear hOr hRr hNr hRL' hB2 c0 c1 c2
    gi_wp2_with fail
    refine ⟨trivial, (callsIn_wide.2 (stepsN_calls Ar (rowP xs p j) p cr u hRL.symm (by omega) w2 HRR.out)).mono ?_⟩
    rintro e w3 ⟨vs, rfl, vl, hvl, hOv, hSt, hB3⟩
    obtain ⟨gst, cst, rfl, hgst, hgst2⟩ := hOv.form (by omega : 0 < p)
    have hSF : ∀ k, k < p → ∃ b of c ys, vl.getD k undef = .slice (some ⟨b, of, none⟩) (p - k) c ∧ ys.length = p - k ∧ CutR u k (rowP xs p j) ys ∧ wq.heap.size ≤ b ∧ b < w3.heap.size ∧ ∀ i, i < p - k → w3.cell? ⟨b, of + i * 3, none⟩ = some (.float .f32 (sx ys i)) ∧ w3.cell? ⟨b, of + i * 3 + 1, none⟩ = some (.float .f32 (sy ys i)) ∧ w3.cell? ⟨b, of + i * 3 + 2, none⟩ = some (.float .f32 (sz ys i)) := fun k hk => by
      obtain ⟨⟨A, c, ys, h1, h2, h3, h4, -⟩, A', c', e', hor⟩ := hSt k hk
      obtain ⟨b, of, hb, hlt', hc⟩ := h4.h (by rw [h2]; omega)
      rw [hb] at h1
      rw [h1] at e'
      injection e' with e1
      refine ⟨b, of, c, ys, h1, h2, h3, ?_, hlt', fun i hi => by obtain ⟨q0, q1, q2⟩ := hc i (by rw [h2]; exact hi); exact ⟨q0, q1, q2⟩⟩
      rcases hor with h | h
      · exact HNR.out b of (by rw [← h, ← e1])
      · exact Nat.le_trans HB2.out.size (h b of e1.symm)
    have hStc : ∀ k, k < p → w3.cell? ⟨gst, k, none⟩ = some (vl.getD k undef) := fun k hk => by
      rw [World.ownsRow.cellAt hOv k (by omega), List.getD_eq_getElem?_getD, List.getElem?_eq_getElem (by omega)]
      rfl
    have HSF := Frame.hid hSF
    have HSTC := Frame.hid hStc
    have HC3 := Frame.hid (HC2.out.below hB3)
    have hRn : RnS wq.heap.size w3 v1 v2 w3 := RnS.start (fun k e => (World.ownsRow.lt HC.out.o1 k e).2) (fun k e => (World.ownsRow.lt HC.out.o2 k e).2)
    have HRN := Frame.hid hRn
    have hgstr : wq.heap.size ≤ gst := Nat.le_trans HB2.out.size hgst
    have HKO : Hid (KeepsOthers wq w3) := (keepsO_below HB2.out).trans (keepsO_below (hB3.mono (Nat.le_refl _)))
    have hg8r : g8 < wq.heap.size := HC.out.l.l
    have hg78 : g7 < g8 := HC.out.lt.2
    have HGST := Frame.hid (And.intro hgstr hgst2)
    obtain ⟨i0, hi, hz0, hz1, hz2⟩ := info_parts infoSpot
    clear hSF hStc hOv hSt hRn hB3 hgst HC2 hgstr hgst2
    gi_wp2_with fail
    gi_loopw [47] (fun kv W => ∃ (k : Nat) (v1 : Value) (zs1 : List (Nat × Nat × Nat)), k ≤ p ∧ kv = .int .i64 (k : Nat) ∧ FormP u p xs (j * p + k) zs1 ∧ CsS w p q (.slice (some ⟨bk, off, none⟩) n n) g7 g8 v1 v2 zs1 zs2 W ∧ RnS wq.heap.size w3 v1 v2 W) (fun kv _ => p - (intOf kv).toNat)
    case atStart => exact ⟨0, v1, zs1, Nat.zero_le _, rfl, by rw [Nat.add_zero]; exact HF1.out, HC3.out, HRN.out⟩
    case round =>
      obtain ⟨k, w1v, zf, hk, rfl, hF, hC, hR⟩ := hrel
      have HF := Frame.hid hF
      have HCk := Frame.hid hC
      have HRk := Frame.hid hR
      clear hF hC hR
      by_cases hlk : k < p
      · obtain ⟨b, of, c, ys, hv, hyl, hCut, hb1, hb2, hcl⟩ := HSF.out k hlk
        obtain ⟨x0, x1, x2⟩ := hcl 0 (by omega)
        rw [Nat.zero_mul, Nat.add_zero] at x0 x1 x2
        have kb : ∀ (W : World) (gg i : Nat), W.heap[gg]? = w3.heap[gg]? → W.cell? ⟨gg, i, none⟩ = w3.cell? ⟨gg, i, none⟩ := fun W gg i h => World.cell?_of_block (a := ⟨gg, i, none⟩) h
        have hkb := HRk.out.keep b hb1 hb2
        have hks := HRk.out.keep gst HGST.out.1 HGST.out.2
        have y0 := (kb _ b of hkb).trans x0
        have y1 := (kb _ b (of + 1) hkb).trans x1
        have y2 := (kb _ b (of + 2) hkb).trans x2
        have ys0 := ((kb _ gst k hks).trans (HSTC.out k hlk)).trans (congrArg some hv)
        have d2 := HCk.out.f.c2
        have d7 := HCk.out.fz g7 2 (by omega) (.inl rfl)
        have gl7 := HCk.out.f.l
        obtain ⟨x, hx⟩ : ∃ x, x = sx ys 0 := ⟨_, rfl⟩
        obtain ⟨y, hy⟩ : ∃ y, y = sy ys 0 := ⟨_, rfl⟩
        obtain ⟨z, hz⟩ : ∃ z, z = sz ys 0 := ⟨_, rfl⟩
        rw [← hx] at y0
        rw [← hy] at y1
        rw [← hz] at y2
        have HE : Hid ((x, y, z) = ys.getD 0 (0, 0, 0)) := by show _ = _; rw [hx, hy, hz]; rfl
        have HCUT := Frame.hid hCut
        have hpk : 0 < p - k := by omega
        have hb1n : ∀ kk, w1v.ownBlock = some kk → kk < wq.heap.size ∨ w3.heap.size ≤ kk := HRk.out.b1
        have hnb : some b ≠ w1v.ownBlock := fun e => by have := hb1n b e.symm; omega
        have hn7 : some g7 ≠ w1v.ownBlock := fun e => by have := (World.ownsRow.lt HCk.out.o1 g7 e.symm).1; omega
        have hsz := HRk.out.sz
        clear hv hcl x0 x1 x2 kb hkb hks hx hy hz hCut hb1n
        gi_wp2_with fail
        have hbw : b < wr.heap.size := Nat.lt_of_lt_of_le hb2 hsz
        have HSO : Hid (∀ (W : World), (∀ (bb : Nat), bb < wr.heap.size → some bb ≠ w1v.ownBlock → W.heap[bb]? = wr.heap[bb]?) ∧ wr.heap.size ≤ W.heap.size → W.cell? ⟨g7, 2, none⟩ = some w1v ∧ W.cell? ⟨b, of, none⟩ = some (.float .f32 x) ∧ W.cell? ⟨b, of + 1, none⟩ = some (.float .f32 y) ∧ W.cell? ⟨b, of + 2, none⟩ = some (.float .f32 z)) := fun W h => ⟨(World.cell?_of_block (a := ⟨g7, 2, none⟩) (h.1 g7 gl7 hn7)).trans d2, (World.cell?_of_block (a := ⟨b, of, none⟩) (h.1 b hbw hnb)).trans y0, (World.cell?_of_block (a := ⟨b, of + 1, none⟩) (h.1 b hbw hnb)).trans y1, (World.cell?_of_block (a := ⟨b, of + 2, none⟩) (h.1 b hbw hnb)).trans y2⟩
        refine region_handI 8 (fun W => (∀ (bb : Nat), bb < wr.heap.size → some bb ≠ w1v.ownBlock → W.heap[bb]? = wr.heap[bb]?) ∧ wr.heap.size ≤ W.heap.size) (by kernel_rfl) ?_
        have hBd : Below wr.heap.size wr wr.drew := (Below.refl _ _).drew
        have hS0 : (∀ (bb : Nat), bb < wr.heap.size → some bb ≠ w1v.ownBlock → wr.drew.heap[bb]? = wr.heap[bb]?) ∧ wr.heap.size ≤ wr.drew.heap.size := ⟨fun bb h _ => hBd.block bb h, hBd.size⟩
        generalize wr.drew = wd at hBd hS0 ⊢
        refine' wpEndI_take (fun _ => trivial) 0 rfl (by kernel_rfl) hS0 (Or.inl ⟨by rfl, fun wq' hSq => _⟩) _
        rotate_left
        · (obtain ⟨q0, q1, q2, q3⟩ := HSO.out wq' hSq; go_simp; (try with_reducible rfl))
        simp only [Act.put, List.setIfInBounds_toArray, List.set_cons_zero, List.set_cons_succ]
        refine' wpEndI_take (fun _ => trivial) 1 rfl (by kernel_rfl) hS0 (Or.inl ⟨by rfl, fun wq' hSq => _⟩) _
        rotate_left
        · (obtain ⟨q0, q1, q2, q3⟩ := HSO.out wq' hSq; go_simp; (try with_reducible rfl))
        simp only [Act.put, List.setIfInBounds_toArray, List.set_cons_zero, List.set_cons_succ]
        refine' wpEndI_take (fun _ => trivial) 2 rfl (by kernel_rfl) hS0 (Or.inl ⟨by rfl, fun wq' hSq => _⟩) _
        rotate_left
        · (obtain ⟨q0, q1, q2, q3⟩ := HSO.out wq' hSq; go_simp; (try with_reducible rfl))
        simp only [Act.put, List.setIfInBounds_toArray, List.set_cons_zero, List.set_cons_succ]
        refine' wpEndI_take (fun _ => trivial) 3 rfl (by kernel_rfl) hS0 (Or.inl ⟨by rfl, fun wq' hSq => _⟩) _
        rotate_left
        · (obtain ⟨q0, q1, q2, q3⟩ := HSO.out wq' hSq; go_simp; (try with_reducible rfl))
        simp only [Act.put, List.setIfInBounds_toArray, List.set_cons_zero, List.set_cons_succ]
        refine' wpEndI_take (fun _ => trivial) 4 rfl (by kernel_rfl) hS0 (Or.inl ⟨by rfl, fun wq' hSq => _⟩) _
        rotate_left
        · (obtain ⟨q0, q1, q2, q3⟩ := HSO.out wq' hSq; go_simp; (try with_reducible rfl))
        simp only [Act.put, List.setIfInBounds_toArray, List.set_cons_zero, List.set_cons_succ]
        have hB4 : Below wr.heap.size wr (wd.alloc (.cells #[.float .f32 x, .float .f32 y, .float .f32 z] 57)) := hBd.alloc hBd.size _
        have hS4 : (∀ (bb : Nat), bb < wr.heap.size → some bb ≠ w1v.ownBlock → (wd.alloc (.cells #[.float .f32 x, .float .f32 y, .float .f32 z] 57)).heap[bb]? = wr.heap[bb]?) ∧ wr.heap.size ≤ (wd.alloc (.cells #[.float .f32 x, .float .f32 y, .float .f32 z] 57)).heap.size := ⟨fun bb h _ => hB4.block bb h, hB4.size⟩
        refine wpEndI_ready [5] (by kernel_rfl) rfl (AllI.cons rfl (fun K hK => ?_) AllI.nil)
        gi_wp2
        refine hK.out _ _ (.inr hS4) ?_
        clear hK K
        (try simp only [Act.put, List.setIfInBounds_toArray, List.set_cons_zero, List.set_cons_succ])
        have hO4 : (wd.alloc (.cells #[.float .f32 x, .float .f32 y, .float .f32 z] 57)).ownsRow (g8 + 1) 57 3 w1v zf.length (cellsS zf) := ownsRow_past HCk.out.o1 hB4
        have hC4 := HCk.out.below hB4
        have hzf : zf.length = j * p + k := HF.out.1
        have hjp : j * p + k ≤ 36 := by have : (j + 1) * p ≤ q * p := Nat.mul_le_mul_right p hlt; have h2 := HL.out; rw [Nat.succ_mul, Nat.mul_comm q p] at this; omega
        have hw8 : g8 + 1 ≤ wd.heap.size := by have := HCk.out.l.l; have := hBd.size; omega
        have hnews := news3' wd x y z 57
        have hadr : wd.heap.size = wd.heap.size := rfl
        refine wpEndI_ready [6] (by kernel_rfl) rfl (AllI.cons rfl (fun K hK => ?_) AllI.nil)
        refine wpListIn_append_own_at _ rfl _ _ 27 rfl (g8 + 1) 57 i0 (.agg #[.float .f32 0, .float .f32 0, .float .f32 0]) 3 12 Try.underlying27 hi hz0 hz1 hz2 rfl (by decide) w1v zf.length (cellsS zf) rfl hO4 ⟨wd.heap.size, 0, none⟩ 1 1 (cellsS [(x, y, z)]) rfl rfl hnews (cellsS_one _) (by unfold maxLen; omega) (by omega) (by simp; omega) ?_
        intro v1' w5 hown5 hgrow5 _ hat5
        obtain ⟨A5, c5, rfl⟩ : ∃ A c, v1' = .slice A (zf.length + 1) c := by
          rcases hown5.2 with ⟨h0, h1⟩ | ⟨g', cap, cur, h1, _⟩
          · omega
          · exact ⟨_, _, h1⟩
        clear hzf hjp
        have hS5 : (∀ (bb : Nat), bb < wr.heap.size → some bb ≠ w1v.ownBlock → w5.heap[bb]? = wr.heap[bb]?) ∧ wr.heap.size ≤ w5.heap.size := ⟨fun bb h hne => (hgrow5.block bb (Nat.lt_of_lt_of_le h hB4.size) hne).trans (hB4.block bb h), Nat.le_trans hB4.size hgrow5.size⟩
        refine wpListIn_nil ?_
        refine hK.out _ _ (.inr hS5) ?_
        clear hK K
        (try simp only [Act.put, List.setIfInBounds_toArray, List.set_cons_zero, List.set_cons_succ])
        refine wpEndI_ready [7] (by kernel_rfl) rfl (AllI.cons rfl (fun K hK => ?_) AllI.nil)
        gi_wp2
        refine hK.out _ _ (.inr hS5) ?_
        clear hK K
        (try simp only [Act.put, List.setIfInBounds_toArray, List.set_cons_zero, List.set_cons_succ])
        have d9 := (HSO.out w5 hS5).1
        have f9 : w5.frozen? ⟨g7, 2, none⟩ = false := by
          have h := d7
          simp only [World.frozen?] at h ⊢
          rw [hS5.1 g7 gl7 hn7]
          exact h
        have HCN := Frame.hid (CsS.next1 (e := (x, y, z)) hC4 hown5 hgrow5 hat5)
        have HRN2 := Frame.hid (RnS.step (gk := g7) (i := 2) (x := .slice A5 (zf.length + 1) c5) HRk.out hB4 hO4 hgrow5 hat5 (by omega))
        clear hS4 hO4 hC4 hown5 hgrow5 hat5 hS5 hnews hB4
        refine wpEndI_ready [8] (by kernel_rfl) rfl (AllI.cons rfl (fun K hK => ?_) AllI.nil)
        gi_wp2
        refine hK.out _ _ (by first | exact .inl rfl | exact .inl trivial) ?_
        clear hK K
        refine wpEndI_done (by kernel_rfl) ?_
        clear d9 f9
        gi_wp2
        go_roundw
        case rel => exact ⟨k + 1, .slice A5 (zf.length + 1) c5, zf ++ [(x, y, z)], by omega, by go_num, HF.out.step rfl hlk HCUT.out HE.out, HCN.out, HRN2.out⟩
        case measure => simp [intOf]; omega
      · obtain rfl : k = p := by omega
        clear hlk
        gi_wp2_with (refine ⟨trivial, ?_⟩; gi_at_call 64; refine (backS_in Fence.wide 8 trivial rfl _ _ _ _).mono ?_; rintro e w' ⟨rfl, rfl⟩)
        obtain ⟨Bs, hBs⟩ : ∃ Bs, Bs = wr.heap.size := ⟨_, rfl⟩
        obtain ⟨W0, hW0⟩ : ∃ W0, W0 = wr.alloc (.cells #[.slice (some ⟨gst, 0, none⟩) k cst] 82) := ⟨_, rfl⟩
        rw [← hW0, ← hBs]
        have hBw : Below wr.heap.size wr W0 := by rw [hW0]; exact (Below.refl _ _).alloc (Nat.le_refl _) _
        have hBl : Bs < W0.heap.size := by rw [hW0, hBs]; simp
        have hBc : W0.cell? ⟨Bs, 0, none⟩ = some (.slice (some ⟨gst, 0, none⟩) k cst) := by rw [hW0, hBs]; simp [go_sem]
        have hsz3 := HRk.out.sz
        have hsq3 := HKO.out.size
        have hBs3 : w3.heap.size ≤ Bs := by rw [hBs]; exact hsz3
        have hgl : gst < W0.heap.size := by have := HGST.out.2; omega
        have kb : ∀ (W : World) (gg i : Nat), W.heap[gg]? = w3.heap[gg]? → W.cell? ⟨gg, i, none⟩ = w3.cell? ⟨gg, i, none⟩ := fun W gg i h => World.cell?_of_block (a := ⟨gg, i, none⟩) h
        have hkeep0 : ∀ b, wq.heap.size ≤ b → b < w3.heap.size → W0.heap[b]? = w3.heap[b]? := fun b h1 h2 => (hBw.block b (by omega)).trans (HRk.out.keep b h1 h2)
        have hx0 : ∀ i, i < k → W0.cell? ⟨gst, 0 + i, none⟩ = some (vl.getD i undef) := fun i hi => by rw [Nat.zero_add]; exact (kb _ gst i (hkeep0 gst HGST.out.1 HGST.out.2)).trans (HSTC.out i hi)
        have hC0 := HCk.out.below hBw
        have hR0 : RnS wq.heap.size W0 v2 (.slice none 0 0) W0 := RnS.start (fun kk e => (World.ownsRow.lt HC.out.o2 kk e).2) (fun kk e => by cases e)
        have HK0 : Hid (KeepsOthers wq W0) := (HKO.out.trans HRk.out.ko).trans (keepsO_below hBw)
        have HC0 := Frame.hid hC0
        have HR0 := Frame.hid hR0
        have HBX := Frame.hid (And.intro hBc hx0)
        have HKP := Frame.hid hkeep0
        have hww : w.heap.size ≤ W0.heap.size := hC0.bel.size
        clear hBc hx0 hC0 hR0 hkeep0 kb hW0 hBw hBs
        refine range_tri 62 63 14 (fun x : Fin k => .int .i64 ((k : Int) - 1 - (x.val : Int))) (fun x : Fin k => vl.getD (k - 1 - x.val) undef) rfl (by omega) (gf := 121) (lb := #[.pointer (some ⟨Bs, 0, none⟩)]) rfl trivial (enters_of Try.func121 (by kernel_rfl) rfl)
          (backS_stops Fence.wide 8 trivial rfl (by omega) Bs gst 0 k cst (some ⟨gst, 0, none⟩) (fun _ => rfl) (by omega) vl W0 hBl (fun _ => hgl) HBX.out.1 HBX.out.2) (fun h k => h.trans k) (fun W l o o' hl _ _ _ => kpS_put (by omega) (by omega)) (Below.refl _ _) (fun _ => rfl)
          (fun pre W => ∃ v2 zs2, ((pre = upTo k pre.length → LatP u k xs (j * k + pre.length) zs2) ∧ zs2.length = j * k + pre.length) ∧ CsS w k q (.slice (some ⟨bk, off, none⟩) n n) g7 g8 w1v v2 zf zs2 W ∧ RnS wq.heap.size W0 v2 (.slice none 0 0) W) (fun _ _ _ => False)
          (fun pre X Y row h hg hr => by obtain ⟨v2, zs2, h1, h2, h3⟩ := h; exact ⟨v2, zs2, h1, h2.kept hg hr hww, h3.kept hg hr (Nat.le_refl _)⟩)
          (fun _ _ _ _ _ h _ _ => h)
          ⟨v2, zs2, ⟨fun _ => by show LatP u k xs (j * k + 0) zs2; rw [Nat.add_zero]; exact HL2.out, HL2.out.1⟩, HC0.out, HR0.out⟩
          ?assign ?body ?done ?stop
        case assign =>
          rintro l pre x W K hI hK
          have HKK := Frame.hid hK
          have HI := Frame.hid hI
          clear hK hI
          dsimp only [encBackS]
          rw [fold2S]
          obtain ⟨zi, hzi⟩ : ∃ zi, zi = (k : Int) - 1 - (x.val : Int) := ⟨_, rfl⟩
          obtain ⟨xv, hxv⟩ : ∃ xv, xv = vl.getD (k - 1 - x.val) undef := ⟨_, rfl⟩
          rw [← hzi, ← hxv]
          have HZX := Frame.hid (And.intro hzi hxv)
          clear hzi hxv
          simp only [List.setIfInBounds_toArray, List.set_cons_zero, List.set_cons_succ]
          gi_wp2
          exact HKK.out _ _ (KeepsFrom.refl _ _) ⟨fun _ => rfl, fun _ => rfl⟩ HI.out (by rw [← HZX.out.1, ← HZX.out.2]; simp only [List.setIfInBounds_toArray, List.set_cons_zero, List.set_cons_succ])
        case stop => exact fun D cd pre W hD hpre h hK => h.elim
        case body =>
          rintro l pre x W hl' ⟨rl, hr⟩ ⟨v2n, zl, ⟨hLt, hzb0⟩, hCd, hRd⟩ hltp
          simp only [List.setIfInBounds_toArray, List.set_cons_zero, List.set_cons_succ]
          obtain ⟨i, hi'⟩ : ∃ i, i + x.val + 1 = k := ⟨k - 1 - x.val, by have := x.isLt; omega⟩
          have e1 : (k : Int) - 1 - (x.val : Int) = (i : Int) := by omega
          have e2 : k - 1 - x.val = i := by omega
          rw [e1, e2]
          obtain ⟨b, of, c, ys, hv, hyl, hCut, hb1, hb2, hcl⟩ := HSF.out i (by omega)
          rw [hv]
          obtain ⟨m, hm⟩ : ∃ m, m = x.val := ⟨_, rfl⟩
          obtain ⟨ln, hln⟩ : ∃ ln, ln = k - i := ⟨_, rfl⟩
          obtain ⟨x0, x1, x2⟩ := hcl m (by omega)
          rw [← hln] at hyl ⊢
          have hwl : IntKind.i64.wrap ((ln : Int) - 1) = (m : Int) := by rw [IntKind.wrap_i64]; omega
          have hm0 : (0 : Int) ≤ (m : Int) := by omega
          have hml : (m : Int) < (ln : Int) := by omega
          have kb : ∀ (X Y : World) (gg i : Nat), X.heap[gg]? = Y.heap[gg]? → X.cell? ⟨gg, i, none⟩ = Y.cell? ⟨gg, i, none⟩ := fun X Y gg i h => World.cell?_of_block (a := ⟨gg, i, none⟩) h
          have hkb := (hRd.keep b hb1 (by omega)).trans (HKP.out b hb1 hb2)
          have y0 := (kb _ _ b (of + m * 3) hkb).trans x0
          have y1 := (kb _ _ b (of + m * 3 + 1) hkb).trans x1
          have y2 := (kb _ _ b (of + m * 3 + 2) hkb).trans x2
          have d2 := hCd.l.c2
          have d7 := hCd.fz g8 2 (by omega) (.inr (.inl rfl))
          have gl7 := hCd.l.l
          obtain ⟨xa, hx⟩ : ∃ z, z = sx ys m := ⟨_, rfl⟩
          obtain ⟨ya, hy⟩ : ∃ z, z = sy ys m := ⟨_, rfl⟩
          obtain ⟨za, hz⟩ : ∃ z, z = sz ys m := ⟨_, rfl⟩
          rw [← hx] at y0
          rw [← hy] at y1
          rw [← hz] at y2
          have HE : Hid ((xa, ya, za) = ys.getD m (0, 0, 0)) := by show _ = _; rw [hx, hy, hz]; rfl
          have HCUT := Frame.hid hCut
          have hsW := hRd.sz
          have hnb : some b ≠ v2n.ownBlock := fun e => by have := hRd.b1 b e.symm; omega
          have hn7 : some g8 ≠ v2n.ownBlock := fun e => by have := (World.ownsRow.lt hCd.o2 g8 e.symm).1; omega
          have hbw : b < W.heap.size := by omega
          have HLB : Hid (zl.length ≤ 1000 ∧ zl.length = j * k + pre.length) := by have : j * k ≤ 6 * 6 := Nat.mul_le_mul (by omega) hp.2; exact ⟨by omega, hzb0⟩
          clear hzb0
          have HLt := Frame.hid hLt
          have HCd := Frame.hid hCd
          have HRd := Frame.hid hRd
          have HI := Frame.hid (And.intro hi' (And.intro hm hln))
          have HSO : Hid (∀ (W' : World), (∀ (bb : Nat), bb < W.heap.size → some bb ≠ v2n.ownBlock → W'.heap[bb]? = W.heap[bb]?) ∧ W.heap.size ≤ W'.heap.size → W'.cell? ⟨g8, 2, none⟩ = some v2n ∧ W'.cell? ⟨b, of + m * 3, none⟩ = some (.float .f32 xa) ∧ W'.cell? ⟨b, of + m * 3 + 1, none⟩ = some (.float .f32 ya) ∧ W'.cell? ⟨b, of + m * 3 + 2, none⟩ = some (.float .f32 za)) := fun W' h => ⟨(kb _ _ g8 2 (h.1 g8 gl7 hn7)).trans d2, (kb _ _ b _ (h.1 b hbw hnb)).trans y0, (kb _ _ b _ (h.1 b hbw hnb)).trans y1, (kb _ _ b _ (h.1 b hbw hnb)).trans y2⟩
          have hmlN : m < ln := by omega
          clear hv hcl x0 x1 x2 hkb hx hy hz hCut hLt hCd hRd e1 e2 hr kb hln hyl y0 y1 y2 d2 hm hi'
          gi_wp2
          refine region_handI 11 (fun W' => (∀ (bb : Nat), bb < W.heap.size → some bb ≠ v2n.ownBlock → W'.heap[bb]? = W.heap[bb]?) ∧ W.heap.size ≤ W'.heap.size) (by kernel_rfl) ?_
          have hBd : Below W.heap.size W W.drew := (Below.refl _ _).drew
          have hS0 : (∀ (bb : Nat), bb < W.heap.size → some bb ≠ v2n.ownBlock → W.drew.heap[bb]? = W.heap[bb]?) ∧ W.heap.size ≤ W.drew.heap.size := ⟨fun bb h _ => hBd.block bb h, hBd.size⟩
          generalize W.drew = wd at hBd hS0 ⊢
          refine' wpEndI_take (fun _ => trivial) 0 rfl (by kernel_rfl) hS0 (Or.inl ⟨by rfl, fun wq' hSq => _⟩) _
          rotate_left
          · (obtain ⟨q0, q1, q2, q3⟩ := HSO.out wq' hSq; go_simp; (try with_reducible rfl))
          simp only [Act.put, List.setIfInBounds_toArray, List.set_cons_zero, List.set_cons_succ]
          refine' wpEndI_take (fun _ => trivial) 1 rfl (by kernel_rfl) hS0 (Or.inl ⟨by rfl, fun wq' hSq => _⟩) _
          rotate_left
          · (obtain ⟨q0, q1, q2, q3⟩ := HSO.out wq' hSq; go_simp; (try with_reducible rfl))
          simp only [Act.put, List.setIfInBounds_toArray, List.set_cons_zero, List.set_cons_succ]
          refine' wpEndI_take (fun _ => trivial) 2 rfl (by kernel_rfl) hS0 (Or.inl ⟨by rfl, fun wq' hSq => _⟩) _
          rotate_left
          · (obtain ⟨q0, q1, q2, q3⟩ := HSO.out wq' hSq; go_simp; (try with_reducible rfl))
          simp only [Act.put, List.setIfInBounds_toArray, List.set_cons_zero, List.set_cons_succ]
          refine' wpEndI_take (fun _ => trivial) 3 rfl (by kernel_rfl) hS0 (Or.inl ⟨by rfl, fun wq' hSq => _⟩) _
          rotate_left
          · (obtain ⟨q0, q1, q2, q3⟩ := HSO.out wq' hSq; go_simp; (try with_reducible rfl))
          simp only [Act.put, List.setIfInBounds_toArray, List.set_cons_zero, List.set_cons_succ]
          refine' wpEndI_take (fun _ => trivial) 4 rfl (by kernel_rfl) hS0 (Or.inl ⟨by rfl, fun wq' hSq => _⟩) _
          rotate_left
          · (obtain ⟨q0, q1, q2, q3⟩ := HSO.out wq' hSq; go_simp; (try with_reducible rfl))
          simp only [Act.put, List.setIfInBounds_toArray, List.set_cons_zero, List.set_cons_succ]
          refine' wpEndI_take (fun _ => trivial) 5 rfl (by kernel_rfl) hS0 (Or.inl ⟨by rfl, fun wq' hSq => _⟩) _
          rotate_left
          · (obtain ⟨q0, q1, q2, q3⟩ := HSO.out wq' hSq; go_simp; (try with_reducible rfl))
          simp only [Act.put, List.setIfInBounds_toArray, List.set_cons_zero, List.set_cons_succ]
          refine' wpEndI_take (fun _ => trivial) 6 rfl (by kernel_rfl) hS0 (Or.inl ⟨by rfl, fun wq' hSq => _⟩) _
          rotate_left
          · (obtain ⟨q0, q1, q2, q3⟩ := HSO.out wq' hSq; go_simp; (try with_reducible rfl))
          simp only [Act.put, List.setIfInBounds_toArray, List.set_cons_zero, List.set_cons_succ]
          refine' wpEndI_take (fun _ => trivial) 7 rfl (by kernel_rfl) hS0 (Or.inl ⟨by rfl, fun wq' hSq => _⟩) _
          rotate_left
          · (obtain ⟨q0, q1, q2, q3⟩ := HSO.out wq' hSq; go_simp; (try with_reducible rfl))
          simp only [Act.put, List.setIfInBounds_toArray, List.set_cons_zero, List.set_cons_succ]
          have hB4 : Below W.heap.size W (wd.alloc (.cells #[.float .f32 xa, .float .f32 ya, .float .f32 za] 57)) := hBd.alloc hBd.size _
          have hS4 : (∀ (bb : Nat), bb < W.heap.size → some bb ≠ v2n.ownBlock → (wd.alloc (.cells #[.float .f32 xa, .float .f32 ya, .float .f32 za] 57)).heap[bb]? = W.heap[bb]?) ∧ W.heap.size ≤ (wd.alloc (.cells #[.float .f32 xa, .float .f32 ya, .float .f32 za] 57)).heap.size := ⟨fun bb h _ => hB4.block bb h, hB4.size⟩
          refine wpEndI_ready [8] (by kernel_rfl) rfl (AllI.cons rfl (fun K hK => ?_) AllI.nil)
          gi_wp2
          refine hK.out _ _ (.inr hS4) ?_
          clear hK K
          (try simp only [Act.put, List.setIfInBounds_toArray, List.set_cons_zero, List.set_cons_succ])
          have hO4 : (wd.alloc (.cells #[.float .f32 xa, .float .f32 ya, .float .f32 za] 57)).ownsRow (g8 + 1) 57 3 v2n zl.length (cellsS zl) := ownsRow_past HCd.out.o2 hB4
          have hC4 := HCd.out.below hB4
          have hw8 : g8 + 1 ≤ wd.heap.size := by have := HCd.out.l.l; have := hBd.size; omega
          have hnews := news3' wd xa ya za 57
          have hzb : zl.length ≤ 1000 := HLB.out.1
          refine wpEndI_ready [9] (by kernel_rfl) rfl (AllI.cons rfl (fun K hK => ?_) AllI.nil)
          refine wpListIn_append_own_at _ rfl _ _ 27 rfl (g8 + 1) 57 i0 (.agg #[.float .f32 0, .float .f32 0, .float .f32 0]) 3 12 Try.underlying27 hi hz0 hz1 hz2 rfl (by decide) v2n zl.length (cellsS zl) rfl hO4 ⟨wd.heap.size, 0, none⟩ 1 1 (cellsS [(xa, ya, za)]) rfl rfl hnews (cellsS_one _) (by unfold maxLen; omega) (by omega) (by simp; omega) ?_
          intro v2' w5 hown5 hgrow5 _ hat5
          obtain ⟨A5, c5, rfl⟩ : ∃ A c, v2' = .slice A (zl.length + 1) c := by
            rcases hown5.2 with ⟨h0, h1⟩ | ⟨g', cap, cur, h1, _⟩
            · omega
            · exact ⟨_, _, h1⟩
          have hS5 : (∀ (bb : Nat), bb < W.heap.size → some bb ≠ v2n.ownBlock → w5.heap[bb]? = W.heap[bb]?) ∧ W.heap.size ≤ w5.heap.size := ⟨fun bb h hne => (hgrow5.block bb (Nat.lt_of_lt_of_le h hB4.size) hne).trans (hB4.block bb h), Nat.le_trans hB4.size hgrow5.size⟩
          refine wpListIn_nil ?_
          refine hK.out _ _ (.inr hS5) ?_
          clear hK K
          (try simp only [Act.put, List.setIfInBounds_toArray, List.set_cons_zero, List.set_cons_succ])
          refine wpEndI_ready [10] (by kernel_rfl) rfl (AllI.cons rfl (fun K hK => ?_) AllI.nil)
          gi_wp2
          refine hK.out _ _ (.inr hS5) ?_
          clear hK K
          (try simp only [Act.put, List.setIfInBounds_toArray, List.set_cons_zero, List.set_cons_succ])
          have d9 := (HSO.out w5 hS5).1
          have f9 : w5.frozen? ⟨g8, 2, none⟩ = false := by
            have h := d7
            simp only [World.frozen?] at h ⊢
            rw [hS5.1 g8 gl7 hn7]
            exact h
          have HCN := Frame.hid (CsS.next2 (e := (xa, ya, za)) hC4 hown5 hgrow5 hat5)
          have HRN2 := Frame.hid (RnS.step (gk := g8) (i := 2) (x := .slice A5 (zl.length + 1) c5) HRd.out hB4 hO4 hgrow5 hat5 (by omega))
          have HKN : Hid (KeepsOthers W (w5.setCell ⟨g8, 2, none⟩ (.slice A5 (zl.length + 1) c5))) := (keepsO_below hB4).trans ((KeepsOthers.of_grownBy hgrow5 (rowS_cells hO4)).trans (KeepsOthers.setCell _ _ _))
          clear hS4 hO4 hC4 hown5 hgrow5 hat5 hS5 hnews hB4 hzb
          refine wpEndI_ready [11] (by kernel_rfl) rfl (AllI.cons rfl (fun K hK => ?_) AllI.nil)
          gi_wp2
          refine hK.out _ _ (by first | exact .inl rfl | exact .inl trivial) ?_
          clear hK K
          refine wpEndI_done (by kernel_rfl) ?_
          clear d9 f9
          gi_wp2
          refine ⟨HKN.out.from _, RnS.kp HRd.out HRN2.out ⟨by omega, hBl⟩ ⟨HGST.out.1, by omega⟩, .slice A5 (zl.length + 1) c5, zl ++ [(xa, ya, za)], ⟨fun hp => ?_, by rw [List.length_append, HLB.out.2]; simp; omega⟩, HCN.out, HRN2.out⟩
          have hl1 : (pre ++ [x]).length = pre.length + 1 := by simp
          rw [hl1] at hp ⊢
          obtain ⟨g1, g2⟩ := upTo_lastS hp
          obtain ⟨h1, h2, h3⟩ := HI.out
          rw [show j * k + (pre.length + 1) = (j * k + pre.length) + 1 by omega]
          refine (HLt.out g1).step rfl (by omega) (ys := ys) ?_ (by rw [HE.out, h2, g2])
          show CutR u (k - 1 - pre.length) _ _
          rw [show k - 1 - pre.length = i by omega]
          exact HCUT.out
        case done =>
          rintro D pre W hD rfl ⟨v2n, zl, ⟨hLt, -⟩, hCd, hRd⟩ hKd
          have hLt' : LatP u k xs (j * k + k) zl := by
            have h := hLt (by rw [List.length_finRange]; exact (upTo_all k).symm)
            rwa [List.length_finRange] at h
          have HLT := Frame.hid hLt'
          have HCd := Frame.hid hCd
          have HRd := Frame.hid hRd
          have HKd := Frame.hid hKd
          have HDL : Hid (D < W.heap.size) := (Array.getElem?_eq_some_iff.1 hKd).1
          have HDW := Frame.hid hD
          clear hLt hLt' hCd hRd hKd
          gi_wp2
          have HKT : Hid (KeepsOthers wq W) := HK0.out.trans HRd.out.ko
          refine ⟨?_, ?_⟩
          · refine ⟨j + 1, { target := .collected D, args := #[] } :: ds, w1v, v2n, zf, zl, ?_⟩
            (repeat apply Exists.intro)
            refine ⟨?_, by omega, ?_, ?_, ?_, HCd.out⟩
            · have e : (((j + 1 : Nat)) : Int) = (j : Int) + 1 := by push_cast; rfl
              rw [e]
            · have hdw := HDW.out
              have hk0 := HK0.out.size
              have m1 := HM.out.keep (W' := W) (Nat.le_refl _) (fun kk o _ _ h hc => HKT.out.same kk o h hc)
              exact (m1.cons (D := D) (by omega) (by omega) HKd.out).keep HDL.out (fun _ _ _ _ h _ => h)
            · rw [Nat.succ_mul]; exact HF.out
            · rw [Nat.succ_mul]; exact HLT.out
          · simp [intOf]; omega
  · obtain rfl : j = q := by omega
    obtain ⟨A1, k1, rfl, hr1⟩ := OwnedS.rd HC.out.o1
    obtain ⟨A2, k2, rfl, hr2⟩ := OwnedS.rd HC.out.o2
    have hl1 : zs1.length = n := by rw [HF1.out.1, HL.out, Nat.mul_comm]
    have hl2 : zs2.length = n := by rw [HL2.out.1, HL.out, Nat.mul_comm]
    have HF := Frame.hid (show FormP u p xs n zs1 by rw [← hl1, HF1.out.1]; exact HF1.out)
    have HT := Frame.hid (show LatP u p xs n zs2 by rw [← hl2, HL2.out.1]; exact HL2.out)
    have d0 := HC.out.f.c0
    have d1 := HC.out.f.c1
    have d2 := HC.out.f.c2
    have HV1 := Frame.hid (validSheet_calls A1 zs1 k1 zs1.length rfl (p : Int) (j : Int) wq (by omega) hr1)
    have HV2 := Frame.hid (fun (W : World) (hW : Below wq.heap.size wq W) => validSheet_calls A2 zs2 k2 zs2.length rfl (p : Int) (j : Int) W (by omega) (hr2.below hW))
    have HLN := Frame.hid (And.intro hl1 hl2)
    clear hr1 hr2 hl1 hl2
    gi_wp2_with fail
    refine ⟨trivial, (callsIn_wide.2 HV1.out).mono ?_⟩
    rintro e w2 ⟨rfl, hB2⟩
    have HC2 := Frame.hid (HC.out.below hB2)
    have HM2 := Frame.hid (HM.out.keep (W' := w2) hB2.size (fun kk o _ hlt h _ => (hB2.block kk hlt).trans h))
    have HB2 := Frame.hid hB2
    clear hB2 d0 d1 d2 c0 c1 c2
    cases hv1 : shB p j zs1
    · have HV := Frame.hid hv1
      clear hv1
      have a0 := HC2.out.r4.c0
      have a1 := HC2.out.r4.c1
      have a2 := HC2.out.r4.c2
      have b0 : w2.cell? ⟨w.heap.size + 1 + 1, 0, none⟩ = some (.int .i64 0) := HC2.out.r5.c0
      have b1 : w2.cell? ⟨w.heap.size + 1 + 1, 1, none⟩ = some (.int .i64 0) := HC2.out.r5.c1
      have b2 : w2.cell? ⟨w.heap.size + 1 + 1, 2, none⟩ = some (.slice none 0 0) := HC2.out.r5.c2
      have fa0 := HC2.out.fz (w.heap.size + 1) 0 (by omega) (.inr (.inr (.inl rfl)))
      have fa1 := HC2.out.fz (w.heap.size + 1) 1 (by omega) (.inr (.inr (.inl rfl)))
      have fa2 := HC2.out.fz (w.heap.size + 1) 2 (by omega) (.inr (.inr (.inl rfl)))
      have fb0 : w2.frozen? ⟨w.heap.size + 1 + 1, 0, none⟩ = false := HC2.out.fz (w.heap.size + 2) 0 (by omega) (.inr (.inr (.inr rfl)))
      have fb1 : w2.frozen? ⟨w.heap.size + 1 + 1, 1, none⟩ = false := HC2.out.fz (w.heap.size + 2) 1 (by omega) (.inr (.inr (.inr rfl)))
      have fb2 : w2.frozen? ⟨w.heap.size + 1 + 1, 2, none⟩ = false := HC2.out.fz (w.heap.size + 2) 2 (by omega) (.inr (.inr (.inr rfl)))
      gi_wp2_with fail
      refine ⟨trivial, ?_⟩
      gi_wp2_with fail
      have HSA := Frame.hid (sh3_other (sh3_other (sh3_other (sh3_store (a' := 0) (b' := 0) (s' := .slice none 0 0) HC2.out.r4) (k := w.heap.size + 1 + 1) (i := 0) (v := .int .i64 0) (by omega)) (k := w.heap.size + 1 + 1) (i := 1) (v := .int .i64 0) (by omega)) (k := w.heap.size + 1 + 1) (i := 2) (v := .slice none 0 0) (by omega))
      have HSB := Frame.hid (sh3_store (a' := 0) (b' := 0) (s' := .slice none 0 0) (show Sh3 _ (w.heap.size + 1 + 1) 0 0 (.slice none 0 0) from sh3_other (sh3_other (sh3_other HC2.out.r5 (k := w.heap.size + 1) (i := 0) (v := .int .i64 0) (by omega)) (k := w.heap.size + 1) (i := 1) (v := .int .i64 0) (by omega)) (k := w.heap.size + 1) (i := 2) (v := .slice none 0 0) (by omega)))
      have HBF := Frame.hid (Below.setCell (Below.setCell (Below.setCell (Below.setCell (Below.setCell (Below.setCell HC2.out.bel (p := ⟨w.heap.size + 1, 0, none⟩) (by simp) (.int .i64 0)) (p := ⟨w.heap.size + 1, 1, none⟩) (by simp) (.int .i64 0)) (p := ⟨w.heap.size + 1, 2, none⟩) (by simp) (.slice none 0 0)) (p := ⟨w.heap.size + 1 + 1, 0, none⟩) (by simp; omega) (.int .i64 0)) (p := ⟨w.heap.size + 1 + 1, 1, none⟩) (by simp; omega) (.int .i64 0)) (p := ⟨w.heap.size + 1 + 1, 2, none⟩) (by simp; omega) (.slice none 0 0))
      show LeavesInM _ _ _ _ _ _ _ _ _
      refine leaves_marks (by simp) (marks_set (marks_set (marks_set (marks_set (marks_set (marks_set HM2.out _ _ _) _ _ _) _ _ _) _ _ _) _ _ _) _ _ _) ?_
      intro W' hk
      obtain ⟨r0, r1, r2, -⟩ := sh3_keptC HSA.out hk
      obtain ⟨s0, s1, s2, -⟩ := sh3_keptC HSB.out hk
      refine ⟨.tuple #[.agg #[.int .i64 0, .int .i64 0, .slice none 0 0], .agg #[.int .i64 0, .int .i64 0, .slice none 0 0], .bool false], ?_, .slice none 0 0, .slice none 0 0, zs1, zs2, HF.out, HT.out, .inr ⟨by rw [HV.out]; rfl, rfl⟩, HBF.out.trans hk.2⟩
      clear HSA HSB HBF hk
      simp [results, Try.f18, go_sem, r0, r1, r2, s0, s1, s2]
    · have HV := Frame.hid hv1
      clear hv1
      have e0 := HC2.out.l.c0
      have e1 := HC2.out.l.c1
      have e2 := HC2.out.l.c2
      gi_wp2_with fail
      refine ⟨trivial, (callsIn_wide.2 (HV2.out _ HB2.out)).mono ?_⟩
      rintro e w3 ⟨rfl, hB3⟩
      have HC3 := Frame.hid (HC2.out.below hB3)
      have HM3 := Frame.hid (HM2.out.keep (W' := w3) hB3.size (fun kk o _ hlt h _ => (hB3.block kk hlt).trans h))
      clear hB3 e0 e1 e2
      cases hv2 : shB p j zs2
      · have HVV := Frame.hid hv2
        clear hv2
        have a0 := HC3.out.r4.c0
        have a1 := HC3.out.r4.c1
        have a2 := HC3.out.r4.c2
        have b0 : w3.cell? ⟨w.heap.size + 1 + 1, 0, none⟩ = some (.int .i64 0) := HC3.out.r5.c0
        have b1 : w3.cell? ⟨w.heap.size + 1 + 1, 1, none⟩ = some (.int .i64 0) := HC3.out.r5.c1
        have b2 : w3.cell? ⟨w.heap.size + 1 + 1, 2, none⟩ = some (.slice none 0 0) := HC3.out.r5.c2
        have fa0 := HC3.out.fz (w.heap.size + 1) 0 (by omega) (.inr (.inr (.inl rfl)))
        have fa1 := HC3.out.fz (w.heap.size + 1) 1 (by omega) (.inr (.inr (.inl rfl)))
        have fa2 := HC3.out.fz (w.heap.size + 1) 2 (by omega) (.inr (.inr (.inl rfl)))
        have fb0 : w3.frozen? ⟨w.heap.size + 1 + 1, 0, none⟩ = false := HC3.out.fz (w.heap.size + 2) 0 (by omega) (.inr (.inr (.inr rfl)))
        have fb1 : w3.frozen? ⟨w.heap.size + 1 + 1, 1, none⟩ = false := HC3.out.fz (w.heap.size + 2) 1 (by omega) (.inr (.inr (.inr rfl)))
        have fb2 : w3.frozen? ⟨w.heap.size + 1 + 1, 2, none⟩ = false := HC3.out.fz (w.heap.size + 2) 2 (by omega) (.inr (.inr (.inr rfl)))
        gi_wp2_with fail
        have HSA := Frame.hid (sh3_other (sh3_other (sh3_other (sh3_store (a' := 0) (b' := 0) (s' := .slice none 0 0) HC3.out.r4) (k := w.heap.size + 1 + 1) (i := 0) (v := .int .i64 0) (by omega)) (k := w.heap.size + 1 + 1) (i := 1) (v := .int .i64 0) (by omega)) (k := w.heap.size + 1 + 1) (i := 2) (v := .slice none 0 0) (by omega))
        have HSB := Frame.hid (sh3_store (a' := 0) (b' := 0) (s' := .slice none 0 0) (show Sh3 _ (w.heap.size + 1 + 1) 0 0 (.slice none 0 0) from sh3_other (sh3_other (sh3_other HC3.out.r5 (k := w.heap.size + 1) (i := 0) (v := .int .i64 0) (by omega)) (k := w.heap.size + 1) (i := 1) (v := .int .i64 0) (by omega)) (k := w.heap.size + 1) (i := 2) (v := .slice none 0 0) (by omega)))
        have HBF := Frame.hid (Below.setCell (Below.setCell (Below.setCell (Below.setCell (Below.setCell (Below.setCell HC3.out.bel (p := ⟨w.heap.size + 1, 0, none⟩) (by simp) (.int .i64 0)) (p := ⟨w.heap.size + 1, 1, none⟩) (by simp) (.int .i64 0)) (p := ⟨w.heap.size + 1, 2, none⟩) (by simp) (.slice none 0 0)) (p := ⟨w.heap.size + 1 + 1, 0, none⟩) (by simp; omega) (.int .i64 0)) (p := ⟨w.heap.size + 1 + 1, 1, none⟩) (by simp; omega) (.int .i64 0)) (p := ⟨w.heap.size + 1 + 1, 2, none⟩) (by simp; omega) (.slice none 0 0))
        show LeavesInM _ _ _ _ _ _ _ _ _
        refine leaves_marks (by simp) (marks_set (marks_set (marks_set (marks_set (marks_set (marks_set HM3.out _ _ _) _ _ _) _ _ _) _ _ _) _ _ _) _ _ _) ?_
        intro W' hk
        obtain ⟨r0, r1, r2, -⟩ := sh3_keptC HSA.out hk
        obtain ⟨s0, s1, s2, -⟩ := sh3_keptC HSB.out hk
        refine ⟨.tuple #[.agg #[.int .i64 0, .int .i64 0, .slice none 0 0], .agg #[.int .i64 0, .int .i64 0, .slice none 0 0], .bool false], ?_, .slice none 0 0, .slice none 0 0, zs1, zs2, HF.out, HT.out, .inr ⟨by rw [HVV.out, Bool.and_false], rfl⟩, HBF.out.trans hk.2⟩
        clear HSA HSB HBF hk
        simp [results, Try.f18, go_sem, r0, r1, r2, s0, s1, s2]
      · have HVV := Frame.hid hv2
        clear hv2
        gi_wp2_with fail
        have hlt := HC3.out.lt
        have HN : Hid (g7 ≠ w.heap.size + 1 ∧ g7 ≠ w.heap.size + 1 + 1 ∧ g8 ≠ w.heap.size + 1 ∧ g8 ≠ w.heap.size + 1 + 1 ∧ w.heap.size + 1 + 1 < g8) := ⟨by omega, by omega, by omega, by omega, by omega⟩
        clear hlt
        refine region_handI 3 (fun W => Sh3 W g7 p j (.slice A1 zs1.length k1) ∧ Sh3 W g8 p j (.slice A2 zs2.length k2)) (by kernel_rfl) ?_
        have hBd : Below w3.heap.size w3 w3.drew := (Below.refl _ _).drew
        have HCd := Frame.hid (HC3.out.below hBd)
        have HMd := Frame.hid (HM3.out.keep (W' := w3.drew) hBd.size (fun kk o _ hlt h _ => (hBd.block kk hlt).trans h))
        clear hBd
        generalize w3.drew = wd at HCd HMd ⊢
        have hS0 := And.intro HCd.out.f HCd.out.l
        refine' wpEndI_take (fun _ => trivial) 0 rfl (by kernel_rfl) hS0 (Or.inl ⟨by rfl, fun wq' hSq => _⟩) _
        rotate_left
        · (obtain ⟨⟨q0, q1, q2, -⟩, -⟩ := hSq; go_simp; (try with_reducible rfl))
        simp only [Act.put, List.setIfInBounds_toArray, List.set_cons_zero, List.set_cons_succ]
        refine' wpEndI_take (fun _ => trivial) 1 rfl (by kernel_rfl) hS0 (Or.inl ⟨by rfl, fun wq' hSq => _⟩) _
        rotate_left
        · (obtain ⟨-, ⟨q0, q1, q2, -⟩⟩ := hSq; go_simp; (try with_reducible rfl))
        simp only [Act.put, List.setIfInBounds_toArray, List.set_cons_zero, List.set_cons_succ]
        clear hS0
        have a0 := HCd.out.r4.c0
        have a1 := HCd.out.r4.c1
        have a2 := HCd.out.r4.c2
        have b0 : wd.cell? ⟨w.heap.size + 1 + 1, 0, none⟩ = some (.int .i64 0) := HCd.out.r5.c0
        have b1 : wd.cell? ⟨w.heap.size + 1 + 1, 1, none⟩ = some (.int .i64 0) := HCd.out.r5.c1
        have b2 : wd.cell? ⟨w.heap.size + 1 + 1, 2, none⟩ = some (.slice none 0 0) := HCd.out.r5.c2
        have fa0 := HCd.out.fz (w.heap.size + 1) 0 (by omega) (.inr (.inr (.inl rfl)))
        have fa1 := HCd.out.fz (w.heap.size + 1) 1 (by omega) (.inr (.inr (.inl rfl)))
        have fa2 := HCd.out.fz (w.heap.size + 1) 2 (by omega) (.inr (.inr (.inl rfl)))
        have fb0 : wd.frozen? ⟨w.heap.size + 1 + 1, 0, none⟩ = false := HCd.out.fz (w.heap.size + 2) 0 (by omega) (.inr (.inr (.inr rfl)))
        have fb1 : wd.frozen? ⟨w.heap.size + 1 + 1, 1, none⟩ = false := HCd.out.fz (w.heap.size + 2) 1 (by omega) (.inr (.inr (.inr rfl)))
        have fb2 : wd.frozen? ⟨w.heap.size + 1 + 1, 2, none⟩ = false := HCd.out.fz (w.heap.size + 2) 2 (by omega) (.inr (.inr (.inr rfl)))
        refine wpEndI_ready [2] (by kernel_rfl) rfl (AllI.cons rfl (fun K hK => ?_) AllI.nil)
        gi_wp2
        refine hK.out _ _ (.inr ⟨sh3_other (sh3_other (sh3_other HCd.out.f HN.out.1) HN.out.1) HN.out.1, sh3_other (sh3_other (sh3_other HCd.out.l HN.out.2.2.1) HN.out.2.2.1) HN.out.2.2.1⟩) ?_
        clear hK K
        (try simp only [Act.put, List.setIfInBounds_toArray, List.set_cons_zero, List.set_cons_succ])
        refine wpEndI_ready [3] (by kernel_rfl) rfl (AllI.cons rfl (fun K hK => ?_) AllI.nil)
        gi_wp2
        refine hK.out _ _ (by first | exact .inl rfl | exact .inl trivial) ?_
        clear hK K
        (try simp only [Act.put, List.setIfInBounds_toArray, List.set_cons_zero, List.set_cons_succ])
        refine wpEndI_ready [4] (by kernel_rfl) rfl (AllI.cons rfl (fun K hK => ?_) AllI.nil)
        gi_wp2
        refine hK.out _ _ (.inr ⟨sh3_other (sh3_other (sh3_other (sh3_other (sh3_other (sh3_other HCd.out.f HN.out.1) HN.out.1) HN.out.1) HN.out.2.1) HN.out.2.1) HN.out.2.1, sh3_other (sh3_other (sh3_other (sh3_other (sh3_other (sh3_other HCd.out.l HN.out.2.2.1) HN.out.2.2.1) HN.out.2.2.1) HN.out.2.2.2.1) HN.out.2.2.2.1) HN.out.2.2.2.1⟩) ?_
        clear hK K
        (try simp only [Act.put, List.setIfInBounds_toArray, List.set_cons_zero, List.set_cons_succ])
        refine wpEndI_done (by kernel_rfl) ?_
        clear a0 a1 a2 b0 b1 b2 fa0 fa1 fa2 fb0 fb1 fb2
        gi_wp2
        have HSA := Frame.hid (sh3_other (sh3_other (sh3_other (sh3_store (a' := p) (b' := j) (s' := .slice A1 zs1.length k1) HCd.out.r4) (k := w.heap.size + 1 + 1) (i := 0) (v := .int .i64 p) (by omega)) (k := w.heap.size + 1 + 1) (i := 1) (v := .int .i64 j) (by omega)) (k := w.heap.size + 1 + 1) (i := 2) (v := .slice A2 zs2.length k2) (by omega))
        have HSB := Frame.hid (sh3_store (a' := p) (b' := j) (s' := .slice A2 zs2.length k2) (show Sh3 _ (w.heap.size + 1 + 1) 0 0 (.slice none 0 0) from sh3_other (sh3_other (sh3_other HCd.out.r5 (k := w.heap.size + 1) (i := 0) (v := .int .i64 p) (by omega)) (k := w.heap.size + 1) (i := 1) (v := .int .i64 j) (by omega)) (k := w.heap.size + 1) (i := 2) (v := .slice A1 zs1.length k1) (by omega)))
        have HBF := Frame.hid (Below.setCell (Below.setCell (Below.setCell (Below.setCell (Below.setCell (Below.setCell HCd.out.bel (p := ⟨w.heap.size + 1, 0, none⟩) (by simp) (.int .i64 p)) (p := ⟨w.heap.size + 1, 1, none⟩) (by simp) (.int .i64 j)) (p := ⟨w.heap.size + 1, 2, none⟩) (by simp) (.slice A1 zs1.length k1)) (p := ⟨w.heap.size + 1 + 1, 0, none⟩) (by simp; omega) (.int .i64 p)) (p := ⟨w.heap.size + 1 + 1, 1, none⟩) (by simp; omega) (.int .i64 j)) (p := ⟨w.heap.size + 1 + 1, 2, none⟩) (by simp; omega) (.slice A2 zs2.length k2))
        have hlt4 : w.heap.size + 1 < g8 + 1 := by have := HN.out.2.2.2.2; omega
        have hlt5 : w.heap.size + 1 + 1 < g8 + 1 := by have := HN.out.2.2.2.2; omega
        have HO1 := Frame.hid ((((((HCd.out.o1.setO (i := 0) (u := .int .i64 p) hlt4).setO (i := 1) (u := .int .i64 j) hlt4).setO (i := 2) (u := .slice A1 zs1.length k1) hlt4).setO (i := 0) (u := .int .i64 p) hlt5).setO (i := 1) (u := .int .i64 j) hlt5).setO (i := 2) (u := .slice A2 zs2.length k2) hlt5)
        have HO2 := Frame.hid ((((((HCd.out.o2.setO (i := 0) (u := .int .i64 p) hlt4).setO (i := 1) (u := .int .i64 j) hlt4).setO (i := 2) (u := .slice A1 zs1.length k1) hlt4).setO (i := 0) (u := .int .i64 p) hlt5).setO (i := 1) (u := .int .i64 j) hlt5).setO (i := 2) (u := .slice A2 zs2.length k2) hlt5)
        show LeavesInM _ _ _ _ _ _ _ _ _
        refine leaves_marks (by simp) (marks_set (marks_set (marks_set (marks_set (marks_set (marks_set HMd.out _ _ _) _ _ _) _ _ _) _ _ _) _ _ _) _ _ _) ?_
        intro W' hk
        obtain ⟨r0, r1, r2, -⟩ := sh3_keptC HSA.out hk
        obtain ⟨s0, s1, s2, -⟩ := sh3_keptC HSB.out hk
        refine ⟨.tuple #[.agg #[.int .i64 p, .int .i64 j, .slice A1 zs1.length k1], .agg #[.int .i64 p, .int .i64 j, .slice A2 zs2.length k2], .bool true], ?_, .slice A1 zs1.length k1, .slice A2 zs2.length k2, zs1, zs2, HF.out, HT.out, .inl ⟨by rw [HV.out, HVV.out]; rfl, rfl, (HO1.out.keptC hk).mono' (by omega), (HO2.out.keptC hk).mono' (by omega), HCd.out.ap⟩, HBF.out.trans hk.2⟩
        clear HSA HSB HBF HO1 HO2 hk
        simp [results, Try.f18, go_sem, r0, r1, r2, s0, s1, s2]

end Go.Proofs.Ytnbgnaenlbphcaa
