/-
  The law of CutSheet, walked.
-/
import Derived.Test.YtnbgnaenlbphcaaEd
import Derived.Test.YtnbgnaenlbphcaaK7
namespace Go.Proofs.Ytnbgnaenlbphcaa
open Go.RowKit Fl Go.WideShapes Go.Deep
attribute [local go_sem] kstore_f kalloc_drewN kset_drewN hstore_i hstore_s

theorem OwS.keptE {W W' : World} {B n c : Nat} {A : Option Addr} {v : Value} (h : OwS W B (.slice A n c) n) (hne : v.ownBlock = none ∨ v.ownBlock ≠ (Value.slice A n c).ownBlock) (hF : ∀ k, k < W.heap.size → v.ownBlock ≠ some k → W'.heap[k]? = W.heap[k]?) : OwS W' B (.slice A n c) n := ⟨by
  rcases h.h with h1 | ⟨g, cap, cs, e, hg, hh, hs⟩
  · exact .inl h1
  · refine .inr ⟨g, cap, cs, e, hg, ?_, hs⟩
    rw [hF g (Array.getElem?_eq_some_iff.1 hh).1 (fun e' => by
      rcases hne with h0 | h0
      · rw [h0] at e'; cases e'
      · rw [e] at h0; exact h0 e')]
    exact hh⟩
theorem Marked.keptE {W W' : World} {B n : Nat} {v v' : Value} (h : Marked W B v n) (hne : v'.ownBlock = none ∨ v'.ownBlock ≠ v.ownBlock) (hF : ∀ k, k < W.heap.size → v'.ownBlock ≠ some k → W'.heap[k]? = W.heap[k]?) : Marked W' B v n := ⟨by
  rcases h.h with h1 | ⟨g, cap, rfl, hM⟩
  · exact .inl h1
  · refine .inr ⟨g, cap, rfl, ⟨?_, hM.b⟩⟩
    obtain ⟨cs, h1, h2, h3⟩ := hM.r
    refine ⟨cs, ?_, h2, h3⟩
    rw [hF g (Array.getElem?_eq_some_iff.1 h1).1 (fun e' => by
      rcases hne with h0 | h0
      · rw [h0] at e'; cases e'
      · exact h0 e')]
    exact h1⟩

set_option maxRecDepth 100000 in
set_option maxHeartbeats 8000000 in
theorem fnExactCutSheet_walk (a b : Int) (A : Option Addr) (xs : List (Nat × Nat × Nat)) (c : Nat) (hl : xs.length ≤ maxLen) (u : Nat) (w : World) (hr : RdS w A xs) : Calls Try.prog 3 #[.agg #[.int .i64 a, .int .i64 b, .slice A xs.length c], .float .f32 u] w fun e w' => e = .returned (.bool true) ∧ Below w.heap.size w w' := by
  obtain ⟨n, hxn⟩ : ∃ n, n = xs.length := ⟨_, rfl⟩
  rw [← hxn] at hl ⊢
  have hl' : n ≤ 9223372036854775807 := by unfold maxLen at hl; omega
  by_cases hbig : 1048576 < n
  · have hsz : ∀ W, Calls Try.prog 15 #[.agg #[.int .i64 a, .int .i64 b, .slice A n c], .int .i64 1048576] W fun e w' => e = .returned (.int .i64 (-1)) ∧ Below W.heap.size W w' := fun W => by have h := szSheet_calls a b A n c hl' W; rw [if_pos hbig] at h; exact h
    have HSZ := Frame.hid hsz
    clear hsz hxn hr
    go_enter Try.func3, Try.ntmps3
    go_wp2_with (go_at_call 15; refine (HSZ.out _).mono ?_; rintro e w' ⟨rfl, hB⟩)
    go_ret
    exact ⟨rfl, ((Below.refl _ _).alloc (Nat.le_refl _) _).trans (hB.mono (by simp))⟩
  · have hn : n ≤ 1048576 := by omega
    have hsz : ∀ W, Calls Try.prog 15 #[.agg #[.int .i64 a, .int .i64 b, .slice A n c], .int .i64 1048576] W fun e w' => e = .returned (.int .i64 (1048576 - (n : Int))) ∧ Below W.heap.size W w' := fun W => by have h := szSheet_calls a b A n c hl' W; rw [if_neg hbig] at h; exact h
    have hneg : ¬ ((1048576 : Int) - (n : Int) < 0) := by omega
    obtain ⟨K, a0, b0, N, Z1, Z2, hz1, hz2, hN, hcall⟩ := cutSheet_out a b xs u
    have HCI := Frame.hid (fun (W : World) (g : Nat) (h : RdS W (some ⟨g, 0, none⟩) xs) => (hcall (some ⟨g, 0, none⟩) n hxn hn W h).1)
    have HCS := Frame.hid (fun (W : World) (g : Nat) (h : RdS W (some ⟨g, 0, none⟩) xs) => (hcall (some ⟨g, 0, none⟩) n hxn hn W h).2)
    have HTW := Frame.hid (fun (W : World) (h : Below w.heap.size w W) => toSheetO_calls A xs c n hxn a b W hn (hr.below h))
    have HSZ := Frame.hid hsz
    have HX := Frame.hid hxn
    have HZ := Frame.hid (And.intro hz1 (And.intro hz2 hN))
    clear hsz hcall hz1 hz2 hN hxn hr hl hbig
    go_enter Try.func3, Try.ntmps3
    have hw0 : Below w.heap.size w (w.alloc (.cells #[.int .i64 a, .int .i64 b, .slice A n c] 24)) := (Below.refl _ _).alloc (Nat.le_refl _) _
    have hp0 : Sh3 (w.alloc (.cells #[.int .i64 a, .int .i64 b, .slice A n c] 24)) w.heap.size a b (.slice A n c) := Sh3.here _ _ _ _ _
    go_wp2_with fail
    (try go_at_call 15)
    refine (HSZ.out _).mono ?_
    rintro e w1 ⟨rfl, hB⟩
    have HP1 := Frame.hid (hp0.below hB)
    have HB1 := Frame.hid (hw0.trans (hB.mono hw0.size))
    clear hw0 hp0 hB
    have p0 := HP1.out.c0
    have p1 := HP1.out.c1
    have p2 := HP1.out.c2
    go_wp2_with fail
    (try go_at_call 17)
    refine (HTW.out _ HB1.out).mono ?_
    rintro e w2 ⟨gA, rfl, hRA, hB12, -, -⟩
    have HP2 := Frame.hid (HP1.out.below hB12)
    have HB2 := Frame.hid (HB1.out.trans (hB12.mono HB1.out.size))
    have HRA := Frame.hid hRA
    clear hRA hB12 p0 p1 p2 hneg
    go_wp2_with fail
    (try go_at_call 16)
    refine (HCS.out _ _ HRA.out).mono ?_
    rintro e w3 ⟨v1, v2, rfl, -, -, hO1, hO2, -, hB23⟩
    obtain ⟨A1, c1, rfl, hR1⟩ := OwnedS.rd hO1
    obtain ⟨A2, c2, rfl, hR2⟩ := OwnedS.rd hO2
    have HP3 := Frame.hid (HP2.out.below hB23)
    have HB3 := Frame.hid (HB2.out.trans (hB23.mono HB2.out.size))
    have HR1 := Frame.hid hR1
    have HR2 := Frame.hid hR2
    clear hO1 hO2 hR1 hR2 hB23 HRA
    have p0 := HP3.out.c0
    have p1 := HP3.out.c1
    have p2 := HP3.out.c2
    have hlt1 : w.heap.size < w3.heap.size := HP3.out.l
    have hne1 : w.heap.size ≠ w3.heap.size := by omega
    have hne2 : w.heap.size ≠ w3.heap.size + 1 := by omega
    go_wp2_with fail
    obtain ⟨g6, hg6⟩ : ∃ g, g = w3.heap.size := ⟨_, rfl⟩
    obtain ⟨g7, hg7⟩ : ∃ g, g = w3.heap.size + 1 := ⟨_, rfl⟩
    obtain ⟨w4, hw4⟩ : ∃ W, W = (w3.alloc (.cells #[.int .i64 a0, .int .i64 b0, .slice A1 Z1.length c1] 29)).alloc (.cells #[.int .i64 a0, .int .i64 b0, .slice A2 Z2.length c2] 29) := ⟨_, rfl⟩
    have hB34 : Below w3.heap.size w3 w4 := by rw [hw4]; exact ((Below.refl _ _).alloc (Nat.le_refl _) _).alloc (by simp) _
    have h6 : Sh3 w4 g6 a0 b0 (.slice A1 Z1.length c1) := by rw [hw4, hg6]; refine ⟨?_, ?_, ?_, by simp; omega⟩ <;> simp [go_sem]
    have h7 : Sh3 w4 g7 a0 b0 (.slice A2 Z2.length c2) := by rw [hw4, hg7]; refine ⟨?_, ?_, ?_, by simp⟩ <;> simp [go_sem]
    rw [← hg7, ← hg6, ← hw4]
    have HP4 := Frame.hid (HP3.out.below hB34)
    have HB4 := Frame.hid (HB3.out.trans (hB34.mono HB3.out.size))
    have HR14 := Frame.hid (HR1.out.below hB34)
    have HR24 := Frame.hid (HR2.out.below hB34)
    have H6 := Frame.hid h6
    have H7 := Frame.hid h7
    clear p0 p1 p2 hlt1 hne1 hne2 hg6 hg7 hw4 hB34 h6 h7 HR1 HR2
    refine (HTW.out _ HB4.out).mono ?_
    rintro e w5 ⟨gs, rfl, hRT, hB45, hgs, hOT⟩
    go_wp2_with fail
    obtain ⟨g9, hg9⟩ : ∃ g, g = w5.heap.size := ⟨_, rfl⟩
    obtain ⟨w6, hw6⟩ : ∃ W, W = w5.alloc (.cells #[.int .i64 a, .int .i64 b, .slice (some ⟨gs, 0, none⟩) n n] 29) := ⟨_, rfl⟩
    have hB56 : Below w5.heap.size w5 w6 := by rw [hw6]; exact (Below.refl _ _).alloc (Nat.le_refl _) _
    have h9 : Sh3 w6 g9 a b (.slice (some ⟨gs, 0, none⟩) n n) := by rw [hw6, hg9]; exact Sh3.here _ _ _ _ _
    have hgt : w4.heap.size ≤ g9 := by rw [hg9]; exact hB45.size
    have hga : Apart (some ⟨gs, 0, none⟩) g9 := hOT.apart' (Nat.le_of_eq hg9.symm)
    rw [← hg9, ← hw6]
    have hB46 : Below w4.heap.size w4 w6 := hB45.trans (hB56.mono hB45.size)
    have HB46 := Frame.hid hB46
    have HT := Frame.hid h9
    have HRT := Frame.hid (hRT.below hB56)
    have HOT := Frame.hid (hOT.below hB56)
    have HGS := Frame.hid (And.intro hgs (And.intro hgt hga))
    clear hg9 hw6 hB56 h9 hgt hga hRT hOT hB45 hgs hB46
    refine (HCI.out _ gs HRT.out).mono ?_
    rintro e w7 ⟨v1, v2, rfl, -, -, hO1, hO2, hap, hB67⟩
    obtain ⟨A3, c3, rfl, hR3⟩ := OwnedS.rd hO1
    obtain ⟨A4, c4, rfl, hR4⟩ := OwnedS.rd hO2
    have hB47 : Below w4.heap.size w4 w7 := HB46.out.trans (hB67.mono HB46.out.size)
    have HB47 := Frame.hid hB47
    have HB67 := Frame.hid hB67
    have h6 := H6.out.below hB47
    have q0 := h6.c0
    have q1 := h6.c1
    have q2 := h6.c2
    have hlt1 : g6 < w7.heap.size := h6.l
    have hne1 : g6 ≠ w7.heap.size := by omega
    have hne2 : g6 ≠ w7.heap.size + 1 := by omega
    have HR3 := Frame.hid hR3
    have HR4 := Frame.hid hR4
    have HO1 := Frame.hid (OwS.of hO1)
    have HO2 := Frame.hid (OwS.of hO2)
    have HAP := Frame.hid hap
    clear h6 hR3 hR4 hO1 hO2 hap hB67 hB47
    go_wp2_with fail
    obtain ⟨g10, hg10⟩ : ∃ g, g = w7.heap.size := ⟨_, rfl⟩
    obtain ⟨g11, hg11⟩ : ∃ g, g = w7.heap.size + 1 := ⟨_, rfl⟩
    obtain ⟨w8, hw8⟩ : ∃ W, W = (w7.alloc (.cells #[.int .i64 a0, .int .i64 b0, .slice A3 Z1.length c3] 29)).alloc (.cells #[.int .i64 a0, .int .i64 b0, .slice A4 Z2.length c4] 29) := ⟨_, rfl⟩
    have hB78 : Below w7.heap.size w7 w8 := by rw [hw8]; exact ((Below.refl _ _).alloc (Nat.le_refl _) _).alloc (by simp) _
    have h10 : Sh3 w8 g10 a0 b0 (.slice A3 Z1.length c3) := by rw [hw8, hg10]; refine ⟨?_, ?_, ?_, by simp; omega⟩ <;> simp [go_sem]
    have h11 : Sh3 w8 g11 a0 b0 (.slice A4 Z2.length c4) := by rw [hw8, hg11]; refine ⟨?_, ?_, ?_, by simp⟩ <;> simp [go_sem]
    have hap10 : Apart A3 g10 ∧ Apart A4 g10 := ⟨HO1.out.apart' (Nat.le_of_eq hg10.symm), HO2.out.apart' (Nat.le_of_eq hg10.symm)⟩
    have hap11 : Apart A3 g11 ∧ Apart A4 g11 := ⟨HO1.out.apart' (by omega), HO2.out.apart' (by omega)⟩
    have hgg : w6.heap.size ≤ g10 ∧ w6.heap.size ≤ g11 := by have := HB67.out.size; omega
    rw [← hg11, ← hg10, ← hw8]
    have HB48 := Frame.hid (HB47.out.trans (hB78.mono HB47.out.size))
    have HB68 := Frame.hid (HB67.out.trans (hB78.mono HB67.out.size))
    have HR38 := Frame.hid (HR3.out.below hB78)
    have HR48 := Frame.hid (HR4.out.below hB78)
    have HO18 := Frame.hid (HO1.out.below hB78)
    have HO28 := Frame.hid (HO2.out.below hB78)
    have H10 := Frame.hid h10
    have H11 := Frame.hid h11
    have HAG := Frame.hid (And.intro hap10 (And.intro hap11 hgg))
    clear q0 q1 q2 hlt1 hne1 hne2 hg10 hg11 hw8 hB78 h10 h11 hap10 hap11 hgg HR3 HR4 HO1 HO2
    refine (eqSheet_calls A3 A1 Z1 Z1 a0 b0 c3 c1 Z1.length rfl w8 (by have := HZ.out; omega) HR38.out (HR14.out.below HB48.out) (LS.refl _)).mono ?_
    rintro e w9 ⟨rfl, hB89⟩
    have HB89 := Frame.hid hB89
    have HB49 := Frame.hid (HB48.out.trans (hB89.mono HB48.out.size))
    have h11 := H11.out.below hB89
    have h7 := H7.out.below HB49.out
    have q0 := h11.c0
    have q1 := h11.c1
    have q2 := h11.c2
    have k0 := h7.c0
    have k1 := h7.c1
    have k2 := h7.c2
    clear hB89 h11 h7
    go_wp2_with fail
    refine (eqSheet_calls A4 A2 Z2 Z2 a0 b0 c4 c2 Z2.length rfl w9 (by have := HZ.out; omega) (HR48.out.below HB89.out) (HR24.out.below HB49.out) (LS.refl _)).mono ?_
    rintro e w10 ⟨rfl, hB⟩
    have hB810 : Below w8.heap.size w8 w10 := HB89.out.trans (hB.mono HB89.out.size)
    have HB810 := Frame.hid hB810
    have HB410 := Frame.hid (HB48.out.trans (hB810.mono HB48.out.size))
    have HB610 := Frame.hid (HB68.out.trans (hB810.mono HB68.out.size))
    clear q0 q1 q2 k0 k1 k2 hB hB810
    go_wp2_with fail
    have hST : SK (w10.heap.size) w10 [((⟨g9, 0, none⟩ : Addr), (.int .i64 a : Value)), ((⟨g9, 1, none⟩ : Addr), (.int .i64 b : Value)), ((⟨g9, 2, none⟩ : Addr), (.slice (some ⟨gs, 0, none⟩) n n : Value)), ((⟨w.heap.size, 0, none⟩ : Addr), (.int .i64 a : Value)), ((⟨w.heap.size, 1, none⟩ : Addr), (.int .i64 b : Value)), ((⟨w.heap.size, 2, none⟩ : Addr), (.slice A n c : Value))] w10 := by
      have hT := HT.out.below HB610.out
      have hP := HP4.out.below HB410.out
      exact SK.start (Nat.le_refl _) (by intro p hp; simp at hp; rcases hp with rfl | rfl | rfl | rfl | rfl | rfl <;> first | exact hT.c0 | exact hT.c1 | exact hT.c2 | exact hP.c0 | exact hP.c1 | exact hP.c2) (by have h1 := hT.l; have h2 := hP.l; intro p hp; simp at hp; rcases hp with rfl | rfl | rfl | rfl | rfl | rfl <;> (simp; omega))
    have HTS6 := Frame.hid (fun W (h : SK (w10.heap.size) w10 [((⟨g9, 0, none⟩ : Addr), (.int .i64 a : Value)), ((⟨g9, 1, none⟩ : Addr), (.int .i64 b : Value)), ((⟨g9, 2, none⟩ : Addr), (.slice (some ⟨gs, 0, none⟩) n n : Value)), ((⟨w.heap.size, 0, none⟩ : Addr), (.int .i64 a : Value)), ((⟨w.heap.size, 1, none⟩ : Addr), (.int .i64 b : Value)), ((⟨w.heap.size, 2, none⟩ : Addr), (.slice A n c : Value))] W) => HTW.out W (HB4.out.trans ((HB410.out.trans (h.m.mono HB410.out.size)).mono HB4.out.size)))
    have HRT6 := Frame.hid (HRT.out.below HB610.out)
    go_cut [60] (fun s60 wx => s60 = .bool false ∧ SK (w10.heap.size) w10 [((⟨g9, 0, none⟩ : Addr), (.int .i64 a : Value)), ((⟨g9, 1, none⟩ : Addr), (.int .i64 b : Value)), ((⟨g9, 2, none⟩ : Addr), (.slice (some ⟨gs, 0, none⟩) n n : Value)), ((⟨w.heap.size, 0, none⟩ : Addr), (.int .i64 a : Value)), ((⟨w.heap.size, 1, none⟩ : Addr), (.int .i64 b : Value)), ((⟨w.heap.size, 2, none⟩ : Addr), (.slice A n c : Value))] wx)
    case first =>
      go_region_held3 (fun W => W.cell? ⟨g9, 0, none⟩ = some (.int .i64 a) ∧ W.cell? ⟨g9, 1, none⟩ = some (.int .i64 b) ∧ W.cell? ⟨g9, 2, none⟩ = some (.slice (some ⟨gs, 0, none⟩) n n) ∧ W.cell? ⟨w.heap.size, 0, none⟩ = some (.int .i64 a) ∧ W.cell? ⟨w.heap.size, 1, none⟩ = some (.int .i64 b) ∧ W.cell? ⟨w.heap.size, 2, none⟩ = some (.slice A n c) ∧ w10.heap.size ≤ W.heap.size ∧ SK (w10.heap.size) w10 [((⟨g9, 0, none⟩ : Addr), (.int .i64 a : Value)), ((⟨g9, 1, none⟩ : Addr), (.int .i64 b : Value)), ((⟨g9, 2, none⟩ : Addr), (.slice (some ⟨gs, 0, none⟩) n n : Value)), ((⟨w.heap.size, 0, none⟩ : Addr), (.int .i64 a : Value)), ((⟨w.heap.size, 1, none⟩ : Addr), (.int .i64 b : Value)), ((⟨w.heap.size, 2, none⟩ : Addr), (.slice A n c : Value))] W) ((refine SK_all6 ?_; (repeat' first | with_reducible assumption | exact SK_of6 (by with_reducible assumption) | exact hST | apply SK.drew | apply SK.drewN | apply SK.alloc | (refine SK.call ?_ (by with_reducible assumption)) | (refine SK.set ?_ _ _ _ (by omega))))) (first | (go_at_call 17; refine (HTS6.out _ (by repeat' first | with_reducible assumption | exact SK_of6 (by with_reducible assumption) | exact hST | apply SK.drew | apply SK.drewN | apply SK.alloc)).mono ?_; rintro e w' ⟨gT, rfl, hRT, hB, hgT, hOT⟩; have hge := SK.ge (n := w10.heap.size) (wc := w10) (L := [((⟨g9, 0, none⟩ : Addr), (.int .i64 a : Value)), ((⟨g9, 1, none⟩ : Addr), (.int .i64 b : Value)), ((⟨g9, 2, none⟩ : Addr), (.slice (some ⟨gs, 0, none⟩) n n : Value)), ((⟨w.heap.size, 0, none⟩ : Addr), (.int .i64 a : Value)), ((⟨w.heap.size, 1, none⟩ : Addr), (.int .i64 b : Value)), ((⟨w.heap.size, 2, none⟩ : Addr), (.slice A n c : Value))]) (by repeat' first | with_reducible assumption | exact SK_of6 (by with_reducible assumption) | exact hST | apply SK.drew | apply SK.drewN | apply SK.alloc) hB; (try (first | with_reducible have hNN := NewH.bornD hB | with_reducible have hNN := NewH.born hB | with_reducible have hNN := NewH.go (by with_reducible assumption) hB)); (try (have hN := hNN.1; have hgl := hNN.2; have hF := hN.f; have hC0 := hN.c0; have hC1 := hN.c1; have hC2 := hN.c2))) | (go_at_call 19; refine (eqSheet_calls (some ⟨gs, 0, none⟩) (some ⟨gT, 0, none⟩) xs xs a b n n n HX.out _ hn (by repeat' first | with_reducible assumption | exact HRT6.out | apply RdS.drew' | apply RdS.drewN' | apply RdS.alloc' | (refine RdS.call ?_ (by with_reducible assumption))) (by repeat' first | with_reducible assumption | exact HRT6.out | apply RdS.drew' | apply RdS.drewN' | apply RdS.alloc' | (refine RdS.call ?_ (by with_reducible assumption))) (LS.refl _)).mono ?_; rintro e w' ⟨rfl, hB⟩; have hge := SK.ge (n := w10.heap.size) (wc := w10) (L := [((⟨g9, 0, none⟩ : Addr), (.int .i64 a : Value)), ((⟨g9, 1, none⟩ : Addr), (.int .i64 b : Value)), ((⟨g9, 2, none⟩ : Addr), (.slice (some ⟨gs, 0, none⟩) n n : Value)), ((⟨w.heap.size, 0, none⟩ : Addr), (.int .i64 a : Value)), ((⟨w.heap.size, 1, none⟩ : Addr), (.int .i64 b : Value)), ((⟨w.heap.size, 2, none⟩ : Addr), (.slice A n c : Value))]) (by repeat' first | with_reducible assumption | exact SK_of6 (by with_reducible assumption) | exact hST | apply SK.drew | apply SK.drewN | apply SK.alloc) hB))
      all_goals
        have hSK : SK (w10.heap.size) w10 [((⟨g9, 0, none⟩ : Addr), (.int .i64 a : Value)), ((⟨g9, 1, none⟩ : Addr), (.int .i64 b : Value)), ((⟨g9, 2, none⟩ : Addr), (.slice (some ⟨gs, 0, none⟩) n n : Value)), ((⟨w.heap.size, 0, none⟩ : Addr), (.int .i64 a : Value)), ((⟨w.heap.size, 1, none⟩ : Addr), (.int .i64 b : Value)), ((⟨w.heap.size, 2, none⟩ : Addr), (.slice A n c : Value))] _ := SK_of6 (by with_reducible assumption)
        go_wp2_with fail
        go_meet
        exact ⟨rfl, hSK⟩
    case rest =>
      obtain ⟨rfl, hSK3⟩ := hcut
      obtain ⟨w11, hw11⟩ : ∃ W, W = wc := ⟨_, rfl⟩
      subst hw11
      have HB411 := Frame.hid (HB410.out.trans (hSK3.m.mono HB410.out.size))
      have HB611 := Frame.hid (HB610.out.trans (hSK3.m.mono HB610.out.size))
      have HB811 := Frame.hid (HB810.out.trans (hSK3.m.mono HB810.out.size))
      have hT := HT.out.below HB611.out
      have q0 := hT.c0
      have q1 := hT.c1
      have q2 := hT.c2
      clear hT hSK3 hST
      go_wp2_with fail
      have hgs6 : gs < w6.heap.size := by
        obtain ⟨b', of', e', hb', -⟩ | h0 := (Nat.eq_zero_or_pos xs.length).symm.imp (fun h => HRT.out.h h) id
        · injection e' with e'
          injection e' with e1 e2
          subst e1
          exact hb'
        · rcases HOT.out.h with ⟨h1, _⟩ | ⟨g', cap', cs, hv, _, hh, _⟩
          · cases h1
          · injection hv with hv _ _
            injection hv with hv
            injection hv with hv
            rw [hv]
            exact (Array.getElem?_eq_some_iff.1 hh).1
      have hq1 : ¬ ((1 : Int) + 3 * (n : Int) < 0) := by omega
      have hq2 : ¬ ((1 : Int) + 3 * (Z1.length : Int) < 0) := by omega
      have hq3 : ¬ ((1 : Int) + 3 * (Z1.length : Int) + 3 * (Z2.length : Int) < 0) := by omega
      refine (markSheetW_calls w4.heap.size n a b (.slice (some ⟨gs, 0, none⟩) n n) hn w11 (HOT.out.below HB611.out) HB411.out.size).mono ?_
      rintro e w12 ⟨rfl, -, hB12, hF12⟩
      have hF : ∀ k, k < w11.heap.size → k ≠ gs → w12.heap[k]? = w11.heap[k]? := fun k hk hne => hF12 k hk (by intro e; injection e with e; exact hne e.symm)
      have HB412 := Frame.hid (HB411.out.trans hB12)
      have hs1 : w11.heap.size ≤ w12.heap.size := hB12.size
      have HR3b := Frame.hid ((HR38.out.below HB811.out).other (HO18.out.apart hgs6) hF hs1)
      have HR4b := Frame.hid ((HR48.out.below HB811.out).other (HO28.out.apart hgs6) hF hs1)
      have HO1b := Frame.hid ((HO18.out.below HB811.out).other (HO18.out.apart hgs6) hF)
      have HO2b := Frame.hid ((HO28.out.below HB811.out).other (HO28.out.apart hgs6) hF)
      have H10b := Frame.hid ((H10.out.below HB811.out).same (hF g10 (H10.out.below HB811.out).l (by have := HAG.out.2.2.1; omega)))
      have H11b := Frame.hid ((H11.out.below HB811.out).same (hF g11 (H11.out.below HB811.out).l (by have := HAG.out.2.2.2; omega)))
      have HS6 : Hid (w6.heap.size ≤ w12.heap.size) := Nat.le_trans HB611.out.size hs1
      clear hF hF12 hB12 hs1 q0 q1 q2
      have h6 := H6.out.below HB412.out
      have q0 := H10b.out.c0
      have q1 := H10b.out.c1
      have q2 := H10b.out.c2
      have k0 := h6.c0
      have k1 := h6.c1
      have k2 := h6.c2
      clear h6
      go_wp2_with fail
      refine (eqSheet_calls A3 A1 Z1 Z1 a0 b0 c3 c1 Z1.length rfl w12 (by have := HZ.out; omega) HR3b.out (HR14.out.below HB412.out) (LS.refl _)).mono ?_
      rintro e w13 ⟨rfl, hB⟩
      have HB1213 := Frame.hid hB
      have HB413 := Frame.hid (HB412.out.trans (hB.mono HB412.out.size))
      clear q0 q1 q2 k0 k1 k2 hB
      have h11 := H11b.out.below HB1213.out
      have h7 := H7.out.below HB413.out
      have q0 := h11.c0
      have q1 := h11.c1
      have q2 := h11.c2
      have k0 := h7.c0
      have k1 := h7.c1
      have k2 := h7.c2
      clear h11 h7
      go_wp2_with fail
      refine (eqSheet_calls A4 A2 Z2 Z2 a0 b0 c4 c2 Z2.length rfl w13 (by have := HZ.out; omega) (HR4b.out.below HB1213.out) (HR24.out.below HB413.out) (LS.refl _)).mono ?_
      rintro e w14 ⟨rfl, hB⟩
      have hB1214 : Below w12.heap.size w12 w14 := HB1213.out.trans (hB.mono HB1213.out.size)
      have HB414 := Frame.hid (HB413.out.trans (hB.mono HB413.out.size))
      have HO1c := Frame.hid (HO1b.out.below hB1214)
      have HO2c := Frame.hid (HO2b.out.below hB1214)
      have H10c := Frame.hid (H10b.out.below hB1214)
      have H11c := Frame.hid (H11b.out.below hB1214)
      have HS14 : Hid (w6.heap.size ≤ w14.heap.size) := Nat.le_trans HS6.out hB1214.size
      clear q0 q1 q2 k0 k1 k2 hB hB1214
      have q0 := H10c.out.c0
      have q1 := H10c.out.c1
      have q2 := H10c.out.c2
      go_wp2_with fail
      refine (markSheet_calls w6.heap.size Z1.length a0 b0 (.slice A3 Z1.length c3) (by have := HZ.out; omega) w14 HO1c.out HS14.out).mono ?_
      rintro e w15 ⟨rfl, hM, hB15, hF15⟩
      have HM15 := Frame.hid hM
      have HB415 := Frame.hid (HB414.out.trans (hB15.mono HB46.out.size))
      have HO2d := Frame.hid (HO2c.out.keptE HAP.out hF15)
      have H10d := Frame.hid (H10c.out.same (hF15 g10 H10c.out.l HAG.out.1.1.own))
      have H11d := Frame.hid (H11c.out.same (hF15 g11 H11c.out.l HAG.out.2.1.1.own))
      have HS15 : Hid (w6.heap.size ≤ w15.heap.size) := Nat.le_trans HS14.out hB15.size
      clear q0 q1 q2 hM hB15 hF15
      have q0 := H11d.out.c0
      have q1 := H11d.out.c1
      have q2 := H11d.out.c2
      have HMZ := Frame.hid (markSheet_callsZ w6.heap.size Z2.length a0 b0 (.slice A4 Z2.length c4) (by have := HZ.out; omega) (3 * Z1.length) (by have := HZ.out; omega) w15 HO2d.out HS15.out)
      go_wp2_with fail
      have hz := HMZ.out
      rw [show (1 : Int) + ((3 * Z1.length : Nat) : Int) = 1 + 3 * (Z1.length : Int) by push_cast; rfl] at hz
      refine hz.mono ?_
      rintro e w16 ⟨rfl, hM, hB16, hF16⟩
      have hap' : (Value.slice A4 Z2.length c4).ownBlock = none ∨ (Value.slice A4 Z2.length c4).ownBlock ≠ (Value.slice A3 Z1.length c3).ownBlock := by
        rcases HAP.out with h | h
        · cases h4 : (Value.slice A4 Z2.length c4).ownBlock
          · exact .inl rfl
          · right; rw [h]; simp
        · exact .inr fun e => h e.symm
      have HM1 := Frame.hid (HM15.out.keptE hap' hF16)
      have HM2 := Frame.hid hM
      have HB416 := Frame.hid (HB415.out.trans (hB16.mono HB46.out.size))
      have H10e := Frame.hid (H10d.out.same (hF16 g10 H10d.out.l HAG.out.1.2.own))
      have H11e := Frame.hid (H11d.out.same (hF16 g11 H11d.out.l HAG.out.2.1.2.own))
      clear q0 q1 q2 hM hB16 hF16 hap' hz
      have q0 := H10e.out.c0
      have q1 := H10e.out.c1
      have q2 := H10e.out.c2
      go_wp2_with fail
      refine (heldSheet_calls w6.heap.size Z1.length a0 b0 (.slice A3 Z1.length c3) (by have := HZ.out; omega) w16 HM1.out).mono ?_
      rintro e w17 ⟨rfl, hB17⟩
      have HB1617 := Frame.hid hB17
      have h11 := H11e.out.below hB17
      clear q0 q1 q2 hB17
      have q0 := h11.c0
      have q1 := h11.c1
      have q2 := h11.c2
      clear h11
      have HHZ := Frame.hid (heldSheet_callsZ w6.heap.size Z2.length a0 b0 (.slice A4 Z2.length c4) (by have := HZ.out; omega) (3 * Z1.length) (by have := HZ.out; omega) w17 (HM2.out.below HB1617.out))
      go_wp2_with fail
      have hz := HHZ.out
      rw [show (1 : Int) + ((3 * Z1.length : Nat) : Int) = 1 + 3 * (Z1.length : Int) by push_cast; rfl] at hz
      refine hz.mono ?_
      rintro e w18 ⟨rfl, hB18⟩
      have HB1618 := Frame.hid (HB1617.out.trans (hB18.mono HB1617.out.size))
      have HB418 := Frame.hid (HB416.out.trans (HB1618.out.mono HB416.out.size))
      clear q0 q1 q2 hB18 hz
      have hp := HP4.out.below HB418.out
      have q0 := hp.c0
      have q1 := hp.c1
      have q2 := hp.c2
      clear hp
      go_wp2_with fail
      refine (HTW.out _ (HB4.out.trans (HB418.out.mono HB4.out.size))).mono ?_
      rintro e w19 ⟨gT, rfl, hRT, hB19, -, -⟩
      have HB419 := Frame.hid (HB418.out.trans (hB19.mono HB418.out.size))
      have HB1619 := Frame.hid (HB1618.out.trans (hB19.mono HB1618.out.size))
      have HRT2 := Frame.hid hRT
      clear q0 q1 q2 hRT hB19
      go_wp2_with fail
      refine (HCI.out _ gT HRT2.out).mono ?_
      rintro e w20 ⟨v1, v2, rfl, -, -, hO1, hO2, -, hB20⟩
      obtain ⟨A5, c5, rfl, hR5⟩ := OwnedS.rd hO1
      obtain ⟨A6, c6, rfl, hR6⟩ := OwnedS.rd hO2
      have HB420 := Frame.hid (HB419.out.trans (hB20.mono HB419.out.size))
      have HB1620 := Frame.hid (HB1619.out.trans (hB20.mono HB1619.out.size))
      have h6 := H6.out.below HB420.out
      have q0 := h6.c0
      have q1 := h6.c1
      have q2 := h6.c2
      have hlt1 : g6 < w20.heap.size := h6.l
      have hne1 : g6 ≠ w20.heap.size := by omega
      have hne2 : g6 ≠ w20.heap.size + 1 := by omega
      have HR5 := Frame.hid hR5
      have HR6 := Frame.hid hR6
      clear h6 hR5 hR6 hO1 hO2 hB20
      go_wp2_with fail
      obtain ⟨g16, hg16⟩ : ∃ g, g = w20.heap.size := ⟨_, rfl⟩
      obtain ⟨g17, hg17⟩ : ∃ g, g = w20.heap.size + 1 := ⟨_, rfl⟩
      obtain ⟨w21, hw21⟩ : ∃ W, W = (w20.alloc (.cells #[.int .i64 a0, .int .i64 b0, .slice A5 Z1.length c5] 29)).alloc (.cells #[.int .i64 a0, .int .i64 b0, .slice A6 Z2.length c6] 29) := ⟨_, rfl⟩
      have hB2021 : Below w20.heap.size w20 w21 := by rw [hw21]; exact ((Below.refl _ _).alloc (Nat.le_refl _) _).alloc (by simp) _
      have h17 : Sh3 w21 g17 a0 b0 (.slice A6 Z2.length c6) := by rw [hw21, hg17]; refine ⟨?_, ?_, ?_, by simp⟩ <;> simp [go_sem]
      rw [← hg17, ← hg16, ← hw21]
      have HB421 := Frame.hid (HB420.out.trans (hB2021.mono HB420.out.size))
      have HB1621 := Frame.hid (HB1620.out.trans (hB2021.mono HB1620.out.size))
      have HR51 := Frame.hid (HR5.out.below hB2021)
      have HR61 := Frame.hid (HR6.out.below hB2021)
      have H17 := Frame.hid h17
      clear q0 q1 q2 hlt1 hne1 hne2 hg16 hg17 hw21 hB2021 h17
      refine (eqSheet_calls A5 A1 Z1 Z1 a0 b0 c5 c1 Z1.length rfl w21 (by have := HZ.out; omega) HR51.out (HR14.out.below HB421.out) (LS.refl _)).mono ?_
      rintro e w22 ⟨rfl, hB22⟩
      have HB2122 := Frame.hid hB22
      have HB422 := Frame.hid (HB421.out.trans (hB22.mono HB421.out.size))
      have HB1622 := Frame.hid (HB1621.out.trans (hB22.mono HB1621.out.size))
      have h17 := H17.out.below hB22
      have h7 := H7.out.below HB422.out
      have q0 := h17.c0
      have q1 := h17.c1
      have q2 := h17.c2
      have k0 := h7.c0
      have k1 := h7.c1
      have k2 := h7.c2
      clear hB22 h17 h7
      go_wp2_with fail
      refine (eqSheet_calls A6 A2 Z2 Z2 a0 b0 c6 c2 Z2.length rfl w22 (by have := HZ.out; omega) (HR61.out.below HB2122.out) (HR24.out.below HB422.out) (LS.refl _)).mono ?_
      rintro e w23 ⟨rfl, hB23⟩
      have HB423 := Frame.hid (HB422.out.trans (hB23.mono HB422.out.size))
      have HB1623 := Frame.hid (HB1622.out.trans (hB23.mono HB1622.out.size))
      clear q0 q1 q2 k0 k1 k2 hB23
      have h10 := H10e.out.below HB1623.out
      have q0 := h10.c0
      have q1 := h10.c1
      have q2 := h10.c2
      clear h10
      go_wp2_with fail
      refine (heldSheet_calls w6.heap.size Z1.length a0 b0 (.slice A3 Z1.length c3) (by have := HZ.out; omega) w23 (HM1.out.below HB1623.out)).mono ?_
      rintro e w24 ⟨rfl, hB24⟩
      have HB1624 := Frame.hid (HB1623.out.trans (hB24.mono HB1623.out.size))
      have HB424 := Frame.hid (HB423.out.trans (hB24.mono HB423.out.size))
      have h11 := H11e.out.below HB1624.out
      clear q0 q1 q2 hB24
      have q0 := h11.c0
      have q1 := h11.c1
      have q2 := h11.c2
      clear h11
      have HHZ2 := Frame.hid (heldSheet_callsZ w6.heap.size Z2.length a0 b0 (.slice A4 Z2.length c4) (by have := HZ.out; omega) (3 * Z1.length) (by have := HZ.out; omega) w24 (HM2.out.below HB1624.out))
      go_wp2_with fail
      have hz := HHZ2.out
      rw [show (1 : Int) + ((3 * Z1.length : Nat) : Int) = 1 + 3 * (Z1.length : Int) by push_cast; rfl] at hz
      refine hz.mono ?_
      rintro e w25 ⟨rfl, hB25⟩
      have HEND := Frame.hid (HB4.out.trans ((HB424.out.trans (hB25.mono HB424.out.size)).mono HB4.out.size))
      clear q0 q1 q2 hB25 hz
      go_wp2_with fail
      go_ret
      exact ⟨rfl, HEND.out⟩

end Go.Proofs.Ytnbgnaenlbphcaa
