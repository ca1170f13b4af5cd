/-
  The law of MoveSpot, walked.
-/
import Derived.Test.YtbikiihcbocojaaK6
namespace Go.Proofs.Ytbikiihcbocojaa
open Go.RowKit Fl Go.WideShapes Go.Deep
attribute [local go_sem] kstore_f kalloc_drewN kset_drewN hstore_i hstore_s

theorem RdS.call {W w' : World} {A : Option Addr} {xs : List (Nat × Nat × Nat)} (h : RdS W A xs) (hB : Below W.heap.size W w') : RdS w' A xs := h.below hB
theorem RdS.alloc' {W : World} {A : Option Addr} {xs : List (Nat × Nat × Nat)} (h : RdS W A xs) (o : Obj) : RdS (W.alloc o) A xs := h.below ((Below.refl _ _).alloc (Nat.le_refl _) o)
theorem RdS.drewN' {W : World} {A : Option Addr} {xs : List (Nat × Nat × Nat)} (h : RdS W A xs) (k : Nat) : RdS (W.drewN k) A xs := h.below (below_drewN (Below.refl _ _) k)
theorem RdS.drew' {W : World} {A : Option Addr} {xs : List (Nat × Nat × Nat)} (h : RdS W A xs) : RdS W.drew A xs := h.below (Below.refl _ _).drew

set_option maxRecDepth 100000 in
set_option maxHeartbeats 8000000 in
theorem fnExactMoveSpot_walk (a b : Int) (A : Option Addr) (xs : List (Nat × Nat × Nat)) (c : Nat) (hl : xs.length ≤ maxLen) (i : Int) (x y z : Nat) (w : World) (hr : RdS w A xs) : Calls Try.prog 3 #[.agg #[.int .i64 a, .int .i64 b, .slice A xs.length c], .int .i64 i, .agg #[.float .f32 x, .float .f32 y, .float .f32 z]] w fun e w' => e = .returned (.bool true) ∧ Below w.heap.size w w' := by
  obtain ⟨n, hxn⟩ : ∃ n, n = xs.length := ⟨_, rfl⟩
  rw [← hxn] at hl ⊢
  have hl' : n ≤ 9223372036854775807 := by unfold maxLen at hl; omega
  by_cases hbig : 1048576 < n
  · have hsz : ∀ W, Calls Try.prog 15 #[.agg #[.int .i64 a, .int .i64 b, .slice A n c], .int .i64 1048576] W fun e w' => e = .returned (.int .i64 (-1)) ∧ Below W.heap.size W w' := fun W => by have h := szSheet_calls a b A n c hl' W; rw [if_pos hbig] at h; exact h
    have HSZ := Frame.hid hsz
    clear hsz hxn hr
    go_enter Try.func3, Try.ntmps3
    go_wp2_with (go_at_call 15; refine (HSZ.out _).mono ?_; rintro e w' ⟨rfl, hB⟩)
    go_ret
    exact ⟨rfl, (below_ch (below_al _ (below_al _ (below_st _))) hB rfl).2⟩
  · have hn : n ≤ 1048576 := by omega
    have hsz : ∀ W, Calls Try.prog 15 #[.agg #[.int .i64 a, .int .i64 b, .slice A n c], .int .i64 1048576] W fun e w' => e = .returned (.int .i64 (1048576 - (n : Int))) ∧ Below W.heap.size W w' := fun W => by have h := szSheet_calls a b A n c hl' W; rw [if_neg hbig] at h; exact h
    have hneg : ¬ ((1048576 : Int) - (n : Int) < 0) := by omega
    obtain ⟨K, hK⟩ : ∃ K, K = mvB a b xs i x y z := ⟨_, rfl⟩
    obtain ⟨a0, ha0⟩ : ∃ a0, a0 = outI K a := ⟨_, rfl⟩
    obtain ⟨b0, hb0⟩ : ∃ b0, b0 = outI K b := ⟨_, rfl⟩
    obtain ⟨Z, hZ⟩ : ∃ Z, Z = outL K (xs.set i.toNat (x, y, z)) := ⟨_, rfl⟩
    obtain ⟨N, hN⟩ : ∃ N, N = Z.length := ⟨_, rfl⟩
    have hN4 : N ≤ 36 := by
      rw [hN, hZ]
      cases hk : K
      · simp [outL]
      · have h1 : shB a b xs = true := by rw [hK] at hk; unfold mvB at hk; simp at hk; exact hk.1.1
        have := (shB_len h1).2
        simpa [outL] using this
    have hcs : ∀ W gT, RdS W (some ⟨gT, 0, none⟩) xs → Calls Try.prog 16 #[.agg #[.int .i64 a, .int .i64 b, .slice (some ⟨gT, 0, none⟩) n n], .int .i64 i, .agg #[.float .f32 x, .float .f32 y, .float .f32 z]] W (Out K a0 b0 N Z W) := fun W gT h => by have q := specMoveSpot_calls (some ⟨gT, 0, none⟩) xs n n hxn a b i x y z W hn h; rw [← hK, ← ha0, ← hb0, ← hZ, ← hN] at q; exact q
    have hci : ∀ W gT, RdS W (some ⟨gT, 0, none⟩) xs → Calls Try.prog 19 #[.agg #[.int .i64 a, .int .i64 b, .slice (some ⟨gT, 0, none⟩) n n], .int .i64 i, .agg #[.float .f32 x, .float .f32 y, .float .f32 z]] W (Out K a0 b0 N Z W) := fun W gT h => by have q := moveSpot_calls (some ⟨gT, 0, none⟩) xs n n hxn a b i x y z W hn h; rw [← hK, ← ha0, ← hb0, ← hZ, ← hN] at q; exact q
    have hts : ∀ W, Below w.heap.size w W → Calls Try.prog 17 #[.agg #[.int .i64 a, .int .i64 b, .slice A n c]] W fun e w' => ∃ g, e = .returned (.agg #[.int .i64 a, .int .i64 b, .slice (some ⟨g, 0, none⟩) n n]) ∧ RdS w' (some ⟨g, 0, none⟩) xs ∧ Below W.heap.size W w' ∧ W.heap.size ≤ g ∧ OwS w' W.heap.size (.slice (some ⟨g, 0, none⟩) n n) n := fun W h => toSheetO_calls A xs c n hxn a b W hn (hr.below h)
    have HSZ := Frame.hid hsz
    have HCS := Frame.hid hcs
    have HCI := Frame.hid hci
    have HTW := Frame.hid hts
    have HN := Frame.hid hN
    have HX := Frame.hid hxn
    clear hsz hcs hci hts hN hZ ha0 hb0 hK hxn hr hl hbig
    go_enter Try.func3, Try.ntmps3
    have HW0 := Frame.hid (by (apply bel_of; (repeat (first | apply below_dn | apply below_al)); exact below_st _) : Below w.heap.size w ((w.alloc (.cells #[.int .i64 a, .int .i64 b, .slice A n c] 24)).alloc (.cells #[.float .f32 x, .float .f32 y, .float .f32 z] 27)))
    go_wp2_with (go_at_call 15; refine (HSZ.out _).mono ?_; rintro e w1 ⟨rfl, hB⟩)
    have hBk := hB
    have hST : SK (w1.heap.size) w1 [((⟨w.heap.size, 0, none⟩ : Addr), (.int .i64 a : Value)), ((⟨w.heap.size, 1, none⟩ : Addr), (.int .i64 b : Value)), ((⟨w.heap.size, 2, none⟩ : Addr), (.slice A n c : Value)), ((⟨w.heap.size + 1, 0, none⟩ : Addr), (.float .f32 x : Value)), ((⟨w.heap.size + 1, 1, none⟩ : Addr), (.float .f32 y : Value)), ((⟨w.heap.size + 1, 2, none⟩ : Addr), (.float .f32 z : Value))] w1 := SK.start (Nat.le_refl _) (by have hc := rd_of hB; intro p hp; simp at hp; rcases hp with rfl | rfl | rfl | rfl | rfl | rfl <;> (rw [hc _ _ (by simp; try omega)]; simp [go_sem])) (by have hs := hB.size; intro p hp; simp at hp hs; rcases hp with rfl | rfl | rfl | rfl | rfl | rfl <;> (simp; omega))
    have hlw : w.heap.size + 1 < w1.heap.size := by have hs := hB.size; simp at hs; omega
    have HW1 := Frame.hid (HW0.out.trans (hB.mono HW0.out.size))
    clear hB hBk
    have HTS := Frame.hid (fun W (h : SK (w1.heap.size) w1 [((⟨w.heap.size, 0, none⟩ : Addr), (.int .i64 a : Value)), ((⟨w.heap.size, 1, none⟩ : Addr), (.int .i64 b : Value)), ((⟨w.heap.size, 2, none⟩ : Addr), (.slice A n c : Value)), ((⟨w.heap.size + 1, 0, none⟩ : Addr), (.float .f32 x : Value)), ((⟨w.heap.size + 1, 1, none⟩ : Addr), (.float .f32 y : Value)), ((⟨w.heap.size + 1, 2, none⟩ : Addr), (.float .f32 z : Value))] W) => HTW.out W (HW1.out.trans (h.m.mono HW1.out.size)))
    go_cut [8, 9] (fun s8 s9 wx => ∃ g A1 c1, s8 = .pointer (some ⟨g, 0, none⟩) ∧ s9 = .bool K ∧ RdS wx A1 Z ∧ SK (w1.heap.size) w1 [((⟨w.heap.size, 0, none⟩ : Addr), (.int .i64 a : Value)), ((⟨w.heap.size, 1, none⟩ : Addr), (.int .i64 b : Value)), ((⟨w.heap.size, 2, none⟩ : Addr), (.slice A n c : Value)), ((⟨w.heap.size + 1, 0, none⟩ : Addr), (.float .f32 x : Value)), ((⟨w.heap.size + 1, 1, none⟩ : Addr), (.float .f32 y : Value)), ((⟨w.heap.size + 1, 2, none⟩ : Addr), (.float .f32 z : Value))] wx ∧ Sh3 wx g a0 b0 (.slice A1 N c1) ∧ w1.heap.size ≤ g)
    case first =>
      go_region_held3 (fun W => W.cell? ⟨w.heap.size, 0, none⟩ = some (.int .i64 a) ∧ W.cell? ⟨w.heap.size, 1, none⟩ = some (.int .i64 b) ∧ W.cell? ⟨w.heap.size, 2, none⟩ = some (.slice A n c) ∧ W.cell? ⟨w.heap.size + 1, 0, none⟩ = some (.float .f32 x) ∧ W.cell? ⟨w.heap.size + 1, 1, none⟩ = some (.float .f32 y) ∧ W.cell? ⟨w.heap.size + 1, 2, none⟩ = some (.float .f32 z) ∧ w1.heap.size ≤ W.heap.size ∧ SK (w1.heap.size) w1 [((⟨w.heap.size, 0, none⟩ : Addr), (.int .i64 a : Value)), ((⟨w.heap.size, 1, none⟩ : Addr), (.int .i64 b : Value)), ((⟨w.heap.size, 2, none⟩ : Addr), (.slice A n c : Value)), ((⟨w.heap.size + 1, 0, none⟩ : Addr), (.float .f32 x : Value)), ((⟨w.heap.size + 1, 1, none⟩ : Addr), (.float .f32 y : Value)), ((⟨w.heap.size + 1, 2, none⟩ : Addr), (.float .f32 z : Value))] W) ((refine SK_all6 ?_; (repeat' first | with_reducible assumption | exact SK_of6 (by with_reducible assumption) | exact hST | apply SK.drew | apply SK.drewN | apply SK.alloc | (refine SK.call ?_ (by with_reducible assumption)) | (refine SK.set ?_ _ _ _ (by omega))))) (first | (go_at_call 17; refine (HTS.out _ (by repeat' first | with_reducible assumption | exact SK_of6 (by with_reducible assumption) | exact hST | apply SK.drew | apply SK.drewN | apply SK.alloc)).mono ?_; rintro e w' ⟨gT, rfl, hRT, hB, hgT, hOT⟩; have hge := SK.ge (n := w1.heap.size) (wc := w1) (L := [((⟨w.heap.size, 0, none⟩ : Addr), (.int .i64 a : Value)), ((⟨w.heap.size, 1, none⟩ : Addr), (.int .i64 b : Value)), ((⟨w.heap.size, 2, none⟩ : Addr), (.slice A n c : Value)), ((⟨w.heap.size + 1, 0, none⟩ : Addr), (.float .f32 x : Value)), ((⟨w.heap.size + 1, 1, none⟩ : Addr), (.float .f32 y : Value)), ((⟨w.heap.size + 1, 2, none⟩ : Addr), (.float .f32 z : Value))]) (by repeat' first | with_reducible assumption | exact SK_of6 (by with_reducible assumption) | exact hST | apply SK.drew | apply SK.drewN | apply SK.alloc) hB; (try (first | with_reducible have hNN := NewH.bornD hB | with_reducible have hNN := NewH.born hB | with_reducible have hNN := NewH.go (by with_reducible assumption) hB)); (try (have hN := hNN.1; have hgl := hNN.2; have hF := hN.f; have hC0 := hN.c0; have hC1 := hN.c1; have hC2 := hN.c2))) | (go_at_call 18; refine (toSpot_calls _ _ _ _).mono ?_; rintro e w' ⟨rfl, hB⟩; have hge := SK.ge (n := w1.heap.size) (wc := w1) (L := [((⟨w.heap.size, 0, none⟩ : Addr), (.int .i64 a : Value)), ((⟨w.heap.size, 1, none⟩ : Addr), (.int .i64 b : Value)), ((⟨w.heap.size, 2, none⟩ : Addr), (.slice A n c : Value)), ((⟨w.heap.size + 1, 0, none⟩ : Addr), (.float .f32 x : Value)), ((⟨w.heap.size + 1, 1, none⟩ : Addr), (.float .f32 y : Value)), ((⟨w.heap.size + 1, 2, none⟩ : Addr), (.float .f32 z : Value))]) (by repeat' first | with_reducible assumption | exact SK_of6 (by with_reducible assumption) | exact hST | apply SK.drew | apply SK.drewN | apply SK.alloc) hB; (try (first | with_reducible have hNN := NewH.bornD hB | with_reducible have hNN := NewH.born hB | with_reducible have hNN := NewH.go (by with_reducible assumption) hB)); (try (have hN := hNN.1; have hgl := hNN.2; have hF := hN.f; have hC0 := hN.c0; have hC1 := hN.c1; have hC2 := hN.c2))) | (go_at_call 16; refine (HCS.out _ _ (by repeat' first | with_reducible assumption | exact HRT.out | apply RdS.drew' | apply RdS.drewN' | apply RdS.alloc' | (refine RdS.call ?_ (by with_reducible assumption)))).mono ?_; rintro e w' ⟨A1, c1, rfl, hR1, hO1, hB⟩; have hge := SK.ge (n := w1.heap.size) (wc := w1) (L := [((⟨w.heap.size, 0, none⟩ : Addr), (.int .i64 a : Value)), ((⟨w.heap.size, 1, none⟩ : Addr), (.int .i64 b : Value)), ((⟨w.heap.size, 2, none⟩ : Addr), (.slice A n c : Value)), ((⟨w.heap.size + 1, 0, none⟩ : Addr), (.float .f32 x : Value)), ((⟨w.heap.size + 1, 1, none⟩ : Addr), (.float .f32 y : Value)), ((⟨w.heap.size + 1, 2, none⟩ : Addr), (.float .f32 z : Value))]) (by repeat' first | with_reducible assumption | exact SK_of6 (by with_reducible assumption) | exact hST | apply SK.drew | apply SK.drewN | apply SK.alloc) hB; (try (first | with_reducible have hNN := NewH.bornD hB | with_reducible have hNN := NewH.born hB | with_reducible have hNN := NewH.go (by with_reducible assumption) hB)); (try (have hN := hNN.1; have hgl := hNN.2; have hF := hN.f; have hC0 := hN.c0; have hC1 := hN.c1; have hC2 := hN.c2))))
      all_goals
        have hSK : SK (w1.heap.size) w1 [((⟨w.heap.size, 0, none⟩ : Addr), (.int .i64 a : Value)), ((⟨w.heap.size, 1, none⟩ : Addr), (.int .i64 b : Value)), ((⟨w.heap.size, 2, none⟩ : Addr), (.slice A n c : Value)), ((⟨w.heap.size + 1, 0, none⟩ : Addr), (.float .f32 x : Value)), ((⟨w.heap.size + 1, 1, none⟩ : Addr), (.float .f32 y : Value)), ((⟨w.heap.size + 1, 2, none⟩ : Addr), (.float .f32 z : Value))] _ := SK_of6 (by with_reducible assumption)
        go_wp2_with fail
        go_meet
        refine ⟨_, A1, c1, rfl, rfl, ?_, hSK, ?_, ?_⟩
        · first | exact hR1.below ((Below.refl _ _).alloc (Nat.le_refl _) _) | exact ((hR1.seta (hO1.apart hgl)).seta (hO1.apart hgl)).seta (hO1.apart hgl)
        · first | exact Sh3.here _ _ _ _ _ | exact hN.sh _ _ _
        · omega
    case rest =>
      obtain ⟨g, A1, c1, rfl, rfl, hR, hSK, hA, hg⟩ := hcut
      obtain ⟨w2, hw2⟩ : ∃ w2, w2 = wc := ⟨_, rfl⟩
      subst hw2
      have HR2 := Frame.hid hR
      have HG2 := Frame.hid hA
      have HB2 := Frame.hid (HW1.out.trans (hSK.m.mono HW1.out.size))
      have hlw2 : w.heap.size + 1 < w2.heap.size := Nat.lt_of_lt_of_le hlw hSK.s
      have HL2 := Frame.hid hSK.here
      clear hR hSK hA hST
      obtain ⟨p0, p1, p2, p3, p4, p5, -, -⟩ := SK_all6 HL2.out
      go_wp2_with (go_at_call 17; refine (HTW.out _ HB2.out).mono ?_; rintro e w3 ⟨gs, rfl, hRT, hB, hgT, hOT⟩)
      obtain ⟨w4, hw4⟩ : ∃ w4, w4 = w3.alloc (.cells #[.int .i64 a, .int .i64 b, .slice (some ⟨gs, 0, none⟩) n n] 31) := ⟨_, rfl⟩
      obtain ⟨gt, hgt⟩ : ∃ gt, gt = w3.heap.size := ⟨_, rfl⟩
      have hT4 : Sh3 w4 gt a b (.slice (some ⟨gs, 0, none⟩) n n) := by rw [hw4, hgt]; exact Sh3.here _ _ _ _ _
      have h34 : Below w3.heap.size w3 w4 := by rw [hw4]; exact (Below.refl _ _).alloc (Nat.le_refl _) _
      have HB24 := Frame.hid (hB.trans (h34.mono hB.size))
      have HRT := Frame.hid (hRT.below h34)
      have HOT := Frame.hid (hOT.below h34)
      have HAT := Frame.hid (hOT.apart' (Nat.le_of_eq hgt.symm))
      have hgt2 : w2.heap.size ≤ gt := by rw [hgt]; exact hB.size
      have hgs2 : w2.heap.size ≤ gs := hgT
      have hgs4 : gs < w4.heap.size := by
        rcases hOT.h with ⟨h1, _⟩ | ⟨g', cap', cs, hv, _, hh, _⟩
        · cases h1
        · injection hv with hv _ _
          injection hv with hv
          injection hv with hv
          rw [hv]
          exact Nat.lt_of_lt_of_le (Array.getElem?_eq_some_iff.1 hh).1 h34.size
      rw [← hw4, ← hgt]
      have HT4 := Frame.hid hT4
      clear hw4 hgt h34 hB hRT hOT hgT p0 p1 p2 p3 p4 p5
      have hST : SK (w4.heap.size) w4 [((⟨gt, 0, none⟩ : Addr), (.int .i64 a : Value)), ((⟨gt, 1, none⟩ : Addr), (.int .i64 b : Value)), ((⟨gt, 2, none⟩ : Addr), (.slice (some ⟨gs, 0, none⟩) n n : Value)), ((⟨w.heap.size + 1, 0, none⟩ : Addr), (.float .f32 x : Value)), ((⟨w.heap.size + 1, 1, none⟩ : Addr), (.float .f32 y : Value)), ((⟨w.heap.size + 1, 2, none⟩ : Addr), (.float .f32 z : Value))] w4 := by
        obtain ⟨-, -, -, p3, p4, p5, -, -⟩ := SK_all6 (HL2.out.call HB24.out)
        exact SK.start (Nat.le_refl _) (by intro p hp; simp at hp; rcases hp with rfl | rfl | rfl | rfl | rfl | rfl <;> first | exact hT4.c0 | exact hT4.c1 | exact hT4.c2 | exact p3 | exact p4 | exact p5) (by have hs := HB24.out.size; have hl := hT4.l; intro p hp; simp at hp; rcases hp with rfl | rfl | rfl | rfl | rfl | rfl <;> (simp; omega))
      clear hT4
      go_cut [11, 12] (fun s11 s12 wx => ∃ g' A' c', s11 = .pointer (some ⟨g', 0, none⟩) ∧ s12 = .bool K ∧ RdS wx A' Z ∧ OwS wx w4.heap.size (.slice A' N c') N ∧ Apart A' g' ∧ SK (w4.heap.size) w4 [((⟨gt, 0, none⟩ : Addr), (.int .i64 a : Value)), ((⟨gt, 1, none⟩ : Addr), (.int .i64 b : Value)), ((⟨gt, 2, none⟩ : Addr), (.slice (some ⟨gs, 0, none⟩) n n : Value)), ((⟨w.heap.size + 1, 0, none⟩ : Addr), (.float .f32 x : Value)), ((⟨w.heap.size + 1, 1, none⟩ : Addr), (.float .f32 y : Value)), ((⟨w.heap.size + 1, 2, none⟩ : Addr), (.float .f32 z : Value))] wx ∧ Sh3 wx g' a0 b0 (.slice A' N c') ∧ w4.heap.size ≤ g')
      case first =>
        go_region_held3 (fun W => W.cell? ⟨gt, 0, none⟩ = some (.int .i64 a) ∧ W.cell? ⟨gt, 1, none⟩ = some (.int .i64 b) ∧ W.cell? ⟨gt, 2, none⟩ = some (.slice (some ⟨gs, 0, none⟩) n n) ∧ W.cell? ⟨w.heap.size + 1, 0, none⟩ = some (.float .f32 x) ∧ W.cell? ⟨w.heap.size + 1, 1, none⟩ = some (.float .f32 y) ∧ W.cell? ⟨w.heap.size + 1, 2, none⟩ = some (.float .f32 z) ∧ w4.heap.size ≤ W.heap.size ∧ SK (w4.heap.size) w4 [((⟨gt, 0, none⟩ : Addr), (.int .i64 a : Value)), ((⟨gt, 1, none⟩ : Addr), (.int .i64 b : Value)), ((⟨gt, 2, none⟩ : Addr), (.slice (some ⟨gs, 0, none⟩) n n : Value)), ((⟨w.heap.size + 1, 0, none⟩ : Addr), (.float .f32 x : Value)), ((⟨w.heap.size + 1, 1, none⟩ : Addr), (.float .f32 y : Value)), ((⟨w.heap.size + 1, 2, none⟩ : Addr), (.float .f32 z : Value))] W) ((refine SK_all6 ?_; (repeat' first | with_reducible assumption | exact SK_of6 (by with_reducible assumption) | exact hST | apply SK.drew | apply SK.drewN | apply SK.alloc | (refine SK.call ?_ (by with_reducible assumption)) | (refine SK.set ?_ _ _ _ (by omega))))) (first | (go_at_call 18; refine (toSpot_calls _ _ _ _).mono ?_; rintro e w' ⟨rfl, hB⟩; have hge := SK.ge (n := w4.heap.size) (wc := w4) (L := [((⟨gt, 0, none⟩ : Addr), (.int .i64 a : Value)), ((⟨gt, 1, none⟩ : Addr), (.int .i64 b : Value)), ((⟨gt, 2, none⟩ : Addr), (.slice (some ⟨gs, 0, none⟩) n n : Value)), ((⟨w.heap.size + 1, 0, none⟩ : Addr), (.float .f32 x : Value)), ((⟨w.heap.size + 1, 1, none⟩ : Addr), (.float .f32 y : Value)), ((⟨w.heap.size + 1, 2, none⟩ : Addr), (.float .f32 z : Value))]) (by repeat' first | with_reducible assumption | exact SK_of6 (by with_reducible assumption) | exact hST | apply SK.drew | apply SK.drewN | apply SK.alloc) hB; (try (first | with_reducible have hNN := NewH.bornD hB | with_reducible have hNN := NewH.born hB | with_reducible have hNN := NewH.go (by with_reducible assumption) hB)); (try (have hN := hNN.1; have hgl := hNN.2; have hF := hN.f; have hC0 := hN.c0; have hC1 := hN.c1; have hC2 := hN.c2))) | (go_at_call 19; refine (HCI.out _ _ (by repeat' first | with_reducible assumption | exact HRT.out | apply RdS.drew' | apply RdS.drewN' | apply RdS.alloc' | (refine RdS.call ?_ (by with_reducible assumption)))).mono ?_; rintro e w' ⟨A1, c1, rfl, hR1, hO1, hB⟩; have hge := SK.ge (n := w4.heap.size) (wc := w4) (L := [((⟨gt, 0, none⟩ : Addr), (.int .i64 a : Value)), ((⟨gt, 1, none⟩ : Addr), (.int .i64 b : Value)), ((⟨gt, 2, none⟩ : Addr), (.slice (some ⟨gs, 0, none⟩) n n : Value)), ((⟨w.heap.size + 1, 0, none⟩ : Addr), (.float .f32 x : Value)), ((⟨w.heap.size + 1, 1, none⟩ : Addr), (.float .f32 y : Value)), ((⟨w.heap.size + 1, 2, none⟩ : Addr), (.float .f32 z : Value))]) (by repeat' first | with_reducible assumption | exact SK_of6 (by with_reducible assumption) | exact hST | apply SK.drew | apply SK.drewN | apply SK.alloc) hB; (try (first | with_reducible have hNN := NewH.bornD hB | with_reducible have hNN := NewH.born hB | with_reducible have hNN := NewH.go (by with_reducible assumption) hB)); (try (have hN := hNN.1; have hgl := hNN.2; have hF := hN.f; have hC0 := hN.c0; have hC1 := hN.c1; have hC2 := hN.c2))))
        all_goals
          have hSK : SK (w4.heap.size) w4 [((⟨gt, 0, none⟩ : Addr), (.int .i64 a : Value)), ((⟨gt, 1, none⟩ : Addr), (.int .i64 b : Value)), ((⟨gt, 2, none⟩ : Addr), (.slice (some ⟨gs, 0, none⟩) n n : Value)), ((⟨w.heap.size + 1, 0, none⟩ : Addr), (.float .f32 x : Value)), ((⟨w.heap.size + 1, 1, none⟩ : Addr), (.float .f32 y : Value)), ((⟨w.heap.size + 1, 2, none⟩ : Addr), (.float .f32 z : Value))] _ := SK_of6 (by with_reducible assumption)
          go_wp2_with fail
          go_meet
          refine ⟨_, A1, c1, rfl, rfl, ?_, ?_, ?_, hSK, ?_, ?_⟩
          · first | exact hR1.below ((Below.refl _ _).alloc (Nat.le_refl _) _) | exact ((hR1.seta (hO1.apart hgl)).seta (hO1.apart hgl)).seta (hO1.apart hgl)
          · first | exact (hO1.below ((Below.refl _ _).alloc (Nat.le_refl _) _)).mono (by (try simp); omega) | exact (((hO1.seta (hO1.apart hgl)).seta (hO1.apart hgl)).seta (hO1.apart hgl)).mono (by (try simp); omega)
          · first | exact hO1.apart' (Nat.le_refl _) | exact hO1.apart hgl
          · first | exact Sh3.here _ _ _ _ _ | exact hN.sh _ _ _
          · omega
      case rest =>
        obtain ⟨g', A', c', rfl, rfl, hR', hO', hAp, hSK2, hA', hg'⟩ := hcut
        obtain ⟨w5, hw5⟩ : ∃ w5, w5 = wc := ⟨_, rfl⟩
        subst hw5
        have HAp := Frame.hid hAp
        have HB45 := Frame.hid hSK2.m
        have HR5 := Frame.hid hR'
        have HO5 := Frame.hid hO'
        have HG5 := Frame.hid hA'
        have HB25 := Frame.hid (HB24.out.trans (hSK2.m.mono HB24.out.size))
        have HK5 := Frame.hid (HG2.out.below HB25.out)
        have hs45 : w4.heap.size ≤ w5.heap.size := hSK2.s
        have k0 := HK5.out.c0
        have k1 := HK5.out.c1
        have k2 := HK5.out.c2
        have j0 := HG5.out.c0
        have j1 := HG5.out.c1
        have j2 := HG5.out.c2
        clear hR' hO' hAp hSK2 hA' hST
        go_wp2_with fail
        refine (eqSheet_calls A' A1 Z Z a0 b0 c' c1 N HN.out w5 (by omega) HR5.out (HR2.out.below HB25.out) (LS.refl _)).mono ?_
        rintro e w6 ⟨rfl, hB6⟩
        have HB26 := Frame.hid (HB25.out.trans (hB6.mono HB25.out.size))
        have HB46 := Frame.hid (HB45.out.trans (hB6.mono hs45))
        have hs46 : w4.heap.size ≤ w6.heap.size := HB46.out.size
        have HR6 := Frame.hid (HR5.out.below hB6)
        have HO6 := Frame.hid (HO5.out.below hB6)
        have HG6 := Frame.hid (HG5.out.below hB6)
        have HRT6 := Frame.hid (HRT.out.below HB46.out)
        clear hB6 k0 k1 k2 j0 j1 j2
        have hST : SK (w6.heap.size) w6 [((⟨gt, 0, none⟩ : Addr), (.int .i64 a : Value)), ((⟨gt, 1, none⟩ : Addr), (.int .i64 b : Value)), ((⟨gt, 2, none⟩ : Addr), (.slice (some ⟨gs, 0, none⟩) n n : Value)), ((⟨w.heap.size, 0, none⟩ : Addr), (.int .i64 a : Value)), ((⟨w.heap.size, 1, none⟩ : Addr), (.int .i64 b : Value)), ((⟨w.heap.size, 2, none⟩ : Addr), (.slice A n c : Value))] w6 := by
          obtain ⟨p0, p1, p2, -, -, -, -, -⟩ := SK_all6 (HL2.out.call HB26.out)
          have hT6 := HT4.out.below HB46.out
          exact SK.start (Nat.le_refl _) (by intro p hp; simp at hp; rcases hp with rfl | rfl | rfl | rfl | rfl | rfl <;> first | exact hT6.c0 | exact hT6.c1 | exact hT6.c2 | exact p0 | exact p1 | exact p2) (by have hs := HB26.out.size; have hl := hT6.l; intro p hp; simp at hp; rcases hp with rfl | rfl | rfl | rfl | rfl | rfl <;> (simp; omega))
        have HTS6 := Frame.hid (fun W (h : SK (w6.heap.size) w6 [((⟨gt, 0, none⟩ : Addr), (.int .i64 a : Value)), ((⟨gt, 1, none⟩ : Addr), (.int .i64 b : Value)), ((⟨gt, 2, none⟩ : Addr), (.slice (some ⟨gs, 0, none⟩) n n : Value)), ((⟨w.heap.size, 0, none⟩ : Addr), (.int .i64 a : Value)), ((⟨w.heap.size, 1, none⟩ : Addr), (.int .i64 b : Value)), ((⟨w.heap.size, 2, none⟩ : Addr), (.slice A n c : Value))] W) => HTW.out W (HB2.out.trans ((HB26.out.trans (h.m.mono HB26.out.size)).mono HB2.out.size)))
        go_wp2_with fail
        go_cut [55] (fun s55 wx => s55 = .bool false ∧ SK (w6.heap.size) w6 [((⟨gt, 0, none⟩ : Addr), (.int .i64 a : Value)), ((⟨gt, 1, none⟩ : Addr), (.int .i64 b : Value)), ((⟨gt, 2, none⟩ : Addr), (.slice (some ⟨gs, 0, none⟩) n n : Value)), ((⟨w.heap.size, 0, none⟩ : Addr), (.int .i64 a : Value)), ((⟨w.heap.size, 1, none⟩ : Addr), (.int .i64 b : Value)), ((⟨w.heap.size, 2, none⟩ : Addr), (.slice A n c : Value))] wx)
        case first =>
          go_region_held3 (fun W => W.cell? ⟨gt, 0, none⟩ = some (.int .i64 a) ∧ W.cell? ⟨gt, 1, none⟩ = some (.int .i64 b) ∧ W.cell? ⟨gt, 2, none⟩ = some (.slice (some ⟨gs, 0, none⟩) n n) ∧ W.cell? ⟨w.heap.size, 0, none⟩ = some (.int .i64 a) ∧ W.cell? ⟨w.heap.size, 1, none⟩ = some (.int .i64 b) ∧ W.cell? ⟨w.heap.size, 2, none⟩ = some (.slice A n c) ∧ w6.heap.size ≤ W.heap.size ∧ SK (w6.heap.size) w6 [((⟨gt, 0, none⟩ : Addr), (.int .i64 a : Value)), ((⟨gt, 1, none⟩ : Addr), (.int .i64 b : Value)), ((⟨gt, 2, none⟩ : Addr), (.slice (some ⟨gs, 0, none⟩) n n : Value)), ((⟨w.heap.size, 0, none⟩ : Addr), (.int .i64 a : Value)), ((⟨w.heap.size, 1, none⟩ : Addr), (.int .i64 b : Value)), ((⟨w.heap.size, 2, none⟩ : Addr), (.slice A n c : Value))] W) ((refine SK_all6 ?_; (repeat' first | with_reducible assumption | exact SK_of6 (by with_reducible assumption) | exact hST | apply SK.drew | apply SK.drewN | apply SK.alloc | (refine SK.call ?_ (by with_reducible assumption)) | (refine SK.set ?_ _ _ _ (by omega))))) (first | (go_at_call 17; refine (HTS6.out _ (by repeat' first | with_reducible assumption | exact SK_of6 (by with_reducible assumption) | exact hST | apply SK.drew | apply SK.drewN | apply SK.alloc)).mono ?_; rintro e w' ⟨gT, rfl, hRT, hB, hgT, hOT⟩; have hge := SK.ge (n := w6.heap.size) (wc := w6) (L := [((⟨gt, 0, none⟩ : Addr), (.int .i64 a : Value)), ((⟨gt, 1, none⟩ : Addr), (.int .i64 b : Value)), ((⟨gt, 2, none⟩ : Addr), (.slice (some ⟨gs, 0, none⟩) n n : Value)), ((⟨w.heap.size, 0, none⟩ : Addr), (.int .i64 a : Value)), ((⟨w.heap.size, 1, none⟩ : Addr), (.int .i64 b : Value)), ((⟨w.heap.size, 2, none⟩ : Addr), (.slice A n c : Value))]) (by repeat' first | with_reducible assumption | exact SK_of6 (by with_reducible assumption) | exact hST | apply SK.drew | apply SK.drewN | apply SK.alloc) hB; (try (first | with_reducible have hNN := NewH.bornD hB | with_reducible have hNN := NewH.born hB | with_reducible have hNN := NewH.go (by with_reducible assumption) hB)); (try (have hN := hNN.1; have hgl := hNN.2; have hF := hN.f; have hC0 := hN.c0; have hC1 := hN.c1; have hC2 := hN.c2))) | (go_at_call 20; refine (eqSheet_calls (some ⟨gs, 0, none⟩) (some ⟨gT, 0, none⟩) xs xs a b n n n HX.out _ hn (by repeat' first | with_reducible assumption | exact HRT6.out | apply RdS.drew' | apply RdS.drewN' | apply RdS.alloc' | (refine RdS.call ?_ (by with_reducible assumption))) (by repeat' first | with_reducible assumption | exact HRT6.out | apply RdS.drew' | apply RdS.drewN' | apply RdS.alloc' | (refine RdS.call ?_ (by with_reducible assumption))) (LS.refl _)).mono ?_; rintro e w' ⟨rfl, hB⟩; have hge := SK.ge (n := w6.heap.size) (wc := w6) (L := [((⟨gt, 0, none⟩ : Addr), (.int .i64 a : Value)), ((⟨gt, 1, none⟩ : Addr), (.int .i64 b : Value)), ((⟨gt, 2, none⟩ : Addr), (.slice (some ⟨gs, 0, none⟩) n n : Value)), ((⟨w.heap.size, 0, none⟩ : Addr), (.int .i64 a : Value)), ((⟨w.heap.size, 1, none⟩ : Addr), (.int .i64 b : Value)), ((⟨w.heap.size, 2, none⟩ : Addr), (.slice A n c : Value))]) (by repeat' first | with_reducible assumption | exact SK_of6 (by with_reducible assumption) | exact hST | apply SK.drew | apply SK.drewN | apply SK.alloc) hB))
          all_goals
            have hSK : SK (w6.heap.size) w6 [((⟨gt, 0, none⟩ : Addr), (.int .i64 a : Value)), ((⟨gt, 1, none⟩ : Addr), (.int .i64 b : Value)), ((⟨gt, 2, none⟩ : Addr), (.slice (some ⟨gs, 0, none⟩) n n : Value)), ((⟨w.heap.size, 0, none⟩ : Addr), (.int .i64 a : Value)), ((⟨w.heap.size, 1, none⟩ : Addr), (.int .i64 b : Value)), ((⟨w.heap.size, 2, none⟩ : Addr), (.slice A n c : Value))] _ := SK_of6 (by with_reducible assumption)
            go_wp2_with fail
            go_meet
            exact ⟨rfl, hSK⟩
        case rest =>
          obtain ⟨rfl, hSK3⟩ := hcut
          obtain ⟨w7, hw7⟩ : ∃ w7, w7 = wc := ⟨_, rfl⟩
          subst hw7
          have HB27 := Frame.hid (HB26.out.trans (hSK3.m.mono HB26.out.size))
          have HB47 := Frame.hid (HB46.out.trans (hSK3.m.mono hs46))
          have HR7 := Frame.hid (HR6.out.below hSK3.m)
          have HO7 := Frame.hid (HO6.out.below hSK3.m)
          have HG7 := Frame.hid (HG6.out.below hSK3.m)
          have hs47 : w4.heap.size ≤ w7.heap.size := HB47.out.size
          have HT7 := Frame.hid (HT4.out.below HB47.out)
          have k0 := HT7.out.c0
          have k1 := HT7.out.c1
          have k2 := HT7.out.c2
          have hq1 : ¬ ((1 : Int) + 3 * (n : Int) < 0) := by omega
          have hq2 : ¬ ((1 : Int) + 3 * (N : Int) < 0) := by omega
          clear hSK3 hST
          go_wp2_with fail
          refine (markSheetW_calls w2.heap.size n a b (.slice (some ⟨gs, 0, none⟩) n n) hn w7 (HOT.out.below HB47.out) HB27.out.size).mono ?_
          rintro e w8 ⟨rfl, -, hB8, hF8⟩
          have hF8' : ∀ k, k < w7.heap.size → k ≠ gs → w8.heap[k]? = w7.heap[k]? := fun k hk hne => hF8 k hk (by intro e; injection e with e; exact hne e.symm)
          have HB28 := Frame.hid (HB27.out.trans hB8)
          have hs78 : w7.heap.size ≤ w8.heap.size := hB8.size
          have HR8 := Frame.hid (HR7.out.other (HO7.out.apart hgs4) hF8' hs78)
          have HO8 := Frame.hid (HO7.out.other (HO7.out.apart hgs4) hF8')
          have HG8 := Frame.hid (HG7.out.same (hF8' g' HG7.out.l (by omega)))
          have HK8 := Frame.hid (HG2.out.below HB28.out)
          clear hB8 hF8 hF8' k0 k1 k2
          have k0 := HK8.out.c0
          have k1 := HK8.out.c1
          have k2 := HK8.out.c2
          have j0 := HG8.out.c0
          have j1 := HG8.out.c1
          have j2 := HG8.out.c2
          go_wp2_with fail
          refine (eqSheet_calls A' A1 Z Z a0 b0 c' c1 N HN.out w8 (by omega) HR8.out (HR2.out.below HB28.out) (LS.refl _)).mono ?_
          rintro e w9 ⟨rfl, hB9⟩
          have HB29 := Frame.hid (HB28.out.trans (hB9.mono HB28.out.size))
          have hs49 : w4.heap.size ≤ w9.heap.size := Nat.le_trans hs47 (Nat.le_trans hs78 hB9.size)
          have HO9 := Frame.hid (HO8.out.below hB9)
          have HG9 := Frame.hid (HG8.out.below hB9)
          clear hB9 k0 k1 k2 j0 j1 j2
          have j0 := HG9.out.c0
          have j1 := HG9.out.c1
          have j2 := HG9.out.c2
          go_wp2_with fail
          refine (markSheet_calls w4.heap.size N a0 b0 (.slice A' N c') (by omega) w9 HO9.out hs49).mono ?_
          rintro e w10 ⟨rfl, hM10, hB10, hF10⟩
          have HB210 := Frame.hid (HB29.out.trans (hB10.mono HB24.out.size))
          have HG10 := Frame.hid (HG9.out.same (hF10 g' HG9.out.l HAp.out.own))
          have HM10 := Frame.hid hM10
          clear hM10 hB10 hF10 j0 j1 j2
          have j0 := HG10.out.c0
          have j1 := HG10.out.c1
          have j2 := HG10.out.c2
          go_wp2_with fail
          refine (heldSheet_calls w4.heap.size N a0 b0 (.slice A' N c') (by omega) w10 HM10.out).mono ?_
          rintro e w11 ⟨rfl, hB11⟩
          have HB211 := Frame.hid (HB210.out.trans (hB11.mono HB210.out.size))
          have HG11 := Frame.hid (HG10.out.below hB11)
          have HM11 := Frame.hid (HM10.out.below hB11)
          clear hB11 j0 j1 j2
          have hST : SK (w11.heap.size) w11 [((⟨w.heap.size, 0, none⟩ : Addr), (.int .i64 a : Value)), ((⟨w.heap.size, 1, none⟩ : Addr), (.int .i64 b : Value)), ((⟨w.heap.size, 2, none⟩ : Addr), (.slice A n c : Value)), ((⟨w.heap.size + 1, 0, none⟩ : Addr), (.float .f32 x : Value)), ((⟨w.heap.size + 1, 1, none⟩ : Addr), (.float .f32 y : Value)), ((⟨w.heap.size + 1, 2, none⟩ : Addr), (.float .f32 z : Value))] w11 := (HL2.out.far HB211.out HB211.out.size).here
          have HTS11 := Frame.hid (fun W (h : SK (w11.heap.size) w11 [((⟨w.heap.size, 0, none⟩ : Addr), (.int .i64 a : Value)), ((⟨w.heap.size, 1, none⟩ : Addr), (.int .i64 b : Value)), ((⟨w.heap.size, 2, none⟩ : Addr), (.slice A n c : Value)), ((⟨w.heap.size + 1, 0, none⟩ : Addr), (.float .f32 x : Value)), ((⟨w.heap.size + 1, 1, none⟩ : Addr), (.float .f32 y : Value)), ((⟨w.heap.size + 1, 2, none⟩ : Addr), (.float .f32 z : Value))] W) => HTW.out W (HB2.out.trans ((HB211.out.trans (h.m.mono HB211.out.size)).mono HB2.out.size)))
          go_wp2_with fail
          go_cut [16, 17] (fun s16 s17 wx => ∃ g3 A3 c3, s16 = .pointer (some ⟨g3, 0, none⟩) ∧ s17 = .bool K ∧ RdS wx A3 Z ∧ SK (w11.heap.size) w11 [((⟨w.heap.size, 0, none⟩ : Addr), (.int .i64 a : Value)), ((⟨w.heap.size, 1, none⟩ : Addr), (.int .i64 b : Value)), ((⟨w.heap.size, 2, none⟩ : Addr), (.slice A n c : Value)), ((⟨w.heap.size + 1, 0, none⟩ : Addr), (.float .f32 x : Value)), ((⟨w.heap.size + 1, 1, none⟩ : Addr), (.float .f32 y : Value)), ((⟨w.heap.size + 1, 2, none⟩ : Addr), (.float .f32 z : Value))] wx ∧ Sh3 wx g3 a0 b0 (.slice A3 N c3) ∧ w11.heap.size ≤ g3)
          case first =>
            go_region_held3 (fun W => W.cell? ⟨w.heap.size, 0, none⟩ = some (.int .i64 a) ∧ W.cell? ⟨w.heap.size, 1, none⟩ = some (.int .i64 b) ∧ W.cell? ⟨w.heap.size, 2, none⟩ = some (.slice A n c) ∧ W.cell? ⟨w.heap.size + 1, 0, none⟩ = some (.float .f32 x) ∧ W.cell? ⟨w.heap.size + 1, 1, none⟩ = some (.float .f32 y) ∧ W.cell? ⟨w.heap.size + 1, 2, none⟩ = some (.float .f32 z) ∧ w11.heap.size ≤ W.heap.size ∧ SK (w11.heap.size) w11 [((⟨w.heap.size, 0, none⟩ : Addr), (.int .i64 a : Value)), ((⟨w.heap.size, 1, none⟩ : Addr), (.int .i64 b : Value)), ((⟨w.heap.size, 2, none⟩ : Addr), (.slice A n c : Value)), ((⟨w.heap.size + 1, 0, none⟩ : Addr), (.float .f32 x : Value)), ((⟨w.heap.size + 1, 1, none⟩ : Addr), (.float .f32 y : Value)), ((⟨w.heap.size + 1, 2, none⟩ : Addr), (.float .f32 z : Value))] W) ((refine SK_all6 ?_; (repeat' first | with_reducible assumption | exact SK_of6 (by with_reducible assumption) | exact hST | apply SK.drew | apply SK.drewN | apply SK.alloc | (refine SK.call ?_ (by with_reducible assumption)) | (refine SK.set ?_ _ _ _ (by omega))))) (first | (go_at_call 17; refine (HTS11.out _ (by repeat' first | with_reducible assumption | exact SK_of6 (by with_reducible assumption) | exact hST | apply SK.drew | apply SK.drewN | apply SK.alloc)).mono ?_; rintro e w' ⟨gT, rfl, hRT, hB, hgT, hOT⟩; have hge := SK.ge (n := w11.heap.size) (wc := w11) (L := [((⟨w.heap.size, 0, none⟩ : Addr), (.int .i64 a : Value)), ((⟨w.heap.size, 1, none⟩ : Addr), (.int .i64 b : Value)), ((⟨w.heap.size, 2, none⟩ : Addr), (.slice A n c : Value)), ((⟨w.heap.size + 1, 0, none⟩ : Addr), (.float .f32 x : Value)), ((⟨w.heap.size + 1, 1, none⟩ : Addr), (.float .f32 y : Value)), ((⟨w.heap.size + 1, 2, none⟩ : Addr), (.float .f32 z : Value))]) (by repeat' first | with_reducible assumption | exact SK_of6 (by with_reducible assumption) | exact hST | apply SK.drew | apply SK.drewN | apply SK.alloc) hB; (try (first | with_reducible have hNN := NewH.bornD hB | with_reducible have hNN := NewH.born hB | with_reducible have hNN := NewH.go (by with_reducible assumption) hB)); (try (have hN := hNN.1; have hgl := hNN.2; have hF := hN.f; have hC0 := hN.c0; have hC1 := hN.c1; have hC2 := hN.c2))) | (go_at_call 18; refine (toSpot_calls _ _ _ _).mono ?_; rintro e w' ⟨rfl, hB⟩; have hge := SK.ge (n := w11.heap.size) (wc := w11) (L := [((⟨w.heap.size, 0, none⟩ : Addr), (.int .i64 a : Value)), ((⟨w.heap.size, 1, none⟩ : Addr), (.int .i64 b : Value)), ((⟨w.heap.size, 2, none⟩ : Addr), (.slice A n c : Value)), ((⟨w.heap.size + 1, 0, none⟩ : Addr), (.float .f32 x : Value)), ((⟨w.heap.size + 1, 1, none⟩ : Addr), (.float .f32 y : Value)), ((⟨w.heap.size + 1, 2, none⟩ : Addr), (.float .f32 z : Value))]) (by repeat' first | with_reducible assumption | exact SK_of6 (by with_reducible assumption) | exact hST | apply SK.drew | apply SK.drewN | apply SK.alloc) hB; (try (first | with_reducible have hNN := NewH.bornD hB | with_reducible have hNN := NewH.born hB | with_reducible have hNN := NewH.go (by with_reducible assumption) hB)); (try (have hN := hNN.1; have hgl := hNN.2; have hF := hN.f; have hC0 := hN.c0; have hC1 := hN.c1; have hC2 := hN.c2))) | (go_at_call 19; refine (HCI.out _ _ (by repeat' first | with_reducible assumption | exact HRT.out | apply RdS.drew' | apply RdS.drewN' | apply RdS.alloc' | (refine RdS.call ?_ (by with_reducible assumption)))).mono ?_; rintro e w' ⟨A1, c1, rfl, hR1, hO1, hB⟩; have hge := SK.ge (n := w11.heap.size) (wc := w11) (L := [((⟨w.heap.size, 0, none⟩ : Addr), (.int .i64 a : Value)), ((⟨w.heap.size, 1, none⟩ : Addr), (.int .i64 b : Value)), ((⟨w.heap.size, 2, none⟩ : Addr), (.slice A n c : Value)), ((⟨w.heap.size + 1, 0, none⟩ : Addr), (.float .f32 x : Value)), ((⟨w.heap.size + 1, 1, none⟩ : Addr), (.float .f32 y : Value)), ((⟨w.heap.size + 1, 2, none⟩ : Addr), (.float .f32 z : Value))]) (by repeat' first | with_reducible assumption | exact SK_of6 (by with_reducible assumption) | exact hST | apply SK.drew | apply SK.drewN | apply SK.alloc) hB; (try (first | with_reducible have hNN := NewH.bornD hB | with_reducible have hNN := NewH.born hB | with_reducible have hNN := NewH.go (by with_reducible assumption) hB)); (try (have hN := hNN.1; have hgl := hNN.2; have hF := hN.f; have hC0 := hN.c0; have hC1 := hN.c1; have hC2 := hN.c2))))
            all_goals
              have hSK : SK (w11.heap.size) w11 [((⟨w.heap.size, 0, none⟩ : Addr), (.int .i64 a : Value)), ((⟨w.heap.size, 1, none⟩ : Addr), (.int .i64 b : Value)), ((⟨w.heap.size, 2, none⟩ : Addr), (.slice A n c : Value)), ((⟨w.heap.size + 1, 0, none⟩ : Addr), (.float .f32 x : Value)), ((⟨w.heap.size + 1, 1, none⟩ : Addr), (.float .f32 y : Value)), ((⟨w.heap.size + 1, 2, none⟩ : Addr), (.float .f32 z : Value))] _ := SK_of6 (by with_reducible assumption)
              go_wp2_with fail
              go_meet
              refine ⟨_, A1, c1, rfl, rfl, ?_, hSK, ?_, ?_⟩
              · first | exact hR1.below ((Below.refl _ _).alloc (Nat.le_refl _) _) | exact ((hR1.seta (hO1.apart hgl)).seta (hO1.apart hgl)).seta (hO1.apart hgl)
              · first | exact Sh3.here _ _ _ _ _ | exact hN.sh _ _ _
              · omega
          case rest =>
            obtain ⟨g3, A3, c3, rfl, rfl, hR3, hSK3, hA3, hg3⟩ := hcut
            obtain ⟨w12, hw12⟩ : ∃ w12, w12 = wc := ⟨_, rfl⟩
            subst hw12
            have HB212 := Frame.hid (HB211.out.trans (hSK3.m.mono HB211.out.size))
            have HG12 := Frame.hid (HG11.out.below hSK3.m)
            have HM12 := Frame.hid (HM11.out.below hSK3.m)
            have HK12 := Frame.hid (HG2.out.below HB212.out)
            have HR12 := Frame.hid hR3
            have k0 := HK12.out.c0
            have k1 := HK12.out.c1
            have k2 := HK12.out.c2
            have j0 := hA3.c0
            have j1 := hA3.c1
            have j2 := hA3.c2
            clear hR3 hSK3 hA3 hST
            go_wp2_with fail
            refine (eqSheet_calls A3 A1 Z Z a0 b0 c3 c1 N HN.out w12 (by omega) HR12.out (HR2.out.below HB212.out) (LS.refl _)).mono ?_
            rintro e w13 ⟨rfl, hB13⟩
            have HB213 := Frame.hid (HB212.out.trans (hB13.mono HB212.out.size))
            have HG13 := Frame.hid (HG12.out.below hB13)
            have HM13 := Frame.hid (HM12.out.below hB13)
            clear hB13 k0 k1 k2 j0 j1 j2
            have j0 := HG13.out.c0
            have j1 := HG13.out.c1
            have j2 := HG13.out.c2
            go_wp2_with fail
            refine (heldSheet_calls w4.heap.size N a0 b0 (.slice A' N c') (by omega) w13 HM13.out).mono ?_
            rintro e w14 ⟨rfl, hB14⟩
            have HEND := Frame.hid (HB2.out.trans ((HB213.out.trans (hB14.mono HB213.out.size)).mono HB2.out.size))
            clear hB14 j0 j1 j2
            go_wp2_with fail
            go_ret
            exact ⟨rfl, HEND.out⟩

end Go.Proofs.Ytbikiihcbocojaa
