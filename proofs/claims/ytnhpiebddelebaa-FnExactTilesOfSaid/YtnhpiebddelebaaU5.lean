/-
  The law of TilesOf, walked.
-/
import Derived.Test.YtnhpiebddelebaaK7
import Derived.Test.YtnhpiebddelebaaU4
namespace Go.Proofs.Ytnhpiebddelebaa
open Go.RowKit Fl Go.WideShapes Go.Deep
attribute [local go_sem] kstore_f kalloc_drewN kset_drewN hstore_i hstore_s

theorem tiles_fix (a b : Int) (xs : List (Nat × Nat × Nat)) (m k : Int) : ∃ (K : Bool) (N : Nat), N ≤ 169 ∧ ∀ zs ok, TilesO a b xs m k zs ok → ok = K ∧ zs.length = N := by
  by_cases h : ∃ zs, TilesO a b xs m k zs true
  · obtain ⟨zs, h⟩ := h
    refine ⟨true, zs.length, ?_, fun ys ok g => ?_⟩
    · rcases h with ⟨_, p, q, _, _, hp, hq, hl, _⟩ | ⟨h, _⟩
      · rw [hl]; exact Nat.mul_le_mul (show q + 1 ≤ 13 by omega) (show p + 1 ≤ 13 by omega)
      · cases h
    · obtain ⟨h1, h2⟩ := TilesO.same g h
      exact ⟨h2, h1.1⟩
  · refine ⟨false, 0, by omega, fun ys ok g => ?_⟩
    cases ok
    · rcases g with ⟨g, _⟩ | ⟨_, rfl, _⟩
      · cases g
      · exact ⟨rfl, rfl⟩
    · exact absurd ⟨ys, g⟩ h
/-- What a call of TilesOf hands out, its length and success decided. -/
def OutT (a b : Int) (xs : List (Nat × Nat × Nat)) (m k : Int) (K : Bool) (N : Nat) (W : World) (e : Ending) (w' : World) : Prop :=
  ∃ Z A c, Z.length = N ∧ TilesO a b xs m k Z K ∧ e = .returned (.tuple #[.slice A N c, .bool K]) ∧ RdS w' A Z ∧ OwS w' W.heap.size (.slice A N c) N ∧ Below W.heap.size W w'
theorem TlO.fix {a b : Int} {xs : List (Nat × Nat × Nat)} {m k : Int} {K : Bool} {N : Nat} {W w' : World} {e : Ending} (hf : ∀ zs ok, TilesO a b xs m k zs ok → ok = K ∧ zs.length = N) (h : TlO a b xs m k W e w') : OutT a b xs m k K N W e w' := by
  obtain ⟨A, c, L, zs, ok, rfl, rfl, hT, hO, hB⟩ := h
  obtain ⟨rfl, hN⟩ := hf _ _ hT
  subst hN
  obtain ⟨A', c', e, hR⟩ := hO.rd
  injection e with e1 e2 e3
  subst e1 e3
  exact ⟨zs, A, c, rfl, hT, rfl, hR, OwS.of hO, hB⟩

set_option maxRecDepth 100000 in
set_option maxHeartbeats 8000000 in
theorem fnExactTilesOf_walk (a b : Int) (A : Option Addr) (xs : List (Nat × Nat × Nat)) (c : Nat) (hl : xs.length ≤ maxLen) (m k : Int) (w : World) (hr : RdS w A xs) : Calls Try.prog 3 #[.agg #[.int .i64 a, .int .i64 b, .slice A xs.length c], .int .i64 m, .int .i64 k] w fun e w' => e = .returned (.bool true) ∧ Below w.heap.size w w' := by
  obtain ⟨n, hxn⟩ : ∃ n, n = xs.length := ⟨_, rfl⟩
  rw [← hxn] at hl ⊢
  have hl' : n ≤ 9223372036854775807 := by unfold maxLen at hl; omega
  by_cases hbig : 1048576 < n
  · have hsz : ∀ W, Calls Try.prog 9 #[.agg #[.int .i64 a, .int .i64 b, .slice A n c], .int .i64 1048576] W fun e w' => e = .returned (.int .i64 (-1)) ∧ Below W.heap.size W w' := fun W => by have h := szSheet_calls a b A n c hl' W; rw [if_pos hbig] at h; exact h
    have HSZ := Frame.hid hsz
    clear hsz hxn hr
    go_enter Try.func3, Try.ntmps3
    go_wp2_with (go_at_call 9; refine (HSZ.out _).mono ?_; rintro e w' ⟨rfl, hB⟩)
    go_ret
    exact ⟨rfl, (below_ch (below_al _ (below_st _)) hB rfl).2⟩
  · have hn : n ≤ 1048576 := by omega
    have hsz : ∀ W, Calls Try.prog 9 #[.agg #[.int .i64 a, .int .i64 b, .slice A n c], .int .i64 1048576] W fun e w' => e = .returned (.int .i64 (1048576 - (n : Int))) ∧ Below W.heap.size W w' := fun W => by have h := szSheet_calls a b A n c hl' W; rw [if_neg hbig] at h; exact h
    have hneg : ¬ ((1048576 : Int) - (n : Int) < 0) := by omega
    obtain ⟨K, N, hN4, hfix⟩ := tiles_fix a b xs m k
    have hcs : ∀ W gT, RdS W (some ⟨gT, 0, none⟩) xs → Calls Try.prog 10 #[.agg #[.int .i64 a, .int .i64 b, .slice (some ⟨gT, 0, none⟩) n n], .int .i64 m, .int .i64 k] W (OutT a b xs m k K N W) := fun W gT h => (specTilesOf_calls (some ⟨gT, 0, none⟩) xs n hxn a b m k W hn h).mono fun e w' h => TlO.fix hfix h
    have hci : ∀ W gT, RdS W (some ⟨gT, 0, none⟩) xs → Calls Try.prog 12 #[.agg #[.int .i64 a, .int .i64 b, .slice (some ⟨gT, 0, none⟩) n n], .int .i64 m, .int .i64 k] W (OutT a b xs m k K N W) := fun W gT h => (tilesOf_calls (some ⟨gT, 0, none⟩) xs n hxn a b m k W hn h).mono fun e w' h => TlO.fix hfix h
    have hts : ∀ W, Below w.heap.size w W → Calls Try.prog 11 #[.agg #[.int .i64 a, .int .i64 b, .slice A n c]] W fun e w' => ∃ g, e = .returned (.agg #[.int .i64 a, .int .i64 b, .slice (some ⟨g, 0, none⟩) n n]) ∧ RdS w' (some ⟨g, 0, none⟩) xs ∧ Below W.heap.size W w' ∧ W.heap.size ≤ g ∧ OwS w' W.heap.size (.slice (some ⟨g, 0, none⟩) n n) n := fun W h => toSheetO_calls A xs c n hxn a b W hn (hr.below h)
    have HSZ := Frame.hid hsz
    have HCS := Frame.hid hcs
    have HCI := Frame.hid hci
    have HTW := Frame.hid hts
    have HX := Frame.hid hxn
    clear hsz hcs hci hts hfix hxn hr hl hbig
    go_enter Try.func3, Try.ntmps3
    have HW0 := Frame.hid (by (apply bel_of; (repeat (first | apply below_dn | apply below_al)); exact below_st _) : Below w.heap.size w (w.alloc (.cells #[.int .i64 a, .int .i64 b, .slice A n c] 24)))
    go_wp2_with fail
    refine (HSZ.out _).mono ?_
    rintro e w1 ⟨rfl, hB⟩
    have hBk := hB
    have p0 : w1.cell? ⟨w.heap.size, 0, none⟩ = some (.int .i64 a) := by rw [hB.cell (p := ⟨w.heap.size, 0, none⟩) (by simp)]; simp [go_sem]
    have p1 : w1.cell? ⟨w.heap.size, 1, none⟩ = some (.int .i64 b) := by rw [hB.cell (p := ⟨w.heap.size, 1, none⟩) (by simp)]; simp [go_sem]
    have p2 : w1.cell? ⟨w.heap.size, 2, none⟩ = some (.slice A n c) := by rw [hB.cell (p := ⟨w.heap.size, 2, none⟩) (by simp)]; simp [go_sem]
    have hlw : w.heap.size < w1.heap.size := by have hs := hB.size; simp at hs; omega
    have HW1 := Frame.hid (HW0.out.trans (hB.mono HW0.out.size))
    clear hB hBk
    have hP1 : Sh3 w1 w.heap.size a b (.slice A n c) := ⟨p0, p1, p2, hlw⟩
    have HP1 := Frame.hid hP1
    clear hP1
    go_wp2_with fail
    refine (HTW.out w1 HW1.out).mono ?_
    rintro e w2a ⟨gq, rfl, hRq, hBq, -, -⟩
    go_wp2_with fail
    refine (HCS.out w2a gq hRq).mono ?_
    rintro e w2b ⟨Z1, A1, c1, hZ1, hT1, rfl, hR1, -, hB1⟩
    have HT1 := Frame.hid hT1
    clear hT1 hZ1
    clear p0 p1 p2
    have hP2b := (HP1.out.below hBq).below hB1
    have p0 := hP2b.c0
    have p1 := hP2b.c1
    have p2 := hP2b.c2
    have pl := hP2b.l
    go_wp2_with fail
    have HR2 := Frame.hid hR1
    have HB2 := Frame.hid (HW1.out.trans ((hBq.trans (hB1.mono hBq.size)).mono HW1.out.size))
    have HP2 := Frame.hid hP2b
    have hlw2 : w.heap.size < w2b.heap.size := HP2.out.l
    obtain ⟨w2, hw2⟩ : ∃ w2, w2 = w2b := ⟨_, rfl⟩
    subst hw2
    clear hRq hR1 hP2b p0 p1 p2 pl hBq hB1
    have p0 := HP2.out.c0
    have p1 := HP2.out.c1
    have p2 := HP2.out.c2
    refine (HTW.out w2 HB2.out).mono ?_
    rintro e w3 ⟨gs, rfl, hRT, hB, hgT, hOT⟩
    have q0 := (hB.cell (p := ⟨w.heap.size, 0, none⟩) hlw2).trans p0
    clear p0 p1 p2 q0
    go_wp2_with fail
    obtain ⟨w4, hw4⟩ : ∃ w4, w4 = w3.alloc (.cells #[.int .i64 a, .int .i64 b, .slice (some ⟨gs, 0, none⟩) n n] 30) := ⟨_, rfl⟩
    obtain ⟨gt, hgt⟩ : ∃ gt, gt = w3.heap.size := ⟨_, rfl⟩
    have hT4 : Sh3 w4 gt a b (.slice (some ⟨gs, 0, none⟩) n n) := by rw [hw4, hgt]; exact Sh3.here _ _ _ _ _
    have h34 : Below w3.heap.size w3 w4 := by rw [hw4]; exact (Below.refl _ _).alloc (Nat.le_refl _) _
    have HB24 := Frame.hid (hB.trans (h34.mono hB.size))
    have HRT := Frame.hid (hRT.below h34)
    have HOT := Frame.hid (hOT.below h34)
    have HAT := Frame.hid (hOT.apart' (Nat.le_of_eq hgt.symm))
    have hgt2 : w2.heap.size ≤ gt := by rw [hgt]; exact hB.size
    have hgs2 : w2.heap.size ≤ gs := hgT
    have hgs4 : gs < w4.heap.size := by
      rcases hOT.h with ⟨h1, _⟩ | ⟨g', cap', cs, hv, _, hh, _⟩
      · cases h1
      · injection hv with hv _ _
        injection hv with hv
        injection hv with hv
        rw [hv]
        exact Nat.lt_of_lt_of_le (Array.getElem?_eq_some_iff.1 hh).1 h34.size
    rw [← hw4, ← hgt]
    have HT4 := Frame.hid hT4
    clear hw4 hgt h34 hB hRT hOT hgT hT4
    refine (HCI.out w4 gs HRT.out).mono ?_
    rintro e w5a ⟨Z2, A', c', hZ2, hT2, rfl, hR1, hO1, hB1⟩
    have HLS2 := Frame.hid (TilesO.same hT2 HT1.out).1
    have HZ2 : Hid (N = Z2.length) := Frame.hid hZ2.symm
    clear hT2 hZ2
    go_wp2_with fail
    have HB45 := Frame.hid hB1
    have HR5 := Frame.hid hR1
    have HO5 := Frame.hid hO1
    have HB25 := Frame.hid (HB24.out.trans (hB1.mono HB24.out.size))
    have hs45 : w4.heap.size ≤ w5a.heap.size := hB1.size
    obtain ⟨w5, hw5⟩ : ∃ w5, w5 = w5a := ⟨_, rfl⟩
    subst hw5
    clear hR1 hO1 hB1
    refine (eqSpotS_calls A' A1 Z2 Z1 c' c1 N HZ2.out w5 (by omega) HR5.out (HR2.out.below HB25.out) HLS2.out).mono ?_
    rintro e w6 ⟨rfl, hB6⟩
    have HB26 := Frame.hid (HB25.out.trans (hB6.mono HB25.out.size))
    have HB46 := Frame.hid (HB45.out.trans (hB6.mono hs45))
    have hs46 : w4.heap.size ≤ w6.heap.size := HB46.out.size
    have HR6 := Frame.hid (HR5.out.below hB6)
    have HO6 := Frame.hid (HO5.out.below hB6)
    have HRT6 := Frame.hid (HRT.out.below HB46.out)
    clear hB6
    have hST : SK (w6.heap.size) w6 [((⟨gt, 0, none⟩ : Addr), (.int .i64 a : Value)), ((⟨gt, 1, none⟩ : Addr), (.int .i64 b : Value)), ((⟨gt, 2, none⟩ : Addr), (.slice (some ⟨gs, 0, none⟩) n n : Value)), ((⟨w.heap.size, 0, none⟩ : Addr), (.int .i64 a : Value)), ((⟨w.heap.size, 1, none⟩ : Addr), (.int .i64 b : Value)), ((⟨w.heap.size, 2, none⟩ : Addr), (.slice A n c : Value))] w6 := by
      have hP6 := HP2.out.below HB26.out
      have p0 := hP6.c0
      have p1 := hP6.c1
      have p2 := hP6.c2
      have hT6 := HT4.out.below HB46.out
      exact SK.start (Nat.le_refl _) (by intro p hp; simp at hp; rcases hp with rfl | rfl | rfl | rfl | rfl | rfl <;> first | exact hT6.c0 | exact hT6.c1 | exact hT6.c2 | exact p0 | exact p1 | exact p2) (by have hs := HB26.out.size; have hl := hT6.l; intro p hp; simp at hp; rcases hp with rfl | rfl | rfl | rfl | rfl | rfl <;> (simp; omega))
    have HTS6 := Frame.hid (fun W (h : SK (w6.heap.size) w6 [((⟨gt, 0, none⟩ : Addr), (.int .i64 a : Value)), ((⟨gt, 1, none⟩ : Addr), (.int .i64 b : Value)), ((⟨gt, 2, none⟩ : Addr), (.slice (some ⟨gs, 0, none⟩) n n : Value)), ((⟨w.heap.size, 0, none⟩ : Addr), (.int .i64 a : Value)), ((⟨w.heap.size, 1, none⟩ : Addr), (.int .i64 b : Value)), ((⟨w.heap.size, 2, none⟩ : Addr), (.slice A n c : Value))] W) => HTW.out W (HB2.out.trans ((HB26.out.trans (h.m.mono HB26.out.size)).mono HB2.out.size)))
    go_wp2_with fail
    go_cut [53] (fun s55 wx => s55 = .bool false ∧ SK (w6.heap.size) w6 [((⟨gt, 0, none⟩ : Addr), (.int .i64 a : Value)), ((⟨gt, 1, none⟩ : Addr), (.int .i64 b : Value)), ((⟨gt, 2, none⟩ : Addr), (.slice (some ⟨gs, 0, none⟩) n n : Value)), ((⟨w.heap.size, 0, none⟩ : Addr), (.int .i64 a : Value)), ((⟨w.heap.size, 1, none⟩ : Addr), (.int .i64 b : Value)), ((⟨w.heap.size, 2, none⟩ : Addr), (.slice A n c : Value))] wx)
    case first =>
      go_region_held3 (fun W => W.cell? ⟨gt, 0, none⟩ = some (.int .i64 a) ∧ W.cell? ⟨gt, 1, none⟩ = some (.int .i64 b) ∧ W.cell? ⟨gt, 2, none⟩ = some (.slice (some ⟨gs, 0, none⟩) n n) ∧ W.cell? ⟨w.heap.size, 0, none⟩ = some (.int .i64 a) ∧ W.cell? ⟨w.heap.size, 1, none⟩ = some (.int .i64 b) ∧ W.cell? ⟨w.heap.size, 2, none⟩ = some (.slice A n c) ∧ w6.heap.size ≤ W.heap.size ∧ SK (w6.heap.size) w6 [((⟨gt, 0, none⟩ : Addr), (.int .i64 a : Value)), ((⟨gt, 1, none⟩ : Addr), (.int .i64 b : Value)), ((⟨gt, 2, none⟩ : Addr), (.slice (some ⟨gs, 0, none⟩) n n : Value)), ((⟨w.heap.size, 0, none⟩ : Addr), (.int .i64 a : Value)), ((⟨w.heap.size, 1, none⟩ : Addr), (.int .i64 b : Value)), ((⟨w.heap.size, 2, none⟩ : Addr), (.slice A n c : Value))] W) ((refine SK_all6 ?_; (repeat' first | with_reducible assumption | exact SK_of6 (by with_reducible assumption) | exact hST | apply SK.drew | apply SK.drewN | apply SK.alloc | (refine SK.call ?_ (by with_reducible assumption)) | (refine SK.set ?_ _ _ _ (by omega))))) (first | (go_at_call 11; refine (HTS6.out _ (by repeat' first | with_reducible assumption | exact SK_of6 (by with_reducible assumption) | exact hST | apply SK.drew | apply SK.drewN | apply SK.alloc)).mono ?_; rintro e w' ⟨gT, rfl, hRT, hB, hgT, hOT⟩; have hge := SK.ge (n := w6.heap.size) (wc := w6) (L := [((⟨gt, 0, none⟩ : Addr), (.int .i64 a : Value)), ((⟨gt, 1, none⟩ : Addr), (.int .i64 b : Value)), ((⟨gt, 2, none⟩ : Addr), (.slice (some ⟨gs, 0, none⟩) n n : Value)), ((⟨w.heap.size, 0, none⟩ : Addr), (.int .i64 a : Value)), ((⟨w.heap.size, 1, none⟩ : Addr), (.int .i64 b : Value)), ((⟨w.heap.size, 2, none⟩ : Addr), (.slice A n c : Value))]) (by repeat' first | with_reducible assumption | exact SK_of6 (by with_reducible assumption) | exact hST | apply SK.drew | apply SK.drewN | apply SK.alloc) hB; (try (first | with_reducible have hNN := NewH.bornD hB | with_reducible have hNN := NewH.born hB | with_reducible have hNN := NewH.go (by with_reducible assumption) hB)); (try (have hN := hNN.1; have hgl := hNN.2; have hF := hN.f; have hC0 := hN.c0; have hC1 := hN.c1; have hC2 := hN.c2))) | (go_at_call 14; refine (eqSheet_calls (some ⟨gs, 0, none⟩) (some ⟨gT, 0, none⟩) xs xs a b n n n HX.out _ hn (by repeat' first | with_reducible assumption | exact HRT6.out | apply RdS.drew' | apply RdS.drewN' | apply RdS.alloc' | (refine RdS.call ?_ (by with_reducible assumption))) (by repeat' first | with_reducible assumption | exact HRT6.out | apply RdS.drew' | apply RdS.drewN' | apply RdS.alloc' | (refine RdS.call ?_ (by with_reducible assumption))) (LS.refl _)).mono ?_; rintro e w' ⟨rfl, hB⟩; have hge := SK.ge (n := w6.heap.size) (wc := w6) (L := [((⟨gt, 0, none⟩ : Addr), (.int .i64 a : Value)), ((⟨gt, 1, none⟩ : Addr), (.int .i64 b : Value)), ((⟨gt, 2, none⟩ : Addr), (.slice (some ⟨gs, 0, none⟩) n n : Value)), ((⟨w.heap.size, 0, none⟩ : Addr), (.int .i64 a : Value)), ((⟨w.heap.size, 1, none⟩ : Addr), (.int .i64 b : Value)), ((⟨w.heap.size, 2, none⟩ : Addr), (.slice A n c : Value))]) (by repeat' first | with_reducible assumption | exact SK_of6 (by with_reducible assumption) | exact hST | apply SK.drew | apply SK.drewN | apply SK.alloc) hB))
      all_goals
        have hSK : SK (w6.heap.size) w6 [((⟨gt, 0, none⟩ : Addr), (.int .i64 a : Value)), ((⟨gt, 1, none⟩ : Addr), (.int .i64 b : Value)), ((⟨gt, 2, none⟩ : Addr), (.slice (some ⟨gs, 0, none⟩) n n : Value)), ((⟨w.heap.size, 0, none⟩ : Addr), (.int .i64 a : Value)), ((⟨w.heap.size, 1, none⟩ : Addr), (.int .i64 b : Value)), ((⟨w.heap.size, 2, none⟩ : Addr), (.slice A n c : Value))] _ := SK_of6 (by with_reducible assumption)
        go_wp2_with fail
        go_meet
        exact ⟨rfl, hSK⟩
    case rest =>
      obtain ⟨rfl, hSK3⟩ := hcut
      obtain ⟨w7, hw7⟩ : ∃ w7, w7 = wc := ⟨_, rfl⟩
      subst hw7
      have HB27 := Frame.hid (HB26.out.trans (hSK3.m.mono HB26.out.size))
      have HB47 := Frame.hid (HB46.out.trans (hSK3.m.mono hs46))
      have HR7 := Frame.hid (HR6.out.below hSK3.m)
      have HO7 := Frame.hid (HO6.out.below hSK3.m)
      have hs47 : w4.heap.size ≤ w7.heap.size := HB47.out.size
      have HT7 := Frame.hid (HT4.out.below HB47.out)
      have k0 := HT7.out.c0
      have k1 := HT7.out.c1
      have k2 := HT7.out.c2
      have hq1 : ¬ ((1 : Int) + 3 * (n : Int) < 0) := by omega
      have hq2 : ¬ ((1 : Int) + 3 * (N : Int) < 0) := by omega
      clear hSK3 hST
      go_wp2_with fail
      refine (markSheetW_calls w2.heap.size n a b (.slice (some ⟨gs, 0, none⟩) n n) hn w7 (HOT.out.below HB47.out) HB27.out.size).mono ?_
      rintro e w8 ⟨rfl, -, hB8, hF8⟩
      have hF8' : ∀ k, k < w7.heap.size → k ≠ gs → w8.heap[k]? = w7.heap[k]? := fun k hk hne => hF8 k hk (by intro e; injection e with e; exact hne e.symm)
      have HB28 := Frame.hid (HB27.out.trans hB8)
      have hs78 : w7.heap.size ≤ w8.heap.size := hB8.size
      have HR8 := Frame.hid (HR7.out.other (HO7.out.apart hgs4) hF8' hs78)
      have HO8 := Frame.hid (HO7.out.other (HO7.out.apart hgs4) hF8')
      clear hB8 hF8 hF8' k0 k1 k2
      go_wp2_with fail
      refine (eqSpotS_calls A' A1 Z2 Z1 c' c1 N HZ2.out w8 (by omega) HR8.out (HR2.out.below HB28.out) HLS2.out).mono ?_
      rintro e w9 ⟨rfl, hB9⟩
      have HB29 := Frame.hid (HB28.out.trans (hB9.mono HB28.out.size))
      have hs49 : w4.heap.size ≤ w9.heap.size := Nat.le_trans hs47 (Nat.le_trans hs78 hB9.size)
      have HO9 := Frame.hid (HO8.out.below hB9)
      clear hB9
      go_wp2_with fail
      refine (markSpotS_calls w4.heap.size N (.slice A' N c') (by omega) w9 HO9.out).mono ?_
      rintro e w10 ⟨rfl, hM10, hB10, hF10⟩
      have HB210 := Frame.hid (HB29.out.trans (hB10.mono HB24.out.size))
      have HM10 := Frame.hid hM10
      clear hM10 hB10 hF10
      go_wp2_with fail
      refine (heldSpotS_calls w4.heap.size N (.slice A' N c') (by omega) w10 HM10.out).mono ?_
      rintro e w11 ⟨rfl, rfl⟩
      have hP11 := HP2.out.below HB210.out
      have p0 := hP11.c0
      have p1 := hP11.c1
      have p2 := hP11.c2
      go_wp2_with fail
      refine (HTW.out w11 (HB2.out.trans (HB210.out.mono HB2.out.size))).mono ?_
      rintro e w12a ⟨gh, rfl, hRh, hBh, -, -⟩
      clear p0 p1 p2 hP11
      go_wp2_with fail
      refine (HCI.out w12a gh hRh).mono ?_
      rintro e w12 ⟨Z3, A3, c3, hZ3, hT3, rfl, hR3, -, hB3⟩
      have HLS3 := Frame.hid (TilesO.same hT3 HT1.out).1
      have HZ3 : Hid (N = Z3.length) := Frame.hid hZ3.symm
      clear hT3 hZ3
      have hBhb := hBh.trans (hB3.mono hBh.size)
      have HB212 := Frame.hid (HB210.out.trans (hBhb.mono HB210.out.size))
      have HM12 := Frame.hid (HM10.out.below hBhb)
      have HR12 := Frame.hid hR3
      clear hRh hBh hR3 hB3 hBhb
      go_wp2_with fail
      refine (eqSpotS_calls A3 A1 Z3 Z1 c3 c1 N HZ3.out w12 (by omega) HR12.out (HR2.out.below HB212.out) HLS3.out).mono ?_
      rintro e w13 ⟨rfl, hB13⟩
      have HB213 := Frame.hid (HB212.out.trans (hB13.mono HB212.out.size))
      have HM13 := Frame.hid (HM12.out.below hB13)
      clear hB13
      go_wp2_with fail
      refine (heldSpotS_calls w4.heap.size N (.slice A' N c') (by omega) w13 HM13.out).mono ?_
      rintro e w14 ⟨rfl, rfl⟩
      have HEND := Frame.hid (HB2.out.trans (HB213.out.mono HB2.out.size))
      go_wp2_with fail
      go_ret
      exact ⟨rfl, HEND.out⟩

end Go.Proofs.Ytnhpiebddelebaa
