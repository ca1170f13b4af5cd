/-
  The law of NormalAt, walked.
-/
import Derived.Test.YtohbanchaggnmaaK7
import Derived.Test.YtohbanchaggnmaaI9
namespace Go.Proofs.Ytohbanchaggnmaa
open Go.RowKit Fl Go.WideShapes Go.Deep
attribute [local go_sem] kstore_f kalloc_drewN kset_drewN hstore_i hstore_s

set_option maxRecDepth 100000 in
set_option maxHeartbeats 8000000 in
theorem fnExactNormalAt_walk (a b : Int) (A : Option Addr) (xs : List (Nat × Nat × Nat)) (c : Nat) (hl : xs.length ≤ maxLen) (u v : Nat) (w : World) (hr : RdS w A xs) : Calls Try.prog 4 #[.agg #[.int .i64 a, .int .i64 b, .slice A xs.length c], .float .f32 u, .float .f32 v] w fun e w' => e = .returned (.bool true) ∧ Below w.heap.size w w' := by
  obtain ⟨n, hxn⟩ : ∃ n, n = xs.length := ⟨_, rfl⟩
  rw [← hxn] at hl ⊢
  have hl' : n ≤ 9223372036854775807 := by unfold maxLen at hl; omega
  by_cases hbig : 1048576 < n
  · have hsz : ∀ W, Calls Try.prog 15 #[.agg #[.int .i64 a, .int .i64 b, .slice A n c], .int .i64 1048576] W fun e w' => e = .returned (.int .i64 (-1)) ∧ Below W.heap.size W w' := fun W => by have h := szSheet_calls a b A n c hl' W; rw [if_pos hbig] at h; exact h
    have HSZ := Frame.hid hsz
    clear hsz hxn hr
    go_enter Try.func4, Try.ntmps4
    go_wp2_with (go_at_call 15; refine (HSZ.out _).mono ?_; rintro e w' ⟨rfl, hB⟩)
    go_ret
    exact ⟨rfl, (below_ch (below_al _ (below_st _)) hB rfl).2⟩
  · have hn : n ≤ 1048576 := by omega
    have hsz : ∀ W, Calls Try.prog 15 #[.agg #[.int .i64 a, .int .i64 b, .slice A n c], .int .i64 1048576] W fun e w' => e = .returned (.int .i64 (1048576 - (n : Int))) ∧ Below W.heap.size W w' := fun W => by have h := szSheet_calls a b A n c hl' W; rw [if_neg hbig] at h; exact h
    have hneg : ¬ ((1048576 : Int) - (n : Int) < 0) := by omega
    have hcs : ∀ W gT, RdS W (some ⟨gT, 0, none⟩) xs → Calls Try.prog 21 #[.agg #[.int .i64 a, .int .i64 b, .slice (some ⟨gT, 0, none⟩) n n], .float .f32 u, .float .f32 v] W fun e w' => ∃ x y z ok, e = .returned (.tuple #[.agg #[.float .f32 x, .float .f32 y, .float .f32 z], .bool ok]) ∧ NrO a b xs u v x y z ok ∧ Below W.heap.size W w' := fun W gT h => specNormalAt_calls (some ⟨gT, 0, none⟩) xs n hxn a b u v W hn h
    have hci : ∀ W gT, RdS W (some ⟨gT, 0, none⟩) xs → Calls Try.prog 22 #[.agg #[.int .i64 a, .int .i64 b, .slice (some ⟨gT, 0, none⟩) n n], .float .f32 u, .float .f32 v] W fun e w' => ∃ x y z ok, e = .returned (.tuple #[.agg #[.float .f32 x, .float .f32 y, .float .f32 z], .bool ok]) ∧ NrO a b xs u v x y z ok ∧ Below W.heap.size W w' := fun W gT h => normalAt_calls (some ⟨gT, 0, none⟩) xs n hxn a b u v W hn h
    have hsm : ∀ x y z ok x' y' z' ok', NrO a b xs u v x y z ok → NrO a b xs u v x' y' z' ok' → S3 x' y' z' x y z ∧ ok = ok' := fun x y z ok x' y' z' ok' h g => ⟨(NrO.same hxn h g).1.symm, (NrO.same hxn h g).2⟩
    have hts : ∀ W, Below w.heap.size w W → Calls Try.prog 17 #[.agg #[.int .i64 a, .int .i64 b, .slice A n c]] W fun e w' => ∃ g, e = .returned (.agg #[.int .i64 a, .int .i64 b, .slice (some ⟨g, 0, none⟩) n n]) ∧ RdS w' (some ⟨g, 0, none⟩) xs ∧ Below W.heap.size W w' ∧ W.heap.size ≤ g ∧ OwS w' W.heap.size (.slice (some ⟨g, 0, none⟩) n n) n := fun W h => toSheetO_calls A xs c n hxn a b W hn (hr.below h)
    have HSZ := Frame.hid hsz
    have HCS := Frame.hid hcs
    have HCI := Frame.hid hci
    have HTW := Frame.hid hts
    have HSM := Frame.hid hsm
    have HX := Frame.hid hxn
    clear hsz hcs hci hts hsm hxn hr hl hbig
    go_enter Try.func4, Try.ntmps4
    have HW0 := Frame.hid (by (apply bel_of; (repeat (first | apply below_dn | apply below_al)); exact below_st _) : Below w.heap.size w (w.alloc (.cells #[.int .i64 a, .int .i64 b, .slice A n c] 24)))
    go_wp2_with fail
    refine (HSZ.out _).mono ?_
    rintro e w1 ⟨rfl, hB⟩
    have hBk := hB
    have p0 : w1.cell? ⟨w.heap.size, 0, none⟩ = some (.int .i64 a) := by rw [hB.cell (p := ⟨w.heap.size, 0, none⟩) (by simp)]; simp [go_sem]
    have p1 : w1.cell? ⟨w.heap.size, 1, none⟩ = some (.int .i64 b) := by rw [hB.cell (p := ⟨w.heap.size, 1, none⟩) (by simp)]; simp [go_sem]
    have p2 : w1.cell? ⟨w.heap.size, 2, none⟩ = some (.slice A n c) := by rw [hB.cell (p := ⟨w.heap.size, 2, none⟩) (by simp)]; simp [go_sem]
    have hlw : w.heap.size < w1.heap.size := by have hs := hB.size; simp at hs; omega
    have HW1 := Frame.hid (HW0.out.trans (hB.mono HW0.out.size))
    clear hB hBk
    have hP1 : Sh3 w1 w.heap.size a b (.slice A n c) := ⟨p0, p1, p2, hlw⟩
    have HP1 := Frame.hid hP1
    clear hP1
    go_wp2_with fail
    refine (HTW.out w1 HW1.out).mono ?_
    rintro e w2a ⟨gq, rfl, hRq, hBq, -, -⟩
    go_wp2_with fail
    refine (HCS.out w2a gq hRq).mono ?_
    rintro e w2b ⟨x, y, z, ok, rfl, hAT, hB1⟩
    clear p0 p1 p2
    have hP2b := (HP1.out.below hBq).below hB1
    have p0 := hP2b.c0
    have p1 := hP2b.c1
    have p2 := hP2b.c2
    have pl := hP2b.l
    have HAT := Frame.hid hAT
    clear hAT
    go_wp2_with fail
    obtain ⟨gw, hgw⟩ : ∃ gw, gw = w2b.heap.size := ⟨_, rfl⟩
    obtain ⟨w2, hw2⟩ : ∃ w2, w2 = w2b.alloc (.cells #[.float .f32 x, .float .f32 y, .float .f32 z] 28) := ⟨_, rfl⟩
    have hA3 : At3 w2 gw x y z := by rw [hw2, hgw]; exact At3.here _ _ _ _ _
    have hgl : gw < w2.heap.size := by rw [hw2, hgw]; simp
    have h22 : Below w2b.heap.size w2b w2 := by rw [hw2]; exact (Below.refl _ _).alloc (Nat.le_refl _) _
    have h12 := (hBq.trans (hB1.mono hBq.size)).trans (h22.mono (hBq.trans (hB1.mono hBq.size)).size)
    have HB2 := Frame.hid (HW1.out.trans (h12.mono HW1.out.size))
    have HP2 := Frame.hid (hP2b.below h22)
    have HA3 := Frame.hid hA3
    rw [← hw2, ← hgw]
    clear hRq hP2b p0 p1 p2 pl hBq hB1 hw2 hgw h22 h12 hA3
    have p0 := HP2.out.c0
    have p1 := HP2.out.c1
    have p2 := HP2.out.c2
    have hlw2 : w.heap.size < w2.heap.size := HP2.out.l
    refine (HTW.out w2 HB2.out).mono ?_
    rintro e w3 ⟨gs, rfl, hRT, hB, hgT, hOT⟩
    clear p0 p1 p2
    go_wp2_with fail
    obtain ⟨w4, hw4⟩ : ∃ w4, w4 = w3.alloc (.cells #[.int .i64 a, .int .i64 b, .slice (some ⟨gs, 0, none⟩) n n] 33) := ⟨_, rfl⟩
    obtain ⟨gt, hgt⟩ : ∃ gt, gt = w3.heap.size := ⟨_, rfl⟩
    have hT4 : Sh3 w4 gt a b (.slice (some ⟨gs, 0, none⟩) n n) := by rw [hw4, hgt]; exact Sh3.here _ _ _ _ _
    have h34 : Below w3.heap.size w3 w4 := by rw [hw4]; exact (Below.refl _ _).alloc (Nat.le_refl _) _
    have HB24 := Frame.hid (hB.trans (h34.mono hB.size))
    have HRT := Frame.hid (hRT.below h34)
    have hgt2 : w2.heap.size ≤ gt := by rw [hgt]; exact hB.size
    rw [← hw4, ← hgt]
    have HT4 := Frame.hid hT4
    clear hw4 hgt h34 hB hRT hOT hgT hT4
    refine (HCI.out w4 gs HRT.out).mono ?_
    rintro e w5a ⟨x', y', z', ok', rfl, hAT', hB1⟩
    obtain ⟨hS3, rfl⟩ := HSM.out _ _ _ _ _ _ _ _ HAT.out hAT'
    have HS3 := Frame.hid hS3
    have HB45 := Frame.hid hB1
    have hB25 := HB24.out.trans (hB1.mono HB24.out.size)
    have r0 := (hB25.cell (p := ⟨gw, 0, none⟩) hgl).trans HA3.out.c0
    have r1 := (hB25.cell (p := ⟨gw, 1, none⟩) hgl).trans HA3.out.c1
    have r2 := (hB25.cell (p := ⟨gw, 2, none⟩) hgl).trans HA3.out.c2
    have hgl5 : gw < w5a.heap.size := Nat.lt_of_lt_of_le hgl hB25.size
    have HB25 := Frame.hid hB25
    clear hS3 hAT' hB1 hB25
    go_wp2_with fail
    refine (eqSpot_calls _ _ _ _ _ _ HS3.out _).mono ?_
    rintro e w6 ⟨rfl, hB6⟩
    have h56 : Below w5a.heap.size w5a w6 := ((Below.refl _ w5a).alloc (Nat.le_refl _) _).trans (hB6.mono (by simp))
    have HB26 := Frame.hid (HB25.out.trans (h56.mono HB25.out.size))
    have HB46 := Frame.hid (HB45.out.trans (h56.mono HB45.out.size))
    have hs46 : w4.heap.size ≤ w6.heap.size := HB46.out.size
    have HRT6 := Frame.hid (HRT.out.below HB46.out)
    clear hB6 h56 r0 r1 r2 hgl5
    have hST : SK (w6.heap.size) w6 [((⟨gt, 0, none⟩ : Addr), (.int .i64 a : Value)), ((⟨gt, 1, none⟩ : Addr), (.int .i64 b : Value)), ((⟨gt, 2, none⟩ : Addr), (.slice (some ⟨gs, 0, none⟩) n n : Value)), ((⟨w.heap.size, 0, none⟩ : Addr), (.int .i64 a : Value)), ((⟨w.heap.size, 1, none⟩ : Addr), (.int .i64 b : Value)), ((⟨w.heap.size, 2, none⟩ : Addr), (.slice A n c : Value))] w6 := by
      have hP6 := HP2.out.below HB26.out
      have p0 := hP6.c0
      have p1 := hP6.c1
      have p2 := hP6.c2
      have hT6 := HT4.out.below HB46.out
      exact SK.start (Nat.le_refl _) (by intro p hp; simp at hp; rcases hp with rfl | rfl | rfl | rfl | rfl | rfl <;> first | exact hT6.c0 | exact hT6.c1 | exact hT6.c2 | exact p0 | exact p1 | exact p2) (by have hs := HB26.out.size; have hl := hT6.l; intro p hp; simp at hp; rcases hp with rfl | rfl | rfl | rfl | rfl | rfl <;> (simp; omega))
    have HTS6 := Frame.hid (fun W (h : SK (w6.heap.size) w6 [((⟨gt, 0, none⟩ : Addr), (.int .i64 a : Value)), ((⟨gt, 1, none⟩ : Addr), (.int .i64 b : Value)), ((⟨gt, 2, none⟩ : Addr), (.slice (some ⟨gs, 0, none⟩) n n : Value)), ((⟨w.heap.size, 0, none⟩ : Addr), (.int .i64 a : Value)), ((⟨w.heap.size, 1, none⟩ : Addr), (.int .i64 b : Value)), ((⟨w.heap.size, 2, none⟩ : Addr), (.slice A n c : Value))] W) => HTW.out W (HB2.out.trans ((HB26.out.trans (h.m.mono HB26.out.size)).mono HB2.out.size)))
    go_wp2_with fail
    go_cut [48] (fun s55 wx => s55 = .bool false ∧ SK (w6.heap.size) w6 [((⟨gt, 0, none⟩ : Addr), (.int .i64 a : Value)), ((⟨gt, 1, none⟩ : Addr), (.int .i64 b : Value)), ((⟨gt, 2, none⟩ : Addr), (.slice (some ⟨gs, 0, none⟩) n n : Value)), ((⟨w.heap.size, 0, none⟩ : Addr), (.int .i64 a : Value)), ((⟨w.heap.size, 1, none⟩ : Addr), (.int .i64 b : Value)), ((⟨w.heap.size, 2, none⟩ : Addr), (.slice A n c : Value))] wx)
    case first =>
      go_region_held3 (fun W => W.cell? ⟨gt, 0, none⟩ = some (.int .i64 a) ∧ W.cell? ⟨gt, 1, none⟩ = some (.int .i64 b) ∧ W.cell? ⟨gt, 2, none⟩ = some (.slice (some ⟨gs, 0, none⟩) n n) ∧ W.cell? ⟨w.heap.size, 0, none⟩ = some (.int .i64 a) ∧ W.cell? ⟨w.heap.size, 1, none⟩ = some (.int .i64 b) ∧ W.cell? ⟨w.heap.size, 2, none⟩ = some (.slice A n c) ∧ w6.heap.size ≤ W.heap.size ∧ SK (w6.heap.size) w6 [((⟨gt, 0, none⟩ : Addr), (.int .i64 a : Value)), ((⟨gt, 1, none⟩ : Addr), (.int .i64 b : Value)), ((⟨gt, 2, none⟩ : Addr), (.slice (some ⟨gs, 0, none⟩) n n : Value)), ((⟨w.heap.size, 0, none⟩ : Addr), (.int .i64 a : Value)), ((⟨w.heap.size, 1, none⟩ : Addr), (.int .i64 b : Value)), ((⟨w.heap.size, 2, none⟩ : Addr), (.slice A n c : Value))] W) ((refine SK_all6 ?_; (repeat' first | with_reducible assumption | exact SK_of6 (by with_reducible assumption) | exact hST | apply SK.drew | apply SK.drewN | apply SK.alloc | (refine SK.call ?_ (by with_reducible assumption)) | (refine SK.set ?_ _ _ _ (by omega))))) (first | (go_at_call 17; refine (HTS6.out _ (by repeat' first | with_reducible assumption | exact SK_of6 (by with_reducible assumption) | exact hST | apply SK.drew | apply SK.drewN | apply SK.alloc)).mono ?_; rintro e w' ⟨gT, rfl, hRT, hB, hgT, hOT⟩; have hge := SK.ge (n := w6.heap.size) (wc := w6) (L := [((⟨gt, 0, none⟩ : Addr), (.int .i64 a : Value)), ((⟨gt, 1, none⟩ : Addr), (.int .i64 b : Value)), ((⟨gt, 2, none⟩ : Addr), (.slice (some ⟨gs, 0, none⟩) n n : Value)), ((⟨w.heap.size, 0, none⟩ : Addr), (.int .i64 a : Value)), ((⟨w.heap.size, 1, none⟩ : Addr), (.int .i64 b : Value)), ((⟨w.heap.size, 2, none⟩ : Addr), (.slice A n c : Value))]) (by repeat' first | with_reducible assumption | exact SK_of6 (by with_reducible assumption) | exact hST | apply SK.drew | apply SK.drewN | apply SK.alloc) hB; (try (first | with_reducible have hNN := NewH.bornD hB | with_reducible have hNN := NewH.born hB | with_reducible have hNN := NewH.go (by with_reducible assumption) hB)); (try (have hN := hNN.1; have hgl := hNN.2; have hF := hN.f; have hC0 := hN.c0; have hC1 := hN.c1; have hC2 := hN.c2))) | (go_at_call 20; refine (eqSheet_calls (some ⟨gs, 0, none⟩) (some ⟨gT, 0, none⟩) xs xs a b n n n HX.out _ hn (by repeat' first | with_reducible assumption | exact HRT6.out | apply RdS.drew' | apply RdS.drewN' | apply RdS.alloc' | (refine RdS.call ?_ (by with_reducible assumption))) (by repeat' first | with_reducible assumption | exact HRT6.out | apply RdS.drew' | apply RdS.drewN' | apply RdS.alloc' | (refine RdS.call ?_ (by with_reducible assumption))) (LS.refl _)).mono ?_; rintro e w' ⟨rfl, hB⟩; have hge := SK.ge (n := w6.heap.size) (wc := w6) (L := [((⟨gt, 0, none⟩ : Addr), (.int .i64 a : Value)), ((⟨gt, 1, none⟩ : Addr), (.int .i64 b : Value)), ((⟨gt, 2, none⟩ : Addr), (.slice (some ⟨gs, 0, none⟩) n n : Value)), ((⟨w.heap.size, 0, none⟩ : Addr), (.int .i64 a : Value)), ((⟨w.heap.size, 1, none⟩ : Addr), (.int .i64 b : Value)), ((⟨w.heap.size, 2, none⟩ : Addr), (.slice A n c : Value))]) (by repeat' first | with_reducible assumption | exact SK_of6 (by with_reducible assumption) | exact hST | apply SK.drew | apply SK.drewN | apply SK.alloc) hB))
      all_goals
        have hSK : SK (w6.heap.size) w6 [((⟨gt, 0, none⟩ : Addr), (.int .i64 a : Value)), ((⟨gt, 1, none⟩ : Addr), (.int .i64 b : Value)), ((⟨gt, 2, none⟩ : Addr), (.slice (some ⟨gs, 0, none⟩) n n : Value)), ((⟨w.heap.size, 0, none⟩ : Addr), (.int .i64 a : Value)), ((⟨w.heap.size, 1, none⟩ : Addr), (.int .i64 b : Value)), ((⟨w.heap.size, 2, none⟩ : Addr), (.slice A n c : Value))] _ := SK_of6 (by with_reducible assumption)
        go_wp2_with fail
        go_meet
        exact ⟨rfl, hSK⟩
    case rest =>
      obtain ⟨rfl, hSK3⟩ := hcut
      have HEND := Frame.hid (HB2.out.trans ((HB26.out.trans (hSK3.m.mono HB26.out.size)).mono HB2.out.size))
      clear hSK3 hST
      go_wp2_with fail
      go_ret
      exact ⟨rfl, HEND.out⟩

end Go.Proofs.Ytohbanchaggnmaa
