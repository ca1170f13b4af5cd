/-
  The law of SheetText, walked.
-/
import Derived.Test.YtnhpiebddelebabDoorV4
import Derived.Deep.RegionHeld3
namespace Go.Proofs.YtnhpiebddelebabDoor
open Go.RowKit Fl Go.WideShapes Go.Deep
attribute [local go_sem] kstore_f kalloc_drewN kset_drewN hstore_i hstore_s

set_option maxRecDepth 100000 in
set_option maxHeartbeats 4000000 in
theorem fnExactSheetText_walk (a b : Int) (A : Option Addr) (xs : List (Nat × Nat × Nat)) (c : Nat) (hl : xs.length ≤ maxLen) (hf : ∀ j, j < (prtL xs).length → (((prtL xs).getD j 0 : Nat) : Int) < 4294967296) (w : World) (hr : RdS w A xs) (hz : ZerosAt w) (htab : Go.Lib.TabIs Tryd.prog w "internal/strconv.uint64pow10" .u64 Go.Lib.pow10Tab) : Calls Tryd.prog 6 #[.agg #[.int .i64 a, .int .i64 b, .slice A xs.length c]] w fun e w' => e = .returned (.bool true) ∧ Below w.heap.size w w' := by
  obtain ⟨n, hxn⟩ : ∃ n, n = xs.length := ⟨_, rfl⟩
  rw [← hxn] at hl ⊢
  have HX := Frame.hid hxn
  have hm : n ≤ 9223372036854775807 := by unfold maxLen at hl; omega
  have HM := Frame.hid hm
  obtain ⟨S, hS⟩ : ∃ S, S = shS a b xs := ⟨_, rfl⟩
  obtain ⟨K, hK⟩ : ∃ K, K = shB a b xs := ⟨_, rfl⟩
  have hcs : n ≤ 1048576 → ∀ W gT, RdS W (some ⟨gT, 0, none⟩) xs → Calls Tryd.prog 19 #[.agg #[.int .i64 a, .int .i64 b, .slice (some ⟨gT, 0, none⟩) n n]] W fun e w' => e = .returned (.tuple #[.string S, .bool K]) ∧ Below W.heap.size W w' := fun hn W gT h => by rw [hS, hK]; exact (specSheetText_calls _ xs n hxn a b hf W hn h).mono fun e w' h => h.one
  have hci : n ≤ 1048576 → ∀ W gT, Below w.heap.size w W → RdS W (some ⟨gT, 0, none⟩) xs → Calls Tryd.prog 21 #[.agg #[.int .i64 a, .int .i64 b, .slice (some ⟨gT, 0, none⟩) n n]] W fun e w' => e = .returned (.tuple #[.string S, .bool K]) ∧ Below W.heap.size W w' := fun hn W gT hB h => by rw [hS, hK]; exact (sheetText_calls _ xs n hxn a b hf W hn h (zeros_below hz hB) ((Go.Lib.tabBelow_of_tabIs htab).on hB).here).mono fun e w' h => h.one
  have HCS := Frame.hid hcs
  have HCI := Frame.hid hci
  clear hxn hl hm hS hK hcs hci hf hz htab
  by_cases hbig : 1048576 < n
  · go_enter Tryd.func6, Tryd.ntmps6
    go_wp2_with (go_at_call 18; refine (szSheet_calls _ _ _ _ _ HM.out _).mono ?_; rintro e w' ⟨rfl, hB⟩; rw [if_pos hbig])
    go_ret
    exact ⟨rfl, (below_ch (below_al _ (below_st _)) hB rfl).2⟩
  · have hn : n ≤ 1048576 := by omega
    have HN := Frame.hid hn
    clear hn
    have HR := Frame.hid (fun W (hW : Below w.heap.size w W) => hr.below hW)
    clear hr
    go_enter Tryd.func6, Tryd.ntmps6
    go_wp2_with fail
    refine (szSheet_calls _ _ _ _ _ HM.out _).mono ?_
    rintro e w1 ⟨rfl, hB1⟩
    rw [if_neg hbig]
    have hS1 := (Sh3.here w a b (.slice A n c) 36).below hB1
    have HB1 := Frame.hid (below_ch (below_al _ (below_st _)) hB1 rfl).2
    have HS1 := Frame.hid hS1
    have k0 := hS1.c0
    have k1 := hS1.c1
    have k2 := hS1.c2
    clear hB1 hS1
    go_wp2_with fail
    refine (toSheet_calls A xs c n HX.out a b _ HN.out (HR.out _ HB1.out)).mono ?_
    rintro e w2 ⟨g2, rfl, hR2, hB2, hg2⟩
    have HB2 := Frame.hid (HB1.out.trans (hB2.mono HB1.out.size))
    have HS2 := Frame.hid (HS1.out.below hB2)
    clear hB2 k0 k1 k2
    go_wp2_with fail
    refine (HCS.out HN.out w2 g2 hR2).mono ?_
    rintro e w3 ⟨rfl, hB3⟩
    have HB3 := Frame.hid (HB2.out.trans (hB3.mono HB2.out.size))
    have HS3 := Frame.hid (HS2.out.below hB3)
    clear hB3 hR2
    have k0 := HS3.out.c0
    have k1 := HS3.out.c1
    have k2 := HS3.out.c2
    go_wp2_with fail
    refine (toSheet_calls A xs c n HX.out a b _ HN.out (HR.out _ HB3.out)).mono ?_
    rintro e w4 ⟨g4, rfl, hR4, hB4, hg4⟩
    have HB4 := Frame.hid (HB3.out.trans (hB4.mono HB3.out.size))
    have HS4 := Frame.hid (HS3.out.below hB4)
    have HR4 := Frame.hid (hR4.below ((Below.refl _ _).alloc (Nat.le_refl _) (.cells #[.int .i64 a, .int .i64 b, .slice (some ⟨g4, 0, none⟩) n n] 41)))
    clear hB4 k0 k1 k2 hR4
    go_wp2_with fail
    refine (HCI.out HN.out _ g4 (HB4.out.alloc HB4.out.size _) HR4.out).mono ?_
    rintro e w5 ⟨rfl, hB5⟩
    have HS5 := Frame.hid ((HS4.out.below ((Below.refl _ _).alloc (Nat.le_refl _) _)).below hB5)
    have HX5 := Frame.hid ((Sh3.here w4 a b (.slice (some ⟨g4, 0, none⟩) n n) 41).below hB5)
    have HR5 := Frame.hid (HR4.out.below hB5)
    have HB5 := Frame.hid (below_ch (below_al _ ⟨HB4.out.size, HB4.out⟩) hB5 rfl).2
    clear hB5
    have k0 := HS5.out.c0
    have k1 := HS5.out.c1
    have k2 := HS5.out.c2
    have j0 := HX5.out.c0
    have j1 := HX5.out.c1
    have j2 := HX5.out.c2
    have q1 := HS5.out.l
    have q2 := HX5.out.l
    have hST : SK w5.heap.size w5 [((⟨w.heap.size, 0, none⟩ : Addr), (.int .i64 a : Value)), ((⟨w.heap.size, 1, none⟩ : Addr), (.int .i64 b : Value)), ((⟨w.heap.size, 2, none⟩ : Addr), (.slice A n c : Value)), ((⟨w4.heap.size, 0, none⟩ : Addr), (.int .i64 a : Value)), ((⟨w4.heap.size, 1, none⟩ : Addr), (.int .i64 b : Value)), ((⟨w4.heap.size, 2, none⟩ : Addr), (.slice (some ⟨g4, 0, none⟩) n n : Value))] w5 := SK.start (Nat.le_refl _) (by intro p hp; simp at hp; rcases hp with rfl | rfl | rfl | rfl | rfl | rfl <;> assumption) (by intro p hp; simp at hp; rcases hp with rfl | rfl | rfl | rfl | rfl | rfl <;> assumption)
    clear q1 q2
    go_wp2_with fail
    go_region_held3 (fun W => W.cell? ⟨w.heap.size, 0, none⟩ = some (.int .i64 a) ∧ W.cell? ⟨w.heap.size, 1, none⟩ = some (.int .i64 b) ∧ W.cell? ⟨w.heap.size, 2, none⟩ = some (.slice A n c) ∧ W.cell? ⟨w4.heap.size, 0, none⟩ = some (.int .i64 a) ∧ W.cell? ⟨w4.heap.size, 1, none⟩ = some (.int .i64 b) ∧ W.cell? ⟨w4.heap.size, 2, none⟩ = some (.slice (some ⟨g4, 0, none⟩) n n) ∧ w5.heap.size ≤ W.heap.size ∧ SK w5.heap.size w5 [((⟨w.heap.size, 0, none⟩ : Addr), (.int .i64 a : Value)), ((⟨w.heap.size, 1, none⟩ : Addr), (.int .i64 b : Value)), ((⟨w.heap.size, 2, none⟩ : Addr), (.slice A n c : Value)), ((⟨w4.heap.size, 0, none⟩ : Addr), (.int .i64 a : Value)), ((⟨w4.heap.size, 1, none⟩ : Addr), (.int .i64 b : Value)), ((⟨w4.heap.size, 2, none⟩ : Addr), (.slice (some ⟨g4, 0, none⟩) n n : Value))] W) ((refine SK_all6 ?_; (repeat' first | with_reducible assumption | exact SK_of6 (by with_reducible assumption) | exact hST | apply SK.drew | apply SK.drewN | apply SK.alloc | (refine SK.call ?_ (by with_reducible assumption)) | (refine SK.set ?_ _ _ _ (by omega)))))
      (first | (go_at_call 20; refine (toSheet_calls A xs c n HX.out a b _ HN.out (HR.out _ HB5.out.drew)).mono ?_; rintro e w6 ⟨g6, rfl, hR6, hB, hg6⟩) | (go_at_call 22; refine (eqSheet_calls _ _ xs xs a b _ _ n HX.out _ HN.out ((HR5.out.below (Below.refl _ _).drew).below (by with_reducible assumption)) hR6 (LS.refl _)).mono ?_; rintro e w7 ⟨rfl, hB⟩))
    have hSK : SK w5.heap.size w5 [((⟨w.heap.size, 0, none⟩ : Addr), (.int .i64 a : Value)), ((⟨w.heap.size, 1, none⟩ : Addr), (.int .i64 b : Value)), ((⟨w.heap.size, 2, none⟩ : Addr), (.slice A n c : Value)), ((⟨w4.heap.size, 0, none⟩ : Addr), (.int .i64 a : Value)), ((⟨w4.heap.size, 1, none⟩ : Addr), (.int .i64 b : Value)), ((⟨w4.heap.size, 2, none⟩ : Addr), (.slice (some ⟨g4, 0, none⟩) n n : Value))] _ := SK_of6 (by with_reducible assumption)
    go_wp2_with fail
    go_ret
    exact ⟨rfl, HB5.out.trans (hSK.m.mono HB5.out.size)⟩

theorem prtL_fit {xs : List (Nat × Nat × Nat)} (h : Fit xs) : ∀ j, j < (prtL xs).length → (((prtL xs).getD j 0 : Nat) : Int) < 4294967296 := fun j hj => by
  have hm : (prtL xs).getD j 0 ∈ prtL xs := by
    rw [List.getD_eq_getElem?_getD, List.getElem?_eq_getElem hj]
    exact List.getElem_mem hj
  generalize (prtL xs).getD j 0 = v at hm ⊢
  unfold prtL at hm
  obtain ⟨p, hp, hx⟩ := List.mem_flatMap.1 hm
  obtain ⟨i, hi, rfl⟩ := List.getElem_of_mem hp
  obtain ⟨h1, h2, h3⟩ := h i hi
  simp only [sx, sy, sz, List.getD_eq_getElem?_getD, List.getElem?_eq_getElem hi, Option.getD_some] at h1 h2 h3
  simp only [List.mem_cons, List.not_mem_nil, or_false] at hx
  rcases hx with rfl | rfl | rfl <;> omega

end Go.Proofs.YtnhpiebddelebabDoor
