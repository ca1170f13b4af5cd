/-
  The law of ValidSheet, walked.
-/
import Derived.Test.YtoldefcajampcaaKh
import Derived.Deep.RegionHeld3
namespace Go.Proofs.Ytoldefcajampcaa
open Go.RowKit Fl Go.WideShapes Go.Deep
attribute [local go_sem] kstore_f kalloc_drewN kset_drewN hstore_i hstore_s

set_option maxRecDepth 100000 in
set_option maxHeartbeats 4000000 in
theorem fnExactValidSheet_walk (a b : Int) (A : Option Addr) (xs : List (Nat × Nat × Nat)) (c : Nat) (hl : xs.length ≤ maxLen) (w : World) (hr : RdS w A xs) : Calls Try.prog 7 #[.agg #[.int .i64 a, .int .i64 b, .slice A xs.length c]] w fun e w' => e = .returned (.bool true) ∧ Below w.heap.size w w' := by
  obtain ⟨n, hxn⟩ : ∃ n, n = xs.length := ⟨_, rfl⟩
  rw [← hxn] at hl ⊢
  have HX := Frame.hid hxn
  have hm : n ≤ 9223372036854775807 := by unfold maxLen at hl; omega
  have HM := Frame.hid hm
  clear hxn hl hm
  by_cases hbig : 1048576 < n
  · go_enter Try.func7, Try.ntmps7
    go_wp2_with (go_at_call 26; refine (szSheet_calls _ _ _ _ _ HM.out _).mono ?_; rintro e w' ⟨rfl, hB⟩; rw [if_pos hbig])
    go_ret
    exact ⟨rfl, (below_ch (below_al _ (below_st _)) hB rfl).2⟩
  · have hn : n ≤ 1048576 := by omega
    have HN := Frame.hid hn
    clear hn
    have HR := Frame.hid (fun W (hW : Below w.heap.size w W) => hr.below hW)
    clear hr
    go_enter Try.func7, Try.ntmps7
    go_wp2_with fail
    refine (szSheet_calls _ _ _ _ _ HM.out _).mono ?_
    rintro e w1 ⟨rfl, hB1⟩
    rw [if_neg hbig]
    have hS1 := (Sh3.here w a b (.slice A n c) 39).below hB1
    have HB1 := Frame.hid (below_ch (below_al _ (below_st _)) hB1 rfl).2
    have HS1 := Frame.hid hS1
    have k0 := hS1.c0
    have k1 := hS1.c1
    have k2 := hS1.c2
    clear hB1 hS1
    go_wp2_with fail
    refine (toSheet_calls A xs c n HX.out a b _ HN.out (HR.out _ HB1.out)).mono ?_
    rintro e w2 ⟨g2, rfl, hR2, hB2, hg2⟩
    have HB2 := Frame.hid (HB1.out.trans (hB2.mono HB1.out.size))
    have HS2 := Frame.hid (HS1.out.below hB2)
    clear hB2 k0 k1 k2
    go_wp2_with fail
    refine (specValidSheet_calls _ xs n n HX.out a b w2 HN.out hR2).mono ?_
    rintro e w3 ⟨rfl, hB3⟩
    have HB3 := Frame.hid (HB2.out.trans (hB3.mono HB2.out.size))
    have HS3 := Frame.hid (HS2.out.below hB3)
    clear hB3 hR2
    have k0 := HS3.out.c0
    have k1 := HS3.out.c1
    have k2 := HS3.out.c2
    go_wp2_with fail
    refine (toSheet_calls A xs c n HX.out a b _ HN.out (HR.out _ HB3.out)).mono ?_
    rintro e w4 ⟨g4, rfl, hR4, hB4, hg4⟩
    have HB4 := Frame.hid (HB3.out.trans (hB4.mono HB3.out.size))
    have HS4 := Frame.hid (HS3.out.below hB4)
    have HR4 := Frame.hid (hR4.below ((Below.refl _ _).alloc (Nat.le_refl _) (.cells #[.int .i64 a, .int .i64 b, .slice (some ⟨g4, 0, none⟩) n n] 44)))
    clear hB4 k0 k1 k2 hR4
    go_wp2_with fail
    refine (validSheet_calls _ xs n n HX.out a b _ HN.out HR4.out).mono ?_
    rintro e w5 ⟨rfl, hB5⟩
    have HS5 := Frame.hid ((HS4.out.below ((Below.refl _ _).alloc (Nat.le_refl _) _)).below hB5)
    have HX5 := Frame.hid ((Sh3.here w4 a b (.slice (some ⟨g4, 0, none⟩) n n) 44).below hB5)
    have HR5 := Frame.hid (HR4.out.below hB5)
    have HB5 := Frame.hid (below_ch (below_al _ ⟨HB4.out.size, HB4.out⟩) hB5 rfl).2
    clear hB5
    have k0 := HS5.out.c0
    have k1 := HS5.out.c1
    have k2 := HS5.out.c2
    have j0 := HX5.out.c0
    have j1 := HX5.out.c1
    have j2 := HX5.out.c2
    have q1 := HS5.out.l
    have q2 := HX5.out.l
    have hST : SK w5.heap.size w5 [((⟨w.heap.size, 0, none⟩ : Addr), (.int .i64 a : Value)), ((⟨w.heap.size, 1, none⟩ : Addr), (.int .i64 b : Value)), ((⟨w.heap.size, 2, none⟩ : Addr), (.slice A n c : Value)), ((⟨w4.heap.size, 0, none⟩ : Addr), (.int .i64 a : Value)), ((⟨w4.heap.size, 1, none⟩ : Addr), (.int .i64 b : Value)), ((⟨w4.heap.size, 2, none⟩ : Addr), (.slice (some ⟨g4, 0, none⟩) n n : Value))] w5 := SK.start (Nat.le_refl _) (by intro p hp; simp at hp; rcases hp with rfl | rfl | rfl | rfl | rfl | rfl <;> assumption) (by intro p hp; simp at hp; rcases hp with rfl | rfl | rfl | rfl | rfl | rfl <;> assumption)
    clear q1 q2
    go_wp2_with fail
    go_region_held3 (fun W => W.cell? ⟨w.heap.size, 0, none⟩ = some (.int .i64 a) ∧ W.cell? ⟨w.heap.size, 1, none⟩ = some (.int .i64 b) ∧ W.cell? ⟨w.heap.size, 2, none⟩ = some (.slice A n c) ∧ W.cell? ⟨w4.heap.size, 0, none⟩ = some (.int .i64 a) ∧ W.cell? ⟨w4.heap.size, 1, none⟩ = some (.int .i64 b) ∧ W.cell? ⟨w4.heap.size, 2, none⟩ = some (.slice (some ⟨g4, 0, none⟩) n n) ∧ w5.heap.size ≤ W.heap.size ∧ SK w5.heap.size w5 [((⟨w.heap.size, 0, none⟩ : Addr), (.int .i64 a : Value)), ((⟨w.heap.size, 1, none⟩ : Addr), (.int .i64 b : Value)), ((⟨w.heap.size, 2, none⟩ : Addr), (.slice A n c : Value)), ((⟨w4.heap.size, 0, none⟩ : Addr), (.int .i64 a : Value)), ((⟨w4.heap.size, 1, none⟩ : Addr), (.int .i64 b : Value)), ((⟨w4.heap.size, 2, none⟩ : Addr), (.slice (some ⟨g4, 0, none⟩) n n : Value))] W) ((refine SK_all6 ?_; (repeat' first | with_reducible assumption | exact SK_of6 (by with_reducible assumption) | exact hST | apply SK.drew | apply SK.drewN | apply SK.alloc | (refine SK.call ?_ (by with_reducible assumption)) | (refine SK.set ?_ _ _ _ (by omega)))))
      (first | (go_at_call 28; refine (toSheet_calls A xs c n HX.out a b _ HN.out (HR.out _ HB5.out.drew)).mono ?_; rintro e w6 ⟨g6, rfl, hR6, hB, hg6⟩) | (go_at_call 30; refine (eqSheet_calls _ _ xs xs a b _ _ n HX.out _ HN.out ((HR5.out.below (Below.refl _ _).drew).below (by with_reducible assumption)) hR6 (LS.refl _)).mono ?_; rintro e w7 ⟨rfl, hB⟩))
    have hSK : SK w5.heap.size w5 [((⟨w.heap.size, 0, none⟩ : Addr), (.int .i64 a : Value)), ((⟨w.heap.size, 1, none⟩ : Addr), (.int .i64 b : Value)), ((⟨w.heap.size, 2, none⟩ : Addr), (.slice A n c : Value)), ((⟨w4.heap.size, 0, none⟩ : Addr), (.int .i64 a : Value)), ((⟨w4.heap.size, 1, none⟩ : Addr), (.int .i64 b : Value)), ((⟨w4.heap.size, 2, none⟩ : Addr), (.slice (some ⟨g4, 0, none⟩) n n : Value))] _ := SK_of6 (by with_reducible assumption)
    go_wp2_with fail
    go_ret
    exact ⟨rfl, HB5.out.trans (hSK.m.mono HB5.out.size)⟩

end Go.Proofs.Ytoldefcajampcaa
