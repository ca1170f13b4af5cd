/-
  The law of FlatSheet, walked.
-/
import Derived.Test.YtddbojpkmgmjmaaK7
import Derived.Test.YtddbojpkmgmjmaaG9
namespace Go.Proofs.Ytddbojpkmgmjmaa
open Go.RowKit Fl Go.WideShapes Go.Deep
attribute [local go_sem] kstore_f kalloc_drewN kset_drewN hstore_i hstore_s

set_option maxRecDepth 100000 in
set_option maxHeartbeats 8000000 in
theorem fnExactFlatSheet_walk (a b : Int) (wide long : Nat) (w : World) : Calls Try.prog 3 #[.int .i64 a, .int .i64 b, .float .f32 wide, .float .f32 long] w fun e w' => e = .returned (.bool true) ∧ Below w.heap.size w w' := by
  obtain ⟨K, hK⟩ : ∃ K, K = flK a b wide long := ⟨_, rfl⟩
  obtain ⟨a0, ha0⟩ : ∃ a0, a0 = outI K a := ⟨_, rfl⟩
  obtain ⟨b0, hb0⟩ : ∃ b0, b0 = outI K b := ⟨_, rfl⟩
  obtain ⟨Z, hZ⟩ : ∃ Z, Z = outL K (flS a b wide long) := ⟨_, rfl⟩
  obtain ⟨N, hN⟩ : ∃ N, N = Z.length := ⟨_, rfl⟩
  have hN4 : N ≤ 36 := by
    rw [hN, hZ]
    cases hk : K
    · simp [outL]
    · rw [hK] at hk
      unfold flK at hk
      simp only [Bool.and_eq_true] at hk
      obtain ⟨⟨a1, a2⟩, ⟨b1, b2⟩, -, -⟩ := cntB_mul hk.1
      rw [show outL true (flS a b wide long) = flatS a.toNat b.toNat wide long from rfl, flatS_len hk.2]
      exact Nat.mul_le_mul (show a.toNat ≤ 6 by omega) (show b.toNat ≤ 6 by omega)
  have hcs : ∀ W, Calls Try.prog 15 #[.int .i64 a, .int .i64 b, .float .f32 wide, .float .f32 long] W (Out K a0 b0 N Z W) := fun W => by have q := specFlatSheet_calls a b wide long W; rw [← hK, ← ha0, ← hb0, ← hZ, ← hN] at q; exact q
  have hci : ∀ W, Calls Try.prog 16 #[.int .i64 a, .int .i64 b, .float .f32 wide, .float .f32 long] W (Out K a0 b0 N Z W) := fun W => by have q := flatSheet_calls a b wide long W; rw [← hK, ← ha0, ← hb0, ← hZ, ← hN] at q; exact q
  have HCS := Frame.hid hcs
  have HCI := Frame.hid hci
  have HN := Frame.hid hN
  clear hcs hci hN hZ ha0 hb0 hK
  go_enter Try.func3, Try.ntmps3
  go_wp2_with fail
  refine (HCS.out _).mono ?_
  rintro e w2b ⟨A1, c1, rfl, hR1, -, hB1⟩
  have HB1 := Frame.hid hB1
  have HR1 := Frame.hid hR1
  clear hR1 hB1
  go_wp2_with fail
  obtain ⟨w2, hw2⟩ : ∃ w2, w2 = w2b.alloc (.cells #[.int .i64 a0, .int .i64 b0, .slice A1 N c1] 25) := ⟨_, rfl⟩
  obtain ⟨g, hg⟩ : ∃ g, g = w2b.heap.size := ⟨_, rfl⟩
  have h2 : Below w2b.heap.size w2b w2 := by rw [hw2]; exact (Below.refl _ _).alloc (Nat.le_refl _) _
  have HR2 := Frame.hid (HR1.out.below h2)
  have HG2 := Frame.hid (by rw [hw2, hg]; exact Sh3.here _ _ _ _ _ : Sh3 w2 g a0 b0 (.slice A1 N c1))
  have HB2 := Frame.hid (HB1.out.trans (h2.mono HB1.out.size))
  rw [← hw2, ← hg]
  clear HR1 h2 hw2 hg
  refine (HCI.out w2).mono ?_
  rintro e w5a ⟨A', c', rfl, hR1, hO1, hB1⟩
  have hq := HG2.out.below hB1
  have k0 := hq.c0
  have k1 := hq.c1
  have k2 := hq.c2
  have kl := hq.l
  go_wp2_with fail
  obtain ⟨w5, hw5⟩ : ∃ w5, w5 = w5a.alloc (.cells #[.int .i64 a0, .int .i64 b0, .slice A' N c'] 25) := ⟨_, rfl⟩
  obtain ⟨g', hg5⟩ : ∃ g', g' = w5a.heap.size := ⟨_, rfl⟩
  have h5 : Below w5a.heap.size w5a w5 := by rw [hw5]; exact (Below.refl _ _).alloc (Nat.le_refl _) _
  have hB25 := hB1.trans (h5.mono hB1.size)
  have HAp := Frame.hid (hO1.apart' (k := g') (Nat.le_of_eq hg5.symm))
  have HR5 := Frame.hid (hR1.below h5)
  have HO5 := Frame.hid (hO1.below h5)
  have HG5 := Frame.hid (by rw [hw5, hg5]; exact Sh3.here _ _ _ _ _ : Sh3 w5 g' a0 b0 (.slice A' N c'))
  have HB25 := Frame.hid hB25
  rw [← hw5, ← hg5]
  clear hq k0 k1 k2 kl h5 hB25 hR1 hO1 hB1 hw5 hg5
  refine (eqSheet_calls A' A1 Z Z a0 b0 c' c1 N HN.out w5 (by omega) HR5.out (HR2.out.below HB25.out) (LS.refl _)).mono ?_
  rintro e w9 ⟨rfl, hB9⟩
  have HB29 := Frame.hid (HB25.out.trans (hB9.mono HB25.out.size))
  have HO9 := Frame.hid (HO5.out.below hB9)
  have HG9 := Frame.hid (HG5.out.below hB9)
  have hq2 : ¬ ((1 : Int) + 3 * (N : Int) < 0) := by omega
  clear hB9
  have j0 := HG9.out.c0
  have j1 := HG9.out.c1
  have j2 := HG9.out.c2
  go_wp2_with fail
  refine (markSheet_calls w2.heap.size N a0 b0 (.slice A' N c') (by omega) w9 HO9.out HB29.out.size).mono ?_
  rintro e w10 ⟨rfl, hM10, hB10, hF10⟩
  have HB210 := Frame.hid (HB29.out.trans hB10)
  have HG10 := Frame.hid (HG9.out.same (hF10 g' HG9.out.l HAp.out.own))
  have HM10 := Frame.hid hM10
  clear hM10 hB10 hF10 j0 j1 j2
  have j0 := HG10.out.c0
  have j1 := HG10.out.c1
  have j2 := HG10.out.c2
  go_wp2_with fail
  refine (heldSheet_calls w2.heap.size N a0 b0 (.slice A' N c') (by omega) w10 HM10.out).mono ?_
  rintro e w11 ⟨rfl, hB11⟩
  have HB211 := Frame.hid (HB210.out.trans (hB11.mono HB210.out.size))
  have HG11 := Frame.hid (HG10.out.below hB11)
  have HM11 := Frame.hid (HM10.out.below hB11)
  clear hB11 j0 j1 j2
  go_wp2_with fail
  refine (HCI.out w11).mono ?_
  rintro e w12b ⟨A3, c3, rfl, hR3, -, hB3⟩
  have hk3 := HG2.out.below (HB211.out.trans (hB3.mono HB211.out.size))
  have k0 := hk3.c0
  have k1 := hk3.c1
  have k2 := hk3.c2
  have kl := hk3.l
  go_wp2_with fail
  obtain ⟨w12, hw12⟩ : ∃ w12, w12 = w12b.alloc (.cells #[.int .i64 a0, .int .i64 b0, .slice A3 N c3] 25) := ⟨_, rfl⟩
  have h12 : Below w12b.heap.size w12b w12 := by rw [hw12]; exact (Below.refl _ _).alloc (Nat.le_refl _) _
  have hB1112 := hB3.trans (h12.mono hB3.size)
  have HB212 := Frame.hid (HB211.out.trans (hB1112.mono HB211.out.size))
  have HG12 := Frame.hid (HG11.out.below hB1112)
  have HM12 := Frame.hid (HM11.out.below hB1112)
  have HR12 := Frame.hid (hR3.below h12)
  rw [← hw12]
  clear hR3 hB3 hk3 k0 k1 k2 kl h12 hB1112 hw12
  refine (eqSheet_calls A3 A1 Z Z a0 b0 c3 c1 N HN.out w12 (by omega) HR12.out (HR2.out.below HB212.out) (LS.refl _)).mono ?_
  rintro e w13 ⟨rfl, hB13⟩
  have HB213 := Frame.hid (HB212.out.trans (hB13.mono HB212.out.size))
  have HG13 := Frame.hid (HG12.out.below hB13)
  have HM13 := Frame.hid (HM12.out.below hB13)
  clear hB13
  have j0 := HG13.out.c0
  have j1 := HG13.out.c1
  have j2 := HG13.out.c2
  go_wp2_with fail
  refine (heldSheet_calls w2.heap.size N a0 b0 (.slice A' N c') (by omega) w13 HM13.out).mono ?_
  rintro e w14 ⟨rfl, hB14⟩
  have HEND := Frame.hid (HB2.out.trans ((HB213.out.trans (hB14.mono HB213.out.size)).mono HB2.out.size))
  clear hB14 j0 j1 j2
  go_wp2_with fail
  go_ret
  exact ⟨rfl, HEND.out⟩

end Go.Proofs.Ytddbojpkmgmjmaa
