/-
  The law of RaisePatch, walked.
-/
import Derived.Test.YtnbgnaenlbphcaaF2
import Derived.Test.YtnbgnaenlbphcaaKo
import Derived.Test.YtnbgnaenlbphcaaK6
namespace Go.Proofs.Ytnbgnaenlbphcaa
open Go.RowKit Fl Go.WideShapes Go.Deep
attribute [local go_sem] kstore_f kalloc_drewN kset_drewN hstore_i hstore_s

set_option maxRecDepth 100000 in
set_option maxHeartbeats 4000000 in
theorem specRaisePatch_calls (A : Option Addr) (c n : Nat) (xs : List (Nat × Nat × Nat)) (hxn : n = xs.length) (hn : n ≤ 1048576) (d : Int) (w : World) (hr : RdS w A xs) :
    Calls Try.prog 52 #[.slice A n c, .int .i64 d] w fun e w' => ∃ v l ok, e = .returned (.tuple #[v, .bool ok]) ∧ RpO d xs l ok ∧ OwnedS w' w.heap.size v l ∧ Below w.heap.size w w' := by
  have HPV := Frame.hid (l04Patch_calls A xs c n hxn d w hn hr)
  cases h1 : patB d xs
  · rw [h1] at HPV
    have H1 := Frame.hid h1
    clear h1 hxn hr
    go_enter Try.func52, Try.ntmps52
    go_wp2_with fail
    refine HPV.out.mono ?_
    rintro e1 w1 ⟨rfl, hB1⟩
    have HB1 := Frame.hid hB1
    clear hB1
    go_wp2_with fail
    go_ret2
    exact ⟨.slice none 0 0, [], false, rfl, .inl ⟨by rw [H1.out]; rfl, rfl, rfl⟩, OwnedS.nil _ _, HB1.out⟩
  · rw [h1] at HPV
    have H1 := Frame.hid h1
    by_cases h3 : d ≤ 2
    · obtain ⟨e0, hde, he0, hl, -⟩ := patB_yes h1
      obtain ⟨e, hee⟩ : ∃ e, e = e0 + 1 := ⟨_, rfl⟩
      rw [← hee] at hde
      subst hde
      obtain ⟨bk, off, rfl, -, -⟩ := hr.h (by rw [hl]; exact Nat.lt_of_le_of_lt (Nat.zero_le _) (crd_at (d := e0 + 1) (i := 0) (j := 0) (by omega) (by omega)).2)
      refine (specRaisePatch_yes bk off c n xs hxn e (by omega) (by rw [hxn, hl, hee]) h1 w hr).mono ?_
      rintro e' w' ⟨v, q, rfl, hq, hO, hB⟩
      refine ⟨v, _, _, rfl, .inr ⟨by rw [h1]; simp; omega, e, q, rfl, by omega, hq, rfl, rfl⟩, hO, hB⟩
    · have h3' : (2 : Int) < d := by omega
      have H3 := Frame.hid h3
      clear h1 hxn hr
      go_enter Try.func52, Try.ntmps52
      go_wp2_with fail
      refine HPV.out.mono ?_
      rintro e1 w1 ⟨rfl, hB1⟩
      have HB1 := Frame.hid hB1
      clear hB1
      go_wp2_with fail
      go_ret2
      exact ⟨.slice none 0 0, [], false, rfl, .inl ⟨by simp [H3.out], rfl, rfl⟩, OwnedS.nil _ _, HB1.out⟩

theorem rp_fix (xs : List (Nat × Nat × Nat)) (d : Int) : ∃ (K : Bool) (N : Nat), N ≤ 10 ∧ ∀ zs ok, RpO d xs zs ok → ok = K ∧ zs.length = N := by
  by_cases h : ∃ zs ok, RpO d xs zs ok
  · obtain ⟨zs, ok, h⟩ := h
    refine ⟨ok, zs.length, h.len, fun ys ok' g => ?_⟩
    obtain ⟨h1, h2⟩ := RpO.same g h
    exact ⟨h2, h1.l⟩
  · exact ⟨false, 0, by omega, fun ys ok g => absurd ⟨ys, ok, g⟩ h⟩
/-- What a call of RaisePatch hands out, its length and success decided. -/
def OutR (xs : List (Nat × Nat × Nat)) (d : Int) (K : Bool) (N : Nat) (W : World) (e : Ending) (w' : World) : Prop :=
  ∃ Z A c, Z.length = N ∧ RpO d xs Z K ∧ e = .returned (.tuple #[.slice A N c, .bool K]) ∧ RdS w' A Z ∧ OwS w' W.heap.size (.slice A N c) N ∧ Below W.heap.size W w'
theorem outR {xs : List (Nat × Nat × Nat)} {d : Int} {K : Bool} {N : Nat} {W w' : World} {e : Ending} (hf : ∀ zs ok, RpO d xs zs ok → ok = K ∧ zs.length = N) (h : ∃ v l ok, e = .returned (.tuple #[v, .bool ok]) ∧ RpO d xs l ok ∧ OwnedS w' W.heap.size v l ∧ Below W.heap.size W w') : OutR xs d K N W e w' := by
  obtain ⟨v, l, ok, rfl, hT, hO, hB⟩ := h
  obtain ⟨rfl, hN⟩ := hf _ _ hT
  subst hN
  obtain ⟨A', c', rfl, hR⟩ := hO.rd
  exact ⟨l, A', c', rfl, hT, rfl, hR, OwS.of hO, hB⟩

set_option maxRecDepth 100000 in
set_option maxHeartbeats 8000000 in
theorem fnExactRaisePatch_walk (A : Option Addr) (xs : List (Nat × Nat × Nat)) (c : Nat) (hl : xs.length ≤ maxLen) (d : Int) (w : World) (hr : RdS w A xs) : Calls Try.prog 14 #[.slice A xs.length c, .int .i64 d] w fun e w' => e = .returned (.bool true) ∧ Below w.heap.size w w' := by
  obtain ⟨n, hxn⟩ : ∃ n, n = xs.length := ⟨_, rfl⟩
  rw [← hxn] at hl ⊢
  by_cases hbig : 1048576 < n
  · clear hxn hr
    go_enter Try.func14, Try.ntmps14
    go_wp2_with (go_at_call 47; refine (szSpotS_calls _ _ _ (by unfold maxLen at hl; omega) _).mono ?_; rintro e w' ⟨rfl, rfl⟩; rw [if_pos hbig])
    go_ret
    exact ⟨rfl, by (apply bel_of; (repeat (first | apply below_dn | apply below_al)); exact below_st _)⟩
  · have hn : n ≤ 1048576 := by omega
    obtain ⟨K, N, hN4, hfix⟩ := rp_fix xs d
    have HCS := Frame.hid (fun W gT (h : RdS W (some ⟨gT, 0, none⟩) xs) => (specRaisePatch_calls (some ⟨gT, 0, none⟩) n n xs hxn hn d W h).mono fun e w' h => outR hfix h)
    have HCI := Frame.hid (fun W gT (h : RdS W (some ⟨gT, 0, none⟩) xs) => (raisePatch_calls (some ⟨gT, 0, none⟩) n n xs hxn hn d W h).mono fun e w' h => outR hfix h)
    have HTW := Frame.hid (fun W (hW : Below w.heap.size w W) => by have h := toSpotSO_calls A xs c W (by omega) (hr.below hW); rw [← hxn] at h; exact h : ∀ W, Below w.heap.size w W → Calls Try.prog 49 #[.slice A n c] W fun e w' => ∃ g, e = .returned (.slice (some ⟨g, 0, none⟩) n n) ∧ RdS w' (some ⟨g, 0, none⟩) xs ∧ Below W.heap.size W w' ∧ W.heap.size ≤ g ∧ OwS w' W.heap.size (.slice (some ⟨g, 0, none⟩) n n) n)
    have HX := Frame.hid hxn
    clear hfix hxn hr hl
    go_enter Try.func14, Try.ntmps14
    go_wp2_with (go_at_call 47; refine (szSpotS_calls _ _ _ (by omega) _).mono ?_; rintro e w' ⟨rfl, rfl⟩; rw [if_neg hbig])
    refine (HTW.out _ (Below.refl _ _)).mono ?_
    rintro e w1 ⟨g1, rfl, hC1, hB1, -, -⟩
    have HB1 := Frame.hid hB1
    have HC1 := Frame.hid hC1
    clear hB1 hC1
    go_wp2_with fail
    refine (HCS.out w1 g1 HC1.out).mono ?_
    rintro e w2 ⟨Z1, A1, c1, hZ, hT, rfl, hR, -, hB⟩
    have HT1 := Frame.hid hT
    have HR2 := Frame.hid hR
    have HW2 := Frame.hid (HB1.out.trans (hB.mono HB1.out.size))
    clear hT hZ hR hB
    go_wp2_with fail
    refine (HTW.out _ HW2.out).mono ?_
    rintro e w3 ⟨gs, rfl, hRT, hB3, hgs, hOT⟩
    have HB3 := Frame.hid hB3
    have HRT3 := Frame.hid hRT
    have HOT3 := Frame.hid hOT
    have hgs3 : gs < w3.heap.size := by
      rcases hOT.h with ⟨h1, _⟩ | ⟨g', cap', cs, hv, _, hh, _⟩
      · cases h1
      · injection hv with hv _ _
        injection hv with hv
        injection hv with hv
        rw [hv]
        exact (Array.getElem?_eq_some_iff.1 hh).1
    clear hB3 hRT hOT
    go_wp2_with fail
    refine (HCI.out w3 gs HRT3.out).mono ?_
    rintro e w5 ⟨Z2, A', c', hZ2, hT2, rfl, hR5, hO5, hB5⟩
    have HLS2 := Frame.hid (RpO.same hT2 HT1.out).1
    have HZ2 : Hid (N = Z2.length) := Frame.hid hZ2.symm
    have HB45 := Frame.hid hB5
    have HR5 := Frame.hid hR5
    have HO5 := Frame.hid hO5
    have HB25 := Frame.hid (HB3.out.trans (hB5.mono HB3.out.size))
    have hs45 : w3.heap.size ≤ w5.heap.size := hB5.size
    clear hT2 hZ2 hR5 hO5 hB5
    go_wp2_with fail
    refine (eqSpotS_calls A' A1 Z2 Z1 c' c1 N HZ2.out w5 (by omega) HR5.out (HR2.out.below HB25.out) HLS2.out).mono ?_
    rintro e w6 ⟨rfl, hB6⟩
    have HB26 := Frame.hid (HB25.out.trans (hB6.mono HB25.out.size))
    have HB46 := Frame.hid (HB45.out.trans (hB6.mono hs45))
    have hs46 : w3.heap.size ≤ w6.heap.size := HB46.out.size
    have HR6 := Frame.hid (HR5.out.below hB6)
    have HO6 := Frame.hid (HO5.out.below hB6)
    have HRT6 := Frame.hid (HRT3.out.below HB46.out)
    have HW6 := Frame.hid (HW2.out.trans (HB26.out.mono HW2.out.size))
    clear hB6
    go_wp2_with fail
    refine (HTW.out _ HW6.out).mono ?_
    rintro e w6b ⟨g6, rfl, hC6, hB6b, -, -⟩
    go_wp2_with fail
    refine (eqSpotS_calls (some ⟨gs, 0, none⟩) (some ⟨g6, 0, none⟩) xs xs n n n HX.out w6b hn (HRT6.out.below hB6b) hC6 (LS.refl _)).mono ?_
    rintro e w7 ⟨rfl, hB7⟩
    have hB67 := hB6b.trans (hB7.mono hB6b.size)
    have HB27 := Frame.hid (HB26.out.trans (hB67.mono HB26.out.size))
    have HB47 := Frame.hid (HB46.out.trans (hB67.mono hs46))
    have HR7 := Frame.hid (HR6.out.below hB67)
    have HO7 := Frame.hid (HO6.out.below hB67)
    have HOT7 := Frame.hid (HOT3.out.below HB47.out)
    have hs47 : w3.heap.size ≤ w7.heap.size := HB47.out.size
    have hq1 : ¬ ((1 : Int) + 3 * (n : Int) < 0) := by omega
    have hq2 : ¬ ((1 : Int) + 3 * (N : Int) < 0) := by omega
    clear hC6 hB6b hB7 hB67
    go_wp2_with fail
    refine (markSpotSW_calls w2.heap.size n (.slice (some ⟨gs, 0, none⟩) n n) hn w7 HOT7.out).mono ?_
    rintro e w8 ⟨rfl, -, hB8, hF8⟩
    have hF8' : ∀ k, k < w7.heap.size → k ≠ gs → w8.heap[k]? = w7.heap[k]? := fun k hk hne => hF8 k (by intro e; injection e with e; exact hne e.symm)
    have HB28 := Frame.hid (HB27.out.trans hB8)
    have hs78 : w7.heap.size ≤ w8.heap.size := hB8.size
    have HR8 := Frame.hid (HR7.out.other (HO7.out.apart hgs3) hF8' hs78)
    have HO8 := Frame.hid (HO7.out.other (HO7.out.apart hgs3) hF8')
    clear hB8 hF8 hF8'
    go_wp2_with fail
    refine (eqSpotS_calls A' A1 Z2 Z1 c' c1 N HZ2.out w8 (by omega) HR8.out (HR2.out.below HB28.out) HLS2.out).mono ?_
    rintro e w9 ⟨rfl, hB9⟩
    have HB29 := Frame.hid (HB28.out.trans (hB9.mono HB28.out.size))
    have HO9 := Frame.hid (HO8.out.below hB9)
    clear hB9
    go_wp2_with fail
    refine (markSpotS_calls w3.heap.size N (.slice A' N c') (by omega) w9 HO9.out).mono ?_
    rintro e w10 ⟨rfl, hM10, hB10, hF10⟩
    have HB210 := Frame.hid (HB29.out.trans (hB10.mono HB3.out.size))
    have HM10 := Frame.hid hM10
    clear hM10 hB10 hF10
    go_wp2_with fail
    refine (heldSpotS_calls w3.heap.size N (.slice A' N c') (by omega) w10 HM10.out).mono ?_
    rintro e w11 ⟨rfl, rfl⟩
    have HW11 := Frame.hid (HW2.out.trans (HB210.out.mono HW2.out.size))
    go_wp2_with fail
    refine (HTW.out _ HW11.out).mono ?_
    rintro e w12 ⟨g12, rfl, hC12, hB12, -, -⟩
    have HC12 := Frame.hid hC12
    have HB12 := Frame.hid (HB210.out.trans (hB12.mono HB210.out.size))
    have HM12 := Frame.hid (HM10.out.below hB12)
    clear hC12 hB12
    go_wp2_with fail
    refine (HCI.out w12 g12 HC12.out).mono ?_
    rintro e w13 ⟨Z3, A3, c3, hZ3, hT3, rfl, hR13, -, hB13⟩
    have HLS3 := Frame.hid (RpO.same hT3 HT1.out).1
    have HZ3 : Hid (N = Z3.length) := Frame.hid hZ3.symm
    have HR13 := Frame.hid hR13
    have HB13 := Frame.hid (HB12.out.trans (hB13.mono HB12.out.size))
    have HM13 := Frame.hid (HM12.out.below hB13)
    clear hT3 hZ3 hR13 hB13
    go_wp2_with fail
    refine (eqSpotS_calls A3 A1 Z3 Z1 c3 c1 N HZ3.out w13 (by omega) HR13.out (HR2.out.below HB13.out) HLS3.out).mono ?_
    rintro e w14 ⟨rfl, hB14⟩
    have HM14 := Frame.hid (HM13.out.below hB14)
    have HB14 := Frame.hid (HB13.out.trans (hB14.mono HB13.out.size))
    clear hB14
    go_wp2_with fail
    refine (heldSpotS_calls w3.heap.size N (.slice A' N c') (by omega) w14 HM14.out).mono ?_
    rintro e w15 ⟨rfl, rfl⟩
    have HEND := Frame.hid (HW2.out.trans (HB14.out.mono HW2.out.size))
    go_wp2_with fail
    go_ret
    exact ⟨rfl, HEND.out⟩

end Go.Proofs.Ytnbgnaenlbphcaa
