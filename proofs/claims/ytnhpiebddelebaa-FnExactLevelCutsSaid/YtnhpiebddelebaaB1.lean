/-
  The law of LevelCuts, walked.
-/
import Derived.Test.YtnhpiebddelebaaA9
import Derived.Test.YtnhpiebddelebaaK7
import Derived.Test.YtnhpiebddelebaaKm
namespace Go.Proofs.Ytnhpiebddelebaa
open Go.RowKit Fl Go.WideShapes Go.Deep
attribute [local go_sem] kstore_f kalloc_drewN kset_drewN hstore_i hstore_s

/-- On which side of a plane a corner lies. -/
def Sg (a wy : Sp3) (lv : Nat) (s : Bool) : Prop := ∃ d g, DotR a.1 a.2.1 a.2.2 wy.1 wy.2.1 wy.2.2 d ∧ FOp .sub .f32 d lv g ∧ s = geW g
theorem Sg.one {a wy : Sp3} {lv : Nat} {s s' : Bool} (h : Sg a wy lv s) (g : Sg a wy lv s') : s = s' := by
  obtain ⟨d, u, h1, h2, rfl⟩ := h
  obtain ⟨D, U, g1, g2, rfl⟩ := g
  exact geW.same (FOp.same (DotR.same (S3.refl _ _ _) (S3.refl _ _ _) h1 g1) (FSame.refl _ _) h2 g2)
theorem SideR.sg {a b wy : Sp3} {lv : Nat} {o : List Sp3} (h : SideR a b wy lv o) : ∃ s s', Sg a wy lv s ∧ Sg b wy lv s' ∧ o.length = if s = s' then 0 else 1 := by
  obtain ⟨d, e, u, v, h1, h2, h3, h4, h5⟩ := h
  refine ⟨_, _, ⟨_, _, h1, h2, rfl⟩, ⟨_, _, h3, h4, rfl⟩, ?_⟩
  rcases h5 with ⟨hk, rfl⟩ | ⟨hk, l1, l2, l3, s, q, t1, t2, t3, p1, p2, p3, -, -, -, -, -, rfl⟩
  · rw [if_pos hk]; rfl
  · rw [if_neg hk]; rfl
theorem CutN.two {t : Nat → Sp3} {wy : Sp3} {lv : Nat} {l : List Sp3} (h : CutN t wy lv 3 l) : l.length ≤ 2 := by
  obtain ⟨l2, o3, ⟨l1, o2, ⟨l0, o1, h0, s1, rfl⟩, s2, rfl⟩, s3, rfl⟩ := h
  rw [show l0 = [] from h0]
  obtain ⟨a, b, ha, hb, e1⟩ := s1.sg
  obtain ⟨b', c, hb', hc, e2⟩ := s2.sg
  obtain ⟨c', a', hc', ha', e3⟩ := s3.sg
  obtain rfl := hb.one hb'
  obtain rfl := hc.one hc'
  obtain rfl := ha.one ha'
  simp only [List.length_append, List.length_nil, e1, e2, e3]
  cases a <;> cases b <;> cases c <;> decide
theorem CutA.two {xs : List Sp3} {m k : Nat} {wy : Sp3} {lv : Nat} : ∀ {t : Nat} {l : List Sp3}, CutA xs m k wy lv t l → l.length ≤ 2 * t
  | 0, _, h => by rw [show _ = _ from h]; simp
  | _ + 1, _, ⟨_, _, h1, h2, h3⟩ => by rw [h3, List.length_append]; have := CutA.two h1; have := h2.two; omega
theorem LcO.len {xs : List Sp3} {m k : Int} {wy : Sp3} {lv : Nat} {l : List Sp3} {ok : Bool} (h : LcO xs m k wy lv l ok) : l.length ≤ 576 := by
  rcases h with ⟨-, rfl, -⟩ | ⟨hb, a, b, rfl, rfl, q, hq, -, rfl⟩
  · simp
  · split
    · simp only [Bool.and_eq_true] at hb
      obtain ⟨c, d, hc, hd, hc2, hd2, -⟩ := tlB_yes hb.1.1
      have h1 := hq.two
      have h2 : a * b ≤ 12 * 12 := Nat.mul_le_mul (by omega) (by omega)
      omega
    · simp
theorem lc_fix (xs : List Sp3) (m k : Int) (wy : Sp3) (lv : Nat) : ∃ (K : Bool) (N : Nat), N ≤ 576 ∧ ∀ zs ok, LcO xs m k wy lv zs ok → ok = K ∧ zs.length = N := by
  by_cases h : ∃ zs ok, LcO xs m k wy lv zs ok
  · obtain ⟨zs, ok, h⟩ := h
    refine ⟨ok, zs.length, h.len, fun ys ok' g => ?_⟩
    obtain ⟨h1, h2⟩ := LcO.same g h
    exact ⟨h2, h1.l⟩
  · exact ⟨false, 0, by omega, fun ys ok g => absurd ⟨ys, ok, g⟩ h⟩
/-- What a call of LevelCuts hands out, its length and success decided. -/
def OutC (xs : List Sp3) (m k : Int) (wy : Sp3) (lv : Nat) (K : Bool) (N : Nat) (W : World) (e : Ending) (w' : World) : Prop :=
  ∃ Z A c, Z.length = N ∧ LcO xs m k wy lv Z K ∧ e = .returned (.tuple #[.slice A N c, .bool K]) ∧ RdS w' A Z ∧ OwS w' W.heap.size (.slice A N c) N ∧ Below W.heap.size W w'
theorem outC {xs : List Sp3} {m k : Int} {wy : Sp3} {lv : Nat} {K : Bool} {N : Nat} {W w' : World} {e : Ending} (hf : ∀ zs ok, LcO xs m k wy lv zs ok → ok = K ∧ zs.length = N) (h : ∃ v l ok, e = .returned (.tuple #[v, .bool ok]) ∧ LcO xs m k wy lv l ok ∧ OwnedS w' W.heap.size v l ∧ Below W.heap.size W w') : OutC xs m k wy lv K N W e w' := by
  obtain ⟨v, l, ok, rfl, hT, hO, hB⟩ := h
  obtain ⟨rfl, hN⟩ := hf _ _ hT
  subst hN
  obtain ⟨A', c', rfl, hR⟩ := hO.rd
  exact ⟨l, A', c', rfl, hT, rfl, hR, OwS.of hO, hB⟩

set_option maxRecDepth 100000 in
set_option maxHeartbeats 8000000 in
theorem fnExactLevelCuts_walk (A : Option Addr) (xs : List (Nat × Nat × Nat)) (c : Nat) (hl : xs.length ≤ maxLen) (m k : Int) (wx wy wz lv : Nat) (w : World) (hr : RdS w A xs) : Calls Try.prog 8 #[.slice A xs.length c, .int .i64 m, .int .i64 k, .agg #[.float .f32 wx, .float .f32 wy, .float .f32 wz], .float .f32 lv] w fun e w' => e = .returned (.bool true) ∧ Below w.heap.size w w' := by
  obtain ⟨n, hxn⟩ : ∃ n, n = xs.length := ⟨_, rfl⟩
  rw [← hxn] at hl ⊢
  by_cases hbig : 1048576 < n
  · clear hxn hr
    go_enter Try.func8, Try.ntmps8
    go_wp2_with (go_at_call 29; refine (szSpotS_calls _ _ _ (by unfold maxLen at hl; omega) _).mono ?_; rintro e w' ⟨rfl, rfl⟩; rw [if_pos hbig])
    go_ret
    exact ⟨rfl, by (apply bel_of; (repeat (first | apply below_dn | apply below_al)); exact below_st _)⟩
  · have hn : n ≤ 1048576 := by omega
    obtain ⟨K, N, hN4, hfix⟩ := lc_fix xs m k (wx, wy, wz) lv
    have hbx : Below w.heap.size w (w.alloc (.cells #[.float .f32 wx, .float .f32 wy, .float .f32 wz] 55)) := by (apply bel_of; (repeat (first | apply below_dn | apply below_al)); exact below_st _)
    have HCS := Frame.hid (fun W gT (h : RdS W (some ⟨gT, 0, none⟩) xs) => (specLevelCuts_calls (some ⟨gT, 0, none⟩) xs n n hxn hn m k wx wy wz lv W h).mono fun e w' h => outC hfix h)
    have HCI := Frame.hid (fun W gT (h : RdS W (some ⟨gT, 0, none⟩) xs) => (levelCuts_calls (some ⟨gT, 0, none⟩) xs n n hxn hn m k wx wy wz lv W h).mono fun e w' h => outC hfix h)
    have HTW := Frame.hid (fun W (hW : Below w.heap.size w W) => by have h := toSpotSO_calls A xs c W (by omega) (hr.below hW); rw [← hxn] at h; exact h : ∀ W, Below w.heap.size w W → Calls Try.prog 31 #[.slice A n c] W fun e w' => ∃ g, e = .returned (.slice (some ⟨g, 0, none⟩) n n) ∧ RdS w' (some ⟨g, 0, none⟩) xs ∧ Below W.heap.size W w' ∧ W.heap.size ≤ g ∧ OwS w' W.heap.size (.slice (some ⟨g, 0, none⟩) n n) n)
    have HTS := Frame.hid (fun W (h : SK (w.heap.size + 1) (w.alloc (.cells #[.float .f32 wx, .float .f32 wy, .float .f32 wz] 55)) [((⟨w.heap.size, 0, none⟩ : Addr), Value.float .f32 wx), ((⟨w.heap.size, 1, none⟩ : Addr), Value.float .f32 wy), ((⟨w.heap.size, 2, none⟩ : Addr), Value.float .f32 wz)] W) => HTW.out W (hbx.trans (h.m.mono (by omega))))
    have hST : SK (w.heap.size + 1) (w.alloc (.cells #[.float .f32 wx, .float .f32 wy, .float .f32 wz] 55)) [((⟨w.heap.size, 0, none⟩ : Addr), Value.float .f32 wx), ((⟨w.heap.size, 1, none⟩ : Addr), Value.float .f32 wy), ((⟨w.heap.size, 2, none⟩ : Addr), Value.float .f32 wz)] (w.alloc (.cells #[.float .f32 wx, .float .f32 wy, .float .f32 wz] 55)) := SK.start (by simp) (by intro p hp; simp at hp; rcases hp with rfl | rfl | rfl <;> simp [go_sem]) (by intro p hp; simp at hp; rcases hp with rfl | rfl | rfl <;> (simp; try omega))
    have HBX := Frame.hid hbx
    have HX := Frame.hid hxn
    clear hfix hxn hr hl hbx
    go_enter Try.func8, Try.ntmps8
    go_wp2_with (go_at_call 29; refine (szSpotS_calls _ _ _ (by omega) _).mono ?_; rintro e w' ⟨rfl, rfl⟩; rw [if_neg hbig])
    go_region_held3 (fun W => W.cell? ⟨w.heap.size, 0, none⟩ = some (.float .f32 wx) ∧ W.cell? ⟨w.heap.size, 1, none⟩ = some (.float .f32 wy) ∧ W.cell? ⟨w.heap.size, 2, none⟩ = some (.float .f32 wz) ∧ w.heap.size + 1 ≤ W.heap.size ∧ SK (w.heap.size + 1) (w.alloc (.cells #[.float .f32 wx, .float .f32 wy, .float .f32 wz] 55)) [((⟨w.heap.size, 0, none⟩ : Addr), Value.float .f32 wx), ((⟨w.heap.size, 1, none⟩ : Addr), Value.float .f32 wy), ((⟨w.heap.size, 2, none⟩ : Addr), Value.float .f32 wz)] W) ((refine SK_all3 ?_; (repeat' first | with_reducible assumption | exact SK_of3 (by with_reducible assumption) | exact hST | apply SK.drew | apply SK.drewN | apply SK.alloc | (refine SK.call ?_ (by with_reducible assumption)) | (refine SK.set ?_ _ _ _ (by omega)))))
      (first | (go_at_call 31; refine (HTS.out _ ?_).mono ?_; (· (repeat' first | with_reducible assumption | exact SK_of3 (by with_reducible assumption) | exact hST | apply SK.drew | apply SK.drewN | apply SK.alloc | (refine SK.call ?_ (by with_reducible assumption)) | (refine SK.set ?_ _ _ _ (by omega)))); rintro e w' ⟨g, rfl, hCp, hB, hg, hOw⟩) | (go_at_call 35; refine (toSpot_calls _ _ _ _).mono ?_; rintro e w' ⟨rfl, hB⟩) | (go_at_call 34; refine (HCS.out _ g ?_).mono ?_; (· (first | exact hCp | exact hCp.below (by with_reducible assumption))); rintro e w' ⟨Z1, A1, c1, hZ, hT, rfl, hR, hOx, hB⟩))
    have hSK : SK (w.heap.size + 1) (w.alloc (.cells #[.float .f32 wx, .float .f32 wy, .float .f32 wz] 55)) [((⟨w.heap.size, 0, none⟩ : Addr), Value.float .f32 wx), ((⟨w.heap.size, 1, none⟩ : Addr), Value.float .f32 wy), ((⟨w.heap.size, 2, none⟩ : Addr), Value.float .f32 wz)] _ := SK_of3 (by with_reducible assumption)
    have HT1 := Frame.hid hT
    obtain ⟨w2, hw2⟩ : ∃ w2, w2 = w' := ⟨_, rfl⟩
    subst hw2
    have HR2 := Frame.hid hR
    have HK2 := Frame.hid hSK
    clear hT hZ hR hOx hSK hST
    go_wp2_with fail
    refine (HTS.out _ HK2.out).mono ?_
    rintro e w3 ⟨gs, rfl, hRT, hB3, hgs, hOT⟩
    have HK3 := Frame.hid (HK2.out.call hB3)
    have HB3 := Frame.hid hB3
    have HRT3 := Frame.hid hRT
    have HOT3 := Frame.hid hOT
    have hgs3 : gs < w3.heap.size := by
      rcases hOT.h with ⟨h1, _⟩ | ⟨g', cap', cs, hv, _, hh, _⟩
      · cases h1
      · injection hv with hv _ _
        injection hv with hv
        injection hv with hv
        rw [hv]
        exact (Array.getElem?_eq_some_iff.1 hh).1
    obtain ⟨a0, a1, a2, -, -⟩ := SK_all3 HK3.out
    clear hB3 hRT hOT
    go_wp2_with (go_at_call 35; refine (toSpot_calls _ _ _ _).mono ?_; rintro e w4 ⟨rfl, hB4⟩; have HB4 := Frame.hid hB4; clear hB4 a0 a1 a2)
    have hs34 := HB4.out.size
    have HRT4 := Frame.hid (HRT3.out.below HB4.out)
    have HOT4 := Frame.hid (HOT3.out.below HB4.out)
    have HK4 := Frame.hid (HK3.out.call HB4.out)
    have HB24 := Frame.hid (HB3.out.trans (HB4.out.mono HB3.out.size))
    refine (HCI.out w4 gs HRT4.out).mono ?_
    rintro e w5 ⟨Z2, A', c', hZ2, hT2, rfl, hR5, hO5, hB5⟩
    have HLS2 := Frame.hid (LcO.same hT2 HT1.out).1
    have HZ2 : Hid (N = Z2.length) := Frame.hid hZ2.symm
    have HB45 := Frame.hid hB5
    have HR5 := Frame.hid hR5
    have HO5 := Frame.hid hO5
    have HB25 := Frame.hid (HB24.out.trans (hB5.mono HB24.out.size))
    have HK5 := Frame.hid (HK4.out.call hB5)
    have hs45 : w4.heap.size ≤ w5.heap.size := hB5.size
    clear hT2 hZ2 hR5 hO5 hB5
    go_wp2_with fail
    refine (eqSpotS_calls A' A1 Z2 Z1 c' c1 N HZ2.out w5 (by omega) HR5.out (HR2.out.below HB25.out) HLS2.out).mono ?_
    rintro e w6 ⟨rfl, hB6⟩
    have HB26 := Frame.hid (HB25.out.trans (hB6.mono HB25.out.size))
    have HB46 := Frame.hid (HB45.out.trans (hB6.mono hs45))
    have hs46 : w4.heap.size ≤ w6.heap.size := HB46.out.size
    have HR6 := Frame.hid (HR5.out.below hB6)
    have HO6 := Frame.hid (HO5.out.below hB6)
    have HK6 := Frame.hid (HK5.out.call hB6)
    have HRT6 := Frame.hid (HRT4.out.below HB46.out)
    clear hB6
    go_wp2_with fail
    refine (HTS.out _ HK6.out).mono ?_
    rintro e w6b ⟨g6, rfl, hC6, hB6b, -, -⟩
    go_wp2_with fail
    refine (eqSpotS_calls (some ⟨gs, 0, none⟩) (some ⟨g6, 0, none⟩) xs xs n n n HX.out w6b hn (HRT6.out.below hB6b) hC6 (LS.refl _)).mono ?_
    rintro e w7 ⟨rfl, hB7⟩
    have hB67 := hB6b.trans (hB7.mono hB6b.size)
    have HB27 := Frame.hid (HB26.out.trans (hB67.mono HB26.out.size))
    have HB47 := Frame.hid (HB46.out.trans (hB67.mono hs46))
    have HR7 := Frame.hid (HR6.out.below hB67)
    have HO7 := Frame.hid (HO6.out.below hB67)
    have HK7 := Frame.hid (HK6.out.call hB67)
    have HOT7 := Frame.hid (HOT4.out.below HB47.out)
    have hs47 : w4.heap.size ≤ w7.heap.size := HB47.out.size
    have hgs4 : gs < w4.heap.size := by omega
    have hq1 : ¬ ((1 : Int) + 3 * (n : Int) < 0) := by omega
    have hq2 : ¬ ((1 : Int) + 3 * (N : Int) < 0) := by omega
    clear hC6 hB6b hB7 hB67
    go_wp2_with fail
    refine (markSpotSW_calls w2.heap.size n (.slice (some ⟨gs, 0, none⟩) n n) hn w7 HOT7.out).mono ?_
    rintro e w8 ⟨rfl, -, hB8, hF8⟩
    have hF8' : ∀ k, k < w7.heap.size → k ≠ gs → w8.heap[k]? = w7.heap[k]? := fun k hk hne => hF8 k (by intro e; injection e with e; exact hne e.symm)
    have HB28 := Frame.hid (HB27.out.trans hB8)
    have hs78 : w7.heap.size ≤ w8.heap.size := hB8.size
    have HR8 := Frame.hid (HR7.out.other (HO7.out.apart hgs4) hF8' hs78)
    have HO8 := Frame.hid (HO7.out.other (HO7.out.apart hgs4) hF8')
    have hs12 : w.heap.size + 1 ≤ w2.heap.size := HK2.out.s
    have HK8 := Frame.hid (HK7.out.below (hB8.mono hs12))
    clear hB8 hF8 hF8'
    go_wp2_with fail
    refine (eqSpotS_calls A' A1 Z2 Z1 c' c1 N HZ2.out w8 (by omega) HR8.out (HR2.out.below HB28.out) HLS2.out).mono ?_
    rintro e w9 ⟨rfl, hB9⟩
    have HB29 := Frame.hid (HB28.out.trans (hB9.mono HB28.out.size))
    have hs49 : w4.heap.size ≤ w9.heap.size := Nat.le_trans hs47 (Nat.le_trans hs78 hB9.size)
    have HO9 := Frame.hid (HO8.out.below hB9)
    have HK9 := Frame.hid (HK8.out.call hB9)
    clear hB9
    go_wp2_with fail
    refine (markSpotS_calls w4.heap.size N (.slice A' N c') (by omega) w9 HO9.out).mono ?_
    rintro e w10 ⟨rfl, hM10, hB10, hF10⟩
    have HB210 := Frame.hid (HB29.out.trans (hB10.mono HB24.out.size))
    have HM10 := Frame.hid hM10
    have HK10 := Frame.hid (HK9.out.below (hB10.mono (by have := HB24.out.size; omega)))
    clear hM10 hB10 hF10
    go_wp2_with fail
    refine (heldSpotS_calls w4.heap.size N (.slice A' N c') (by omega) w10 HM10.out).mono ?_
    rintro e w11 ⟨rfl, rfl⟩
    obtain ⟨a0, a1, a2, hs11, -⟩ := SK_all3 HK10.out
    have HW11 := Frame.hid (HBX.out.trans (HK10.out.m.mono (by omega)))
    have HTS11 := Frame.hid (fun W (h : SK w11.heap.size w11 [((⟨w.heap.size, 0, none⟩ : Addr), Value.float .f32 wx), ((⟨w.heap.size, 1, none⟩ : Addr), Value.float .f32 wy), ((⟨w.heap.size, 2, none⟩ : Addr), Value.float .f32 wz)] W) => HTW.out W (HW11.out.trans (h.m.mono HW11.out.size)))
    have hST : SK w11.heap.size w11 [((⟨w.heap.size, 0, none⟩ : Addr), Value.float .f32 wx), ((⟨w.heap.size, 1, none⟩ : Addr), Value.float .f32 wy), ((⟨w.heap.size, 2, none⟩ : Addr), Value.float .f32 wz)] w11 := SK.start (Nat.le_refl _) (by intro p hp; simp at hp; rcases hp with rfl | rfl | rfl <;> assumption) (by intro p hp; simp at hp; rcases hp with rfl | rfl | rfl <;> (simp; omega))
    clear a0 a1 a2
    go_wp2_with fail
    go_region_held3 (fun W => W.cell? ⟨w.heap.size, 0, none⟩ = some (.float .f32 wx) ∧ W.cell? ⟨w.heap.size, 1, none⟩ = some (.float .f32 wy) ∧ W.cell? ⟨w.heap.size, 2, none⟩ = some (.float .f32 wz) ∧ w11.heap.size ≤ W.heap.size ∧ SK w11.heap.size w11 [((⟨w.heap.size, 0, none⟩ : Addr), Value.float .f32 wx), ((⟨w.heap.size, 1, none⟩ : Addr), Value.float .f32 wy), ((⟨w.heap.size, 2, none⟩ : Addr), Value.float .f32 wz)] W) ((refine SK_all3 ?_; (repeat' first | with_reducible assumption | exact SK_of3 (by with_reducible assumption) | exact hST | apply SK.drew | apply SK.drewN | apply SK.alloc | (refine SK.call ?_ (by with_reducible assumption)) | (refine SK.set ?_ _ _ _ (by omega)))))
      (first | (go_at_call 31; refine (HTS11.out _ ?_).mono ?_; (· (repeat' first | with_reducible assumption | exact SK_of3 (by with_reducible assumption) | exact hST | apply SK.drew | apply SK.drewN | apply SK.alloc | (refine SK.call ?_ (by with_reducible assumption)) | (refine SK.set ?_ _ _ _ (by omega)))); rintro e w' ⟨g, rfl, hCp, hB, hg, hOw⟩) | (go_at_call 35; refine (toSpot_calls _ _ _ _).mono ?_; rintro e w' ⟨rfl, hB⟩) | (go_at_call 36; refine (HCI.out _ g ?_).mono ?_; (· (first | exact hCp | exact hCp.below (by with_reducible assumption))); rintro e w' ⟨Z3, A3, c3, hZ, hT, rfl, hR, hOx, hB⟩))
    have hSK2 : SK w11.heap.size w11 [((⟨w.heap.size, 0, none⟩ : Addr), Value.float .f32 wx), ((⟨w.heap.size, 1, none⟩ : Addr), Value.float .f32 wy), ((⟨w.heap.size, 2, none⟩ : Addr), Value.float .f32 wz)] _ := SK_of3 (by with_reducible assumption)
    have HLS3 := Frame.hid (LcO.same hT HT1.out).1
    have HZ3 : Hid (N = Z3.length) := Frame.hid hZ.symm
    obtain ⟨w12, hw12⟩ : ∃ w12, w12 = w' := ⟨_, rfl⟩
    subst hw12
    have HB112 := Frame.hid hSK2.m
    have HB212 := Frame.hid (HB210.out.trans (hSK2.m.mono HB210.out.size))
    have HM12 := Frame.hid (HM10.out.below hSK2.m)
    have HR12 := Frame.hid hR
    clear hT hZ hR hOx hSK2 hST
    go_wp2_with fail
    refine (eqSpotS_calls A3 A1 Z3 Z1 c3 c1 N HZ3.out w12 (by omega) HR12.out (HR2.out.below HB212.out) HLS3.out).mono ?_
    rintro e w13 ⟨rfl, hB13⟩
    have HM13 := Frame.hid (HM12.out.below hB13)
    have HB113 := Frame.hid (HB112.out.trans (hB13.mono HB112.out.size))
    clear hB13
    go_wp2_with fail
    refine (heldSpotS_calls w4.heap.size N (.slice A' N c') (by omega) w13 HM13.out).mono ?_
    rintro e w14 ⟨rfl, rfl⟩
    have HEND := Frame.hid (HW11.out.trans (HB113.out.mono HW11.out.size))
    go_wp2_with fail
    go_ret
    exact ⟨rfl, HEND.out⟩

end Go.Proofs.Ytnhpiebddelebaa
