/-
  BoxOfSpots: the program's side.
-/
import Derived.Test.YtbikiihcbocojaaKr
namespace Go.Proofs.Ytbikiihcbocojaa
open Go.RowKit Fl Go.WideShapes Go.Deep
attribute [local go_sem] kstore_f kalloc_drewN kset_drewN

theorem BoxI.turn {w wr : World} {g h a b c a' b' c' : Nat} (x : BoxI w wr g h a b c a' b' c') : BoxI w wr h g a' b' c' a b c :=
  ⟨x.r2, x.r3, x.hi, x.lo, x.f6, x.f5, x.h1, x.g1, fun e => x.ne e.symm, x.hl, x.gl, x.bel⟩
theorem BoxI.start' {w W : World} {x y z : Nat} (n2 : New W w.heap.size) (n3 : New W (w.heap.size + 1)) (hB : Below w.heap.size w W) (t : TypeId) :
    BoxI w ((W.alloc (.cells #[.float .f32 x, .float .f32 y, .float .f32 z] t)).alloc (.cells #[.float .f32 x, .float .f32 y, .float .f32 z] t)) (W.heap.size + 1) W.heap.size x y z x y z := (BoxI.start n2 n3 hB t).turn

set_option maxRecDepth 100000 in
set_option maxHeartbeats 4000000 in
theorem boxOfSpots_calls (A : Option Addr) (xs : List (Nat × Nat × Nat)) (cc : Nat) (w : World) (hn : xs.length ≤ 1048576) (hA : RdS w A xs) :
    Calls Try.prog 30 #[.slice A xs.length cc] w fun e w' => ∃ a b c a' b' c' ok, e = .returned (.tuple #[.agg #[.float .f32 a, .float .f32 b, .float .f32 c], .agg #[.float .f32 a', .float .f32 b', .float .f32 c'], .bool ok]) ∧ BoxR xs a b c a' b' c' ok ∧ Below w.heap.size w w' := by
  have hw0 : Below w.heap.size w ((w.alloc (.cells #[.float .f32 0, .float .f32 0, .float .f32 0] 35)).alloc (.cells #[.float .f32 0, .float .f32 0, .float .f32 0] 35)) := by (apply bel_of; (repeat (first | apply below_dn | apply below_al)); exact below_st _)
  have HC := Frame.hid (isList_calls A xs cc _ hn (hA.below hw0))
  have hR2 : New ((w.alloc (.cells #[.float .f32 0, .float .f32 0, .float .f32 0] 35)).alloc (.cells #[.float .f32 0, .float .f32 0, .float .f32 0] 35)) w.heap.size := (New.here w 35).go ((Below.refl _ _).alloc (Nat.le_refl _) _)
  have hR3 : New ((w.alloc (.cells #[.float .f32 0, .float .f32 0, .float .f32 0] 35)).alloc (.cells #[.float .f32 0, .float .f32 0, .float .f32 0] 35)) (w.heap.size + 1) := by
    have h := New.here (w.alloc (.cells #[.float .f32 0, .float .f32 0, .float .f32 0] 35)) 35
    rwa [World.size_alloc] at h
  have HR := Frame.hid (And.intro hR2 hR3)
  have HW := Frame.hid hw0
  clear hw0 hR2 hR3
  cases hl : listB xs
  · have HL := Frame.hid hl
    clear hl
    generalize xs.length = n at *
    go_enter Try.func30, Try.ntmps30
    go_wp2_with fail
    refine HC.out.mono ?_
    rintro e w1 ⟨rfl, hB⟩
    rw [HL.out]
    have n2 := HR.out.1.go hB
    have n3 := HR.out.2.go hB
    have a0 := n2.a.c0
    have a1 := n2.a.c1
    have a2 := n2.a.c2
    have b0 := n3.a.c0
    have b1 := n3.a.c1
    have b2 := n3.a.c2
    have nf := n2.f
    have mf := n3.f
    go_wp2_with fail
    obtain ⟨⟨e0, e1, e2⟩, ⟨e3, e4, e5⟩⟩ := two_res n2 n3 (by omega) 0 0 0 0 0 0
    refine bodyPost_ret (v := .tuple #[.agg #[.float .f32 0, .float .f32 0, .float .f32 0], .agg #[.float .f32 0, .float .f32 0, .float .f32 0], .bool false]) (by simp [results, Try.results30, go_sem, e0, e1, e2, e3, e4, e5]) rfl ⟨_, _, _, _, _, _, _, rfl, .inr ⟨HL.out, rfl, rfl, rfl, rfl, rfl, rfl, rfl⟩, ?_⟩
    exact two_below (HW.out.trans (hB.mono HW.out.size)) (Nat.le_refl _) (by omega) _ _ _ _ _ _
  · have HL := Frame.hid hl
    obtain ⟨h1, h2⟩ : 1 ≤ xs.length ∧ xs.length ≤ 256 := by unfold listB at hl; simp at hl; omega
    obtain ⟨b, off, rfl, hb, hc⟩ := hA.h (by omega)
    have HCC := Frame.hid hc
    obtain ⟨n, hxn⟩ : ∃ n, n = xs.length := ⟨_, rfl⟩
    have HX := Frame.hid hxn
    rw [← hxn] at HC h1 h2 hn ⊢
    clear hl hA hc hxn
    go_enter Try.func30, Try.ntmps30
    go_wp2_with fail
    refine HC.out.mono ?_
    rintro e w1 ⟨rfl, hB⟩
    rw [HL.out]
    have n2 := HR.out.1.go hB
    have n3 := HR.out.2.go hB
    have hBw := HW.out.trans (hB.mono HW.out.size)
    have q0 := (HCC.out 0 (by have := HX.out; omega)).keep hBw hb
    have c0 := q0.c0
    have c1 := q0.c1
    have c2 := q0.c2
    rw [Nat.zero_mul, Nat.add_zero] at c0 c1 c2
    have HN := Frame.hid (And.intro n2 n3)
    have HBW := Frame.hid hBw
    have HS1 := Frame.hid hB.size
    obtain ⟨x, hx⟩ : ∃ x, x = sx xs 0 := ⟨_, rfl⟩
    obtain ⟨y, hy⟩ : ∃ y, y = sy xs 0 := ⟨_, rfl⟩
    obtain ⟨z, hz⟩ : ∃ z, z = sz xs 0 := ⟨_, rfl⟩
    rw [← hx] at c0
    rw [← hy] at c1
    rw [← hz] at c2
    have HXYZ := Frame.hid (And.intro hx (And.intro hy hz))
    have hbl : b < w1.heap.size := Nat.lt_of_lt_of_le hb hBw.size
    clear n2 n3 hBw hB q0 hx hy hz
    go_wp2_with fail
    go_cut [5, 6] (fun s5 s6 wx => ∃ g h, s5 = .pointer (some ⟨g, 0, none⟩) ∧ s6 = .pointer (some ⟨h, 0, none⟩) ∧ BoxI w wx g h x y z x y z)
    case first =>
      go_region
      all_goals
        go_wp2_with fail
        go_meet
        first
          | exact ⟨_, _, rfl, rfl, (BoxI.start HN.out.1 HN.out.2 HBW.out 35).go (Below.refl _ _).drew⟩
          | exact ⟨_, _, rfl, rfl, (BoxI.start' HN.out.1 HN.out.2 HBW.out 35).go (Below.refl _ _).drew⟩
    case rest =>
      obtain ⟨g, h, rfl, rfl, hI⟩ := hcut
      have HI := Frame.hid hI
      clear hI c0 c1 c2
      generalize wc = w2 at HI ⊢
      go_wp2_with fail
      go_loopw [22] (fun i wr => ∃ k : Nat, k ≤ n ∧ i = .int .i64 (k : Int) ∧ BoxI w wr g h (lowT (sx xs) k) (lowT (sy xs) k) (lowT (sz xs) k) (highT (sx xs) k) (highT (sy xs) k) (highT (sz xs) k)) (fun i _ => n - (intOf i).toNat)
      case atStart =>
        obtain ⟨rfl, rfl, rfl⟩ := HXYZ.out
        exact ⟨0, by omega, rfl, HI.out⟩
      case round =>
        obtain ⟨k, hk, rfl, hI⟩ := hrel
        clear HI HXYZ HN HBW HS1
        by_cases hlt : k < n
        · have q0 := (HCC.out k (by have := HX.out; omega)).keep hI.bel hb
          have c0 := q0.c0
          have c1 := q0.c1
          have c2 := q0.c2
          have HST : Hid (∀ f : Nat → Nat, lowT f (k + 1) = selL (lowT f k) (f k) ∧ highT f (k + 1) = selG (highT f k) (f k)) := Frame.hid (fun f => ⟨rfl, rfl⟩)
          have s1 := (HST.out (sx xs)).1
          have s2 := (HST.out (sy xs)).1
          have s3 := (HST.out (sz xs)).1
          have s4 := (HST.out (sx xs)).2
          have s5 := (HST.out (sy xs)).2
          have s6 := (HST.out (sz xs)).2
          generalize lowT (sx xs) k = a at hI s1
          generalize lowT (sy xs) k = b1 at hI s2
          generalize lowT (sz xs) k = c at hI s3
          generalize highT (sx xs) k = a' at hI s4
          generalize highT (sy xs) k = b' at hI s5
          generalize highT (sz xs) k = c' at hI s6
          generalize sx xs k = x at c0 s1 s4
          generalize sy xs k = y at c1 s2 s5
          generalize sz xs k = z at c2 s3 s6
          have HS := Frame.hid (And.intro s1 (And.intro s2 (And.intro s3 (And.intro s4 (And.intro s5 s6)))))
          have HI := Frame.hid hI
          clear s1 s2 s3 s4 s5 s6 HST q0 hI
          go_wp2_with fail
          have hJ := HI.out.go ((Below.refl _ _).alloc (Nat.le_refl _) (.cells #[.float .f32 x, .float .f32 y, .float .f32 z] 35))
          have hP := At3.here wr x y z 35
          have hl : wr.heap.size < (wr.alloc (.cells #[.float .f32 x, .float .f32 y, .float .f32 z] 35)).heap.size := by simp
          have hgp := HI.out.gl
          have hhp := HI.out.hl
          generalize hW3 : wr.alloc (.cells #[.float .f32 x, .float .f32 y, .float .f32 z] 35) = w3 at hJ hP hl ⊢
          generalize hPP : wr.heap.size = p at hP hl hgp hhp ⊢
          have j0 := hJ.lo.c0
          have j1 := hJ.lo.c1
          have j2 := hJ.lo.c2
          have P0 := hP.c0
          have P1 := hP.c1
          have P2 := hP.c2
          have HJ := Frame.hid (hJ.go (Below.refl _ _).drew)
          have HP := Frame.hid (hP.keep (w' := w3.drew) (Below.refl w3.heap.size w3).drew hl)
          have HPL : Hid (p < w3.drew.heap.size) := Frame.hid hl
          clear hJ hP hW3 hPP HI c0 c1 c2 hl
          go_still_tail 16, (by kernel_rfl)
          still_call ((lesser_calls _ _ _).mono fun _ _ h => ⟨h.1, h.2.symm⟩)
          repeat still_step
          still_call ((lesser_calls _ _ _).mono fun _ _ h => ⟨h.1, h.2.symm⟩)
          repeat still_step
          still_call ((lesser_calls _ _ _).mono fun _ _ h => ⟨h.1, h.2.symm⟩)
          repeat still_step
          refine wpStill_nil ?_
          clear j0 j1 j2 P0 P1 P2
          change wpList _ _ _ _ _ w3.drew
          generalize w3.drew = w4 at HJ HP HPL ⊢
          have j0 := HJ.out.lo.c0
          have j1 := HJ.out.lo.c1
          have j2 := HJ.out.lo.c2
          have jf := HJ.out.f5
          go_wp2_with fail
          have hJ := HJ.out.low (selL a x) (selL b1 y) (selL c z)
          have hP := HP.out.other (k := g) (i := 0) (u := .float .f32 (selL a x)) (by omega)
          have hP := hP.other (k := g) (i := 1) (u := .float .f32 (selL b1 y)) (by omega)
          have hP := hP.other (k := g) (i := 2) (u := .float .f32 (selL c z)) (by omega)
          have hl : p < (((w4.setCell ⟨g, 0, none⟩ (.float .f32 (selL a x))).setCell ⟨g, 1, none⟩ (.float .f32 (selL b1 y))).setCell ⟨g, 2, none⟩ (.float .f32 (selL c z))).heap.size := by simpa using HPL.out
          generalize hW5 : ((w4.setCell ⟨g, 0, none⟩ (.float .f32 (selL a x))).setCell ⟨g, 1, none⟩ (.float .f32 (selL b1 y))).setCell ⟨g, 2, none⟩ (.float .f32 (selL c z)) = w5 at hJ hP hl ⊢
          clear j0 j1 j2 jf hW5 HJ HP HPL
          have j0 := hJ.hi.c0
          have j1 := hJ.hi.c1
          have j2 := hJ.hi.c2
          have P0 := hP.c0
          have P1 := hP.c1
          have P2 := hP.c2
          have HJ := Frame.hid (hJ.go (Below.refl _ _).drew)
          clear hJ hP hl
          go_still_tail 16, (by kernel_rfl)
          still_call ((greater_calls _ _ _).mono fun _ _ h => ⟨h.1, h.2.symm⟩)
          repeat still_step
          still_call ((greater_calls _ _ _).mono fun _ _ h => ⟨h.1, h.2.symm⟩)
          repeat still_step
          still_call ((greater_calls _ _ _).mono fun _ _ h => ⟨h.1, h.2.symm⟩)
          repeat still_step
          refine wpStill_nil ?_
          clear j0 j1 j2 P0 P1 P2
          change wpList _ _ _ _ _ w5.drew
          generalize w5.drew = w6 at HJ ⊢
          have j0 := HJ.out.hi.c0
          have j1 := HJ.out.hi.c1
          have j2 := HJ.out.hi.c2
          have jf := HJ.out.f6
          go_wp2_with fail
          go_roundw
          case rel =>
            obtain ⟨s1, s2, s3, s4, s5, s6⟩ := HS.out
            refine ⟨k + 1, by omega, by go_num, ?_⟩
            rw [s1, s2, s3, s4, s5, s6]
            exact HJ.out.high _ _ _
          case measure => simp [intOf]; omega
        · have hkn : k = n := by omega
          have HI := Frame.hid hI
          have HKN := Frame.hid hkn
          have i0 := hI.lo.c0
          have i1 := hI.lo.c1
          have i2 := hI.lo.c2
          have i3 := hI.hi.c0
          have i4 := hI.hi.c1
          have i5 := hI.hi.c2
          generalize hE : lowT (sx xs) k = a at *
          generalize hE1 : lowT (sy xs) k = b1 at *
          generalize hE2 : lowT (sz xs) k = c at *
          generalize hE3 : highT (sx xs) k = a' at *
          generalize hE4 : highT (sy xs) k = b' at *
          generalize hE5 : highT (sz xs) k = c' at *
          have HE := Frame.hid (And.intro hE (And.intro hE1 (And.intro hE2 (And.intro hE3 (And.intro hE4 hE5)))))
          clear hE hE1 hE2 hE3 hE4 hE5 hI hkn
          have k0 := HI.out.r2.a.c0
          have k1 := HI.out.r2.a.c1
          have k2 := HI.out.r2.a.c2
          have k3 := HI.out.r3.a.c0
          have k4 := HI.out.r3.a.c1
          have k5 := HI.out.r3.a.c2
          have kf := HI.out.r2.f
          have kg := HI.out.r3.f
          have d0 : ¬ (w.heap.size = g) := by have := HI.out.g1; omega
          have d1 : ¬ (w.heap.size = h) := by have := HI.out.h1; omega
          have d2 : ¬ (w.heap.size + 1 = g) := by have := HI.out.g1; omega
          have d3 : ¬ (w.heap.size + 1 = h) := by have := HI.out.h1; omega
          have d4 : ¬ (g = w.heap.size) := by have := HI.out.g1; omega
          have d5 : ¬ (h = w.heap.size) := by have := HI.out.h1; omega
          have d6 : ¬ (g = w.heap.size + 1) := by have := HI.out.g1; omega
          have d7 : ¬ (h = w.heap.size + 1) := by have := HI.out.h1; omega
          go_wp2_with fail
          go_region
          go_wp2_with fail
          obtain ⟨⟨e0, e1, e2⟩, ⟨e3, e4, e5⟩⟩ := two_res HI.out.r2 HI.out.r3 (by omega) a b1 c a' b' c'
          obtain ⟨t1, t2, t3, t4, t5, t6⟩ := HE.out
          have hkn := HKN.out
          have hx := HX.out
          rw [hkn, hx] at t1 t2 t3 t4 t5 t6
          refine bodyPost_ret (v := .tuple #[.agg #[.float .f32 a, .float .f32 b1, .float .f32 c], .agg #[.float .f32 a', .float .f32 b', .float .f32 c'], .bool true]) (by simp [results, Try.results30, go_sem, e0, e1, e2, e3, e4, e5]) rfl ⟨_, _, _, _, _, _, _, rfl, .inl ⟨HL.out, rfl, t1.symm, t2.symm, t3.symm, t4.symm, t5.symm, t6.symm⟩, ?_⟩
          exact (two_below HI.out.bel (Nat.le_refl _) (by omega) _ _ _ _ _ _).drew

end Go.Proofs.Ytbikiihcbocojaa
