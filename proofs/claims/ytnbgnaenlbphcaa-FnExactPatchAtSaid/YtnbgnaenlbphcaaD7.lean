/-
  PatchAt: the specification's side.
-/
import Derived.Test.YtnbgnaenlbphcaaD6
namespace Go.Proofs.Ytnbgnaenlbphcaa
open Go.RowKit Fl Ieee Go.WideShapes Go.Deep
attribute [local go_sem] kstore_f kalloc_drewN kset_drewN hstore_i hstore_s

/-- All blocks but a slice's own keep. -/
structure KeepD (Wl : World) (v : Value) (W : World) : Prop where
  s : Wl.heap.size ≤ W.heap.size
  h : ∀ k, k < Wl.heap.size → v.ownBlock ≠ some k → W.heap[k]? = Wl.heap[k]?
theorem KeepD.of {Wl W : World} {v : Value} (h : Below Wl.heap.size Wl W) : KeepD Wl v W := ⟨h.size, fun k hk _ => h.block k hk⟩
theorem KeepD.grown {Wl W W' : World} {v : Value} (h : KeepD Wl v W) (hg : W.grownBy W' v.ownBlock) : KeepD Wl v W' :=
  ⟨Nat.le_trans h.s hg.size, fun k hk hne => (hg.block k (Nat.lt_of_lt_of_le hk h.s) (fun e => hne e.symm)).trans (h.h k hk hne)⟩
theorem KeepD.cell {Wl W : World} {v : Value} (h : KeepD Wl v W) {b i : Nat} (hb : b < Wl.heap.size) (hne : v.ownBlock ≠ some b) : W.cell? ⟨b, i, none⟩ = Wl.cell? ⟨b, i, none⟩ := World.cell?_of_block (a := ⟨b, i, none⟩) (h.h b hb hne)
theorem RdS.at (w : World) (b off : Nat) (xs : List (Nat × Nat × Nat)) (h : RdS w (some ⟨b, off, none⟩) xs) (k : Nat) (hk : k < xs.length) : At3o w b (off + k * 3) (spt xs k).1 (spt xs k).2.1 (spt xs k).2.2 ∧ b < w.heap.size := by
  obtain ⟨b', off', e, hb, hc⟩ := h.h (by omega)
  injection e with e
  injection e with e1 e2
  subst e1 e2
  exact ⟨hc k hk, hb⟩

set_option maxRecDepth 100000 in
set_option maxHeartbeats 8000000 in
theorem specPatchAt_yes (bk off cx n : Nat) (xs : List (Nat × Nat × Nat)) (hxn : n = xs.length) (D : Nat) (hD : 1 ≤ D ∧ D ≤ 3) (hn : n = plO D (D + 1)) (hp : patB (D : Int) xs = true) (a b : Nat) (ha : (fin .f32 a && geP a) = true) (hb : (fin .f32 b && geP b) = true) (w : World) (hr : RdS w (some ⟨bk, off, none⟩) xs) :
    Calls Try.prog 48 #[.slice (some ⟨bk, off, none⟩) n cx, .int .i64 D, .float .f32 a, .float .f32 b] w fun e' w' => ∃ x y z ok, e' = .returned (.tuple #[.agg #[.float .f32 x, .float .f32 y, .float .f32 z], .bool ok]) ∧ PtO (D : Int) xs a b x y z ok ∧ Below w.heap.size w w' := by
  obtain ⟨i0, hi, hz0, hz1, hz2⟩ := info_parts infoSpot
  have HPV := Frame.hid (fun W (hW : Below w.heap.size w W) => l04Patch_calls (some ⟨bk, off, none⟩) xs cx n hxn (D : Int) W (by rw [hn]; have h : plO D (D + 1) ≤ 10 := (plO_le (d := D) (j := D + 1) (by omega) (Nat.le_refl _)).2; omega) (hr.below hW))
  rw [hp] at HPV
  have HPB := Frame.hid hp
  have HA := Frame.hid ha
  have HB := Frame.hid hb
  have HX := Frame.hid (And.intro hxn hn)
  have HR := Frame.hid hr
  clear hp hxn hn hr
  go_enter Try.func48, Try.ntmps48
  go_wp2_with fail
  have hb1 : Below w.heap.size w (w.alloc (.cells #[.float .f32 0, .float .f32 0, .float .f32 0] 57)) := (Below.refl _ _).alloc (Nat.le_refl _) _
  refine (HPV.out _ hb1).mono ?_
  rintro e1 w1 ⟨rfl, hB1⟩
  have HN1 := Frame.hid (show New w1 w.heap.size from New.born hB1)
  have HB1 := Frame.hid (hb1.trans (hB1.mono hb1.size))
  clear hb1 hB1
  go_wp2_with fail
  refine (l02LeastD_calls _ _).mono ?_
  rintro e2 w2 ⟨rfl, hB2⟩
  rw [HA.out]
  have HN2 := Frame.hid (HN1.out.go hB2)
  have HB2 := Frame.hid (HB1.out.trans (hB2.mono HB1.out.size))
  clear hB2
  go_wp2_with fail
  refine (l02LeastD_calls _ _).mono ?_
  rintro e3 w3 ⟨rfl, hB3⟩
  rw [HB.out]
  have HN3 := Frame.hid (HN2.out.go hB3)
  have HB3 := Frame.hid (HB2.out.trans (hB3.mono HB2.out.size))
  clear hB3
  go_wp2_with (refine wpList_arith rfl _ _ _ _ _ rfl rfl _ 1065353216 _ rfl rfl ?_; intro s1 ns1 hs1 hls1)
  refine upon_arith _ _ _ _ _ rfl ?_
  intro c nr hr hl
  have HTH := Frame.hid (show ThR a b c from ⟨_, hs1, hr⟩)
  have HNK := Frame.hid (HN3.out.go (below_drewN (below_drewN (Below.refl _ _) ns1) nr))
  have HBK := Frame.hid (below_drewN (below_drewN HB3.out ns1) nr)
  clear hs1 hr hl hls1
  generalize (w3.drewN ns1).drewN nr = wk at HNK HBK ⊢
  cases hcw : geP c
  · have HCW := Frame.hid hcw
    unfold geP at hcw
    have z0 := HNK.out.a.c0
    have z1 := HNK.out.a.c1
    have z2 := HNK.out.a.c2
    have zf := HNK.out.f
    have zl := HNK.out.l
    obtain ⟨e0, e1, e2⟩ := set3_read (w := wk) (v0 := .float .f32 0) (v1 := .float .f32 0) (v2 := .float .f32 0) z0 z1 z2
    go_wp2_with fail
    refine bodyPost_ret (v := .tuple #[.agg #[.float .f32 0, .float .f32 0, .float .f32 0], .bool false]) (by simp [results, Try.results48, go_sem, e0, e1, e2]) rfl ⟨_, _, _, _, rfl, .inl ⟨fun c' hc' => ?_, rfl, rfl, rfl, rfl⟩, ?_⟩
    · rw [geP.same (hc'.same HTH.out), HCW.out, Bool.and_false]
    · exact ((HBK.out.setCell (p := ⟨w.heap.size, 0, none⟩) (Nat.le_refl _) _).setCell (p := ⟨w.heap.size, 1, none⟩) (Nat.le_refl _) _).setCell (p := ⟨w.heap.size, 2, none⟩) (Nat.le_refl _) _
  · have HCW := Frame.hid hcw
    unfold geP at hcw
    go_wp2_with fail
    clear hcw
    go_loopw [11, 12] (fun nv dv wr => ∃ (f : Nat) (A : Option Addr) (m cp : Nat) (zs : List (Nat × Nat × Nat)), f ≤ D ∧ dv = .int .i64 (f : Nat) ∧ nv = .slice A m cp ∧ m = zs.length ∧ zs.length = plO f (f + 1) ∧ RdS wr A zs ∧ (∀ ys, LvP a b c f zs ys → LvP a b c D xs ys) ∧ Below wk.heap.size wk wr) (fun _ dv _ => (intOf dv).toNat)
    case atStart => exact ⟨D, _, n, cx, xs, Nat.le_refl _, rfl, rfl, HX.out.1, by rw [← HX.out.1, HX.out.2], HR.out.below HBK.out, fun _ h => h, Below.refl _ _⟩
    case round =>
      obtain ⟨f, A, m, cp, zs, hfD, rfl, rfl, hm, hzl, hrd, hlk, hB⟩ := hrel
      obtain ⟨wo, hwo⟩ : ∃ wo, wo = wr := ⟨_, rfl⟩
      subst hwo
      have HM := Frame.hid (And.intro hm hzl)
      have HRD := Frame.hid hrd
      have HLK := Frame.hid hlk
      have HBO := Frame.hid hB
      clear hm hzl hrd hlk hB
      rcases Nat.eq_zero_or_pos f with h0 | h0
      · subst h0
        have hz1 : zs.length = 1 := by rw [HM.out.2]; rfl
        have hm1 : m = 1 := HM.out.1.trans hz1
        subst hm1
        obtain ⟨b', o', rfl, hb', hc'⟩ := HRD.out.h (by omega)
        obtain ⟨y0, y1, y2⟩ := hc' 0 (by omega)
        simp only [Nat.zero_mul, Nat.add_zero] at y0 y1 y2
        obtain ⟨x1, hx1⟩ : ∃ x, x = sx zs 0 := ⟨_, rfl⟩
        obtain ⟨x2, hx2⟩ : ∃ x, x = sy zs 0 := ⟨_, rfl⟩
        obtain ⟨x3, hx3⟩ : ∃ x, x = sz zs 0 := ⟨_, rfl⟩
        rw [← hx1] at y0
        rw [← hx2] at y1
        rw [← hx3] at y2
        have HXS := Frame.hid (And.intro hx1 (And.intro hx2 hx3))
        have HL1 : Hid (LvP a b c D xs zs) := Frame.hid (HLK.out zs rfl)
        clear hc' hx1 hx2 hx3 hz1 hfD
        go_wp2_with fail
        refine (l04Given_calls _ _ _ _).mono ?_
        rintro e5 W5 ⟨x, y, z, ok, mm, rfl, hG, hW5⟩
        have hB5 : Below wo.heap.size wo W5 := by rw [hW5]; exact b3 _ _ _ _ _
        have HG := Frame.hid hG
        have hN5 := HNK.out.go (HBO.out.trans (hB5.mono HBO.out.size))
        have HB5 := Frame.hid (HBK.out.trans ((HBO.out.trans (hB5.mono HBO.out.size)).mono HBK.out.size))
        have z0 := hN5.a.c0
        have z1 := hN5.a.c1
        have z2 := hN5.a.c2
        have zf := hN5.f
        have zl := hN5.l
        obtain ⟨e0, e1, e2⟩ := set3_read (w := W5) (v0 := .float .f32 x) (v1 := .float .f32 y) (v2 := .float .f32 z) z0 z1 z2
        clear hG hW5 hB5 hN5 y0 y1 y2
        go_wp2_with fail
        refine bodyPost_ret (v := .tuple #[.agg #[.float .f32 x, .float .f32 y, .float .f32 z], .bool ok]) (by simp [results, Try.results48, go_sem, e0, e1, e2]) rfl ⟨_, _, _, _, rfl, .inr ⟨c, HTH.out, ?_, zs, by rw [Int.toNat_natCast]; exact HL1.out, ?_⟩, ?_⟩
        · have h1 := HA.out
          have h2 := HB.out
          simp only [Bool.and_eq_true] at h1 h2
          rw [HPB.out, h1.2, h2.2, HCW.out]
          rfl
        · obtain ⟨q1, q2, q3⟩ := HXS.out
          rw [← q1, ← q2, ← q3]
          exact HG.out
        · exact ((HB5.out.setCell (p := ⟨w.heap.size, 0, none⟩) (Nat.le_refl _) _).setCell (p := ⟨w.heap.size, 1, none⟩) (Nat.le_refl _) _).setCell (p := ⟨w.heap.size, 2, none⟩) (Nat.le_refl _) _
      · obtain ⟨g, hg⟩ : ∃ g, f = g + 1 := ⟨f - 1, by omega⟩
        have hg2 : g ≤ 2 := by omega
        have hf3 : f ≤ 3 := by omega
        have hf0 : (0 : Int) < (f : Int) := by omega
        have wf : IntKind.i64.wrap ((f : Int) - 1) = (g : Int) := by rw [IntKind.wrap_i64]; omega
        have HGF := Frame.hid hg
        obtain ⟨bz, oz, hAz, hbz, -⟩ := HRD.out.h (by rw [HM.out.2]; exact Nat.lt_of_le_of_lt (Nat.zero_le _) (crd_at (d := f) (i := 0) (j := 0) hf3 (by omega)).2)
        subst hAz
        have HBZ := Frame.hid hbz
        clear hg hbz
        go_wp2_with fail
        go_loopw [13, 14] (fun v jv wr => ∃ (j : Nat) (ys : List (Nat × Nat × Nat)), j ≤ f ∧ jv = .int .i64 (j : Nat) ∧ ys.length = plO g j ∧ PL g (fun i j x y z => BlR a b c (spt zs (plO (g + 1) j + i)) (spt zs (plO (g + 1) j + (i + 1))) (spt zs (plO (g + 1) (j + 1) + i)) x y z) ys ∧ OwnedS wr wo.heap.size v ys ∧ Below wo.heap.size wo wr) (fun _ jv _ => f - (intOf jv).toNat)
        case atStart => exact ⟨0, [], Nat.zero_le _, rfl, rfl, PL.nil, none_litS wo, (Below.refl _ _).alloc (Nat.le_refl _) _⟩
        case round =>
          obtain ⟨j, ys, hj, rfl, hyl, hP, hO, hB⟩ := hrel
          have HYL := Frame.hid hyl
          have HP := Frame.hid hP
          have HO := Frame.hid hO
          have HB := Frame.hid hB
          clear hyl hP hO hB
          have wj : IntKind.i64.wrap ((j : Int) + 1) = ((j + 1 : Nat) : Int) := by rw [IntKind.wrap_i64]; omega
          by_cases hlt : j < f
          · go_wp2_with fail
            obtain ⟨wj0, hwj0⟩ : ∃ wj0, wj0 = wr := ⟨_, rfl⟩
            subst hwj0
            go_loopw [13, 15] (fun v iv wr => ∃ (i : Nat) (ys : List (Nat × Nat × Nat)), i + j ≤ f ∧ iv = .int .i64 (i : Nat) ∧ ys.length = plO g j + i ∧ PL g (fun i j x y z => BlR a b c (spt zs (plO (g + 1) j + i)) (spt zs (plO (g + 1) j + (i + 1))) (spt zs (plO (g + 1) (j + 1) + i)) x y z) ys ∧ OwnedS wr wo.heap.size v ys ∧ Below wo.heap.size wo wr) (fun _ iv _ => f - (intOf iv).toNat)
            case atStart => exact ⟨0, ys, by omega, rfl, HYL.out, HP.out, HO.out, HB.out⟩
            case round =>
              obtain ⟨i, ys', hi2, rfl, hyl, hP, hO, hB⟩ := hrel
              have HYL2 := Frame.hid hyl
              have HP2 := Frame.hid hP
              have HB2 := Frame.hid hB
              obtain ⟨s, hs⟩ : ∃ s, s = i + j := ⟨_, rfl⟩
              have ws : IntKind.i64.wrap ((i : Int) + (j : Int)) = (s : Int) := by rw [IntKind.wrap_i64]; omega
              have wi : IntKind.i64.wrap ((i : Int) + 1) = ((i + 1 : Nat) : Int) := by rw [IntKind.wrap_i64]; omega
              have HSS := Frame.hid hs
              have hown : wr.ownsRow wo.heap.size 57 3 u13 ys'.length (cellsS ys') := hO
              obtain ⟨L, hL⟩ : ∃ L, L = ys'.length := ⟨_, rfl⟩
              rw [← hL] at hown
              have hL10 : L ≤ 10 := by
                have h1 : plO g (g + 1) ≤ 10 := (plO_le (d := g) (j := g + 1) (by omega) (Nat.le_refl _)).2
                have h2 := HGF.out
                rcases Nat.lt_or_ge s f with h3 | h3
                · have h4 := (crd_at (d := g) (i := i) (j := j) (by omega) (by omega)).2
                  omega
                · have h4 := (plO_le (d := g) (j := j + 1) (by omega) (by omega)).1
                  have h5 : plO g (j + 1) = plO g j + (g + 1 - j) := rfl
                  omega
              have HLL := Frame.hid hL
              have HO2 := Frame.hid hown
              have HOS := Frame.hid hO
              clear hyl hP hO hB hown hL
              by_cases hlt2 : s < f
              · obtain ⟨i1, hi1⟩ : ∃ i1, i1 = i + 1 := ⟨_, rfl⟩
                obtain ⟨j1, hj1⟩ : ∃ j1, j1 = j + 1 := ⟨_, rfl⟩
                have c0 := crd_at (d := f) (i := i) (j := j) hf3 (by omega)
                have c1 := crd_at (d := f) (i := i1) (j := j) hf3 (by omega)
                have c2 := crd_at (d := f) (i := i) (j := j1) hf3 (by omega)
                obtain ⟨k0, hk0⟩ : ∃ k, k = plO f j + i := ⟨_, rfl⟩
                obtain ⟨k1, hk1⟩ : ∃ k, k = plO f j + i1 := ⟨_, rfl⟩
                obtain ⟨k2, hk2⟩ : ∃ k, k = plO f j1 + i := ⟨_, rfl⟩
                have l0 : k0 < m := by rw [hk0, HM.out.1, HM.out.2]; exact c0.2
                have l1 : k1 < m := by rw [hk1, HM.out.1, HM.out.2]; exact c1.2
                have l2 : k2 < m := by rw [hk2, HM.out.1, HM.out.2]; exact c2.2
                have HP0 := Frame.hid (fun W => by have h := l04Place_calls f i j hf3 (by omega) W; rw [← hk0] at h; exact h)
                have HP1 := Frame.hid (fun W => by have h := l04Place_calls f i1 j hf3 (by omega) W; rw [← hk1] at h; exact h)
                have HP2' := Frame.hid (fun W => by have h := l04Place_calls f i j1 hf3 (by omega) W; rw [← hk2] at h; exact h)
                have HK := Frame.hid (And.intro hk0 (And.intro hk1 (And.intro hk2 (And.intro hi1 hj1))))
                have hz := fun k (hk : k < m) W (hW : Below wo.heap.size wo W) => ((HRD.out.at _ _ _ _ k (by rw [← HM.out.1]; exact hk)).1.keep hW HBZ.out)
                obtain ⟨⟨p1, p2, p3⟩, hpp⟩ : ∃ p, p = spt zs k0 := ⟨_, rfl⟩
                obtain ⟨⟨q1, q2, q3⟩, hqq⟩ : ∃ q, q = spt zs k1 := ⟨_, rfl⟩
                obtain ⟨⟨r1, r2, r3⟩, hrr⟩ : ∃ r, r = spt zs k2 := ⟨_, rfl⟩
                have hz0' := fun W hW => hz k0 l0 W hW
                have hz1' := fun W hW => hz k1 l1 W hW
                have hz2' := fun W hW => hz k2 l2 W hW
                rw [← hpp] at hz0'
                rw [← hqq] at hz1'
                rw [← hrr] at hz2'
                have HZ0 := Frame.hid hz0'
                have HZ1 := Frame.hid hz1'
                have HZ2 := Frame.hid hz2'
                have HPQ := Frame.hid (And.intro hpp (And.intro hqq hrr))
                obtain ⟨x0, x1, x2⟩ := hz0' wr HB2.out
                have wi1 : IntKind.i64.wrap ((i : Int) + 1) = (i1 : Int) := by rw [wi, hi1]
                have wj1 : IntKind.i64.wrap ((j : Int) + 1) = (j1 : Int) := by rw [wj, hj1]
                clear c0 c1 c2 hk0 hk1 hk2 hi1 hj1 hz hpp hqq hrr hz0' hz1' hz2' hs wi wj
                dsimp only at x0 x1 x2
                go_wp2_with (first | (go_at_call 109; refine (HP0.out _).mono ?_; rintro e' w' ⟨rfl, rfl⟩) | (go_at_call 108; refine (l04Times_calls _ _ _ _ _).mono ?_; rintro e' w17 ⟨t1, t2, t3, rfl, hT, hB17⟩))
                obtain ⟨gp, hgp⟩ : ∃ gp, gp = w17.heap.size := ⟨_, rfl⟩
                have hB18 : Below wr.heap.size wr (w17.alloc (.cells #[.float .f32 t1, .float .f32 t2, .float .f32 t3] 57)) := hB17.alloc hB17.size _
                have hA18 : At3 (w17.alloc (.cells #[.float .f32 t1, .float .f32 t2, .float .f32 t3] 57)) gp t1 t2 t3 := by rw [hgp]; exact At3.here _ _ _ _ _
                have hf18 : ∀ i, (w17.alloc (.cells #[.float .f32 t1, .float .f32 t2, .float .f32 t3] 57)).frozen? ⟨gp, i, none⟩ = false := by rw [hgp]; intro i; simp [go_sem]
                have hgl : gp < (w17.alloc (.cells #[.float .f32 t1, .float .f32 t2, .float .f32 t3] 57)).heap.size := by rw [hgp]; simp
                have hge : wr.heap.size ≤ gp := by rw [hgp]; exact hB17.size
                rw [← hgp]
                have HT := Frame.hid hT
                clear hT hgp
                generalize w17.alloc (.cells #[.float .f32 t1, .float .f32 t2, .float .f32 t3] 57) = w18 at hB18 hA18 hf18 hgl ⊢
                clear hB17 x0 x1 x2
                have hk : ∀ W, Below w18.heap.size w18 W → W.cell? ⟨gp, 0, none⟩ = some (.float .f32 t1) ∧ W.cell? ⟨gp, 1, none⟩ = some (.float .f32 t2) ∧ W.cell? ⟨gp, 2, none⟩ = some (.float .f32 t3) ∧ W.cell? ⟨bz, oz + k1 * 3, none⟩ = some (.float .f32 q1) ∧ W.cell? ⟨bz, oz + k1 * 3 + 1, none⟩ = some (.float .f32 q2) ∧ W.cell? ⟨bz, oz + k1 * 3 + 2, none⟩ = some (.float .f32 q3) := fun W hW => by
                  have ha := hA18.keep hW hgl
                  have hq := HZ1.out W (HB2.out.trans ((hB18.trans (hW.mono hB18.size)).mono HB2.out.size))
                  exact ⟨ha.c0, ha.c1, ha.c2, hq.c0, hq.c1, hq.c2⟩
                have hS0 : Below w18.heap.size w18 w18.drew := (Below.refl _ _).drew
                refine region_hand 12 (fun W => Below w18.heap.size w18 W) (by kernel_rfl) ?_
                refine' wpEnd_take 0 rfl (by kernel_rfl) hS0 (Or.inl ⟨by rfl, fun wq hSq => _⟩) _
                rotate_left
                · (obtain ⟨q0, q1, q2, q3, q4, q5⟩ := hk _ hSq; go_simp; (try with_reducible rfl))
                simp only [Act.put, List.setIfInBounds_toArray, List.set_cons_zero, List.set_cons_succ]
                refine' wpEnd_take 1 rfl (by kernel_rfl) hS0 (Or.inl ⟨by rfl, fun wq hSq => _⟩) _
                rotate_left
                · (obtain ⟨q0, q1, q2, q3, q4, q5⟩ := hk _ hSq; go_simp; (try with_reducible rfl))
                simp only [Act.put, List.setIfInBounds_toArray, List.set_cons_zero, List.set_cons_succ]
                refine' wpEnd_take 2 rfl (by kernel_rfl) hS0 (Or.inl ⟨by rfl, fun wq hSq => _⟩) _
                rotate_left
                · (obtain ⟨q0, q1, q2, q3, q4, q5⟩ := hk _ hSq; go_simp; (try with_reducible rfl))
                simp only [Act.put, List.setIfInBounds_toArray, List.set_cons_zero, List.set_cons_succ]
                refine' wpEnd_take 3 rfl (by kernel_rfl) hS0 (Or.inl ⟨by rfl, fun wq hSq => _⟩) _
                rotate_left
                · (obtain ⟨q0, q1, q2, q3, q4, q5⟩ := hk _ hSq; go_simp; (try with_reducible rfl))
                simp only [Act.put, List.setIfInBounds_toArray, List.set_cons_zero, List.set_cons_succ]
                refine' wpEnd_take 4 rfl (by kernel_rfl) hS0 (Or.inl ⟨by rfl, fun wq hSq => _⟩) _
                rotate_left
                · (obtain ⟨q0, q1, q2, q3, q4, q5⟩ := hk _ hSq; go_simp; (try with_reducible rfl))
                simp only [Act.put, List.setIfInBounds_toArray, List.set_cons_zero, List.set_cons_succ]
                refine' wpEnd_take 5 rfl (by kernel_rfl) hS0 (Or.inl ⟨by rfl, fun wq hSq => _⟩) _
                rotate_left
                · (obtain ⟨q0, q1, q2, q3, q4, q5⟩ := hk _ hSq; go_simp; (try with_reducible rfl))
                simp only [Act.put, List.setIfInBounds_toArray, List.set_cons_zero, List.set_cons_succ]
                refine' wpEnd_take 9 rfl (by kernel_rfl) hS0 (Or.inl ⟨by rfl, fun wq hSq => _⟩) _
                rotate_left
                · (obtain ⟨q0, q1, q2, q3, q4, q5⟩ := hk _ hSq; go_simp; (try with_reducible rfl))
                simp only [Act.put, List.setIfInBounds_toArray, List.set_cons_zero, List.set_cons_succ]
                have hs0 : w18.heap.size ≤ w18.drew.heap.size := hS0.size
                generalize w18.drew = wd at hS0 hs0 ⊢
                refine wpEnd_ready [6] (by kernel_rfl) rfl (AllE.cons rfl (fun K hK => ?_) AllE.nil)
                go_simp
                go_at_call 109
                refine (HP1.out _).mono ?_
                rintro e_ w_ ⟨rfl, rfl⟩
                refine hK.out _ _ (.inr hS0) ?_
                clear hK K
                (try simp only [Act.put, List.setIfInBounds_toArray, List.set_cons_zero, List.set_cons_succ])
                refine' wpEnd_take 7 rfl (by kernel_rfl) hS0 (Or.inl ⟨by rfl, fun wq hSq => _⟩) _
                rotate_left
                · (obtain ⟨q0, q1, q2, q3, q4, q5⟩ := hk _ hSq; go_simp; (try with_reducible rfl))
                simp only [Act.put, List.setIfInBounds_toArray, List.set_cons_zero, List.set_cons_succ]
                refine' wpEnd_take 8 rfl (by kernel_rfl) hS0 (Or.inl ⟨by rfl, fun wq hSq => _⟩) _
                rotate_left
                · (obtain ⟨q0, q1, q2, q3, q4, q5⟩ := hk _ hSq; go_simp; (try with_reducible rfl))
                simp only [Act.put, List.setIfInBounds_toArray, List.set_cons_zero, List.set_cons_succ]
                refine wpEnd_ready [10] (by kernel_rfl) rfl (AllE.cons rfl (fun K hK => ?_) AllE.nil)
                go_simp
                go_at_call 108
                refine (l04Times_calls _ _ _ _ _).mono ?_
                rintro e_ w19 ⟨u1, u2, u3, rfl, hT2, hB19⟩
                have HT2 := Frame.hid hT2
                have hS1 := hS0.trans (hB19.mono hs0)
                clear hT2 hB19
                refine hK.out _ _ (.inr hS1) ?_
                clear hK K
                (try simp only [Act.put, List.setIfInBounds_toArray, List.set_cons_zero, List.set_cons_succ])
                refine wpEnd_ready [11] (by kernel_rfl) rfl (AllE.cons rfl (fun K hK => ?_) AllE.nil)
                go_simp
                go_at_call 110
                refine (l04Add_calls _ _ _ _ _ _ _).mono ?_
                rintro e_ w20 ⟨v1, v2, v3, rfl, hT3, hB20⟩
                have HT3 := Frame.hid hT3
                have hS2 := hS1.trans (hB20.mono hS1.size)
                clear hT3 hB20
                refine hK.out _ _ (.inr hS2) ?_
                clear hK K
                (try simp only [Act.put, List.setIfInBounds_toArray, List.set_cons_zero, List.set_cons_succ])
                obtain ⟨q0, q1', q2', -, -, -⟩ := hk _ hS2
                have qf : ∀ i, w20.frozen? ⟨gp, i, none⟩ = false := fun i => (hS2.frozen (p := ⟨gp, i, none⟩) hgl).trans (hf18 i)
                have ql : gp < w20.heap.size := Nat.lt_of_lt_of_le hgl hS2.size
                obtain ⟨e0, e1, e2⟩ := set3_read (w := w20) (v0 := .float .f32 v1) (v1 := .float .f32 v2) (v2 := .float .f32 v3) q0 q1' q2'
                refine wpEnd_ready [12] (by kernel_rfl) rfl (AllE.cons rfl (fun K hK => ?_) AllE.nil)
                go_simp
                refine hK.out _ _ (.inl rfl) ?_
                clear hK K
                refine wpEnd_done (by kernel_rfl) ?_
                have hB21 : Below wr.heap.size wr (((w20.setCell ⟨gp, 0, none⟩ (.float .f32 v1)).setCell ⟨gp, 1, none⟩ (.float .f32 v2)).setCell ⟨gp, 2, none⟩ (.float .f32 v3)) := (((hB18.trans (hS2.mono hB18.size)).setCell (p := ⟨gp, 0, none⟩) hge _).setCell (p := ⟨gp, 1, none⟩) hge _).setCell (p := ⟨gp, 2, none⟩) hge _
                have hA21 : At3 (((w20.setCell ⟨gp, 0, none⟩ (.float .f32 v1)).setCell ⟨gp, 1, none⟩ (.float .f32 v2)).setCell ⟨gp, 2, none⟩ (.float .f32 v3)) gp v1 v2 v3 := ⟨e0, e1, e2⟩
                have hl21 : gp < (((w20.setCell ⟨gp, 0, none⟩ (.float .f32 v1)).setCell ⟨gp, 1, none⟩ (.float .f32 v2)).setCell ⟨gp, 2, none⟩ (.float .f32 v3)).heap.size := by simpa using ql
                clear hk hS0 hS1 hS2 q0 q1' q2' qf ql e0 e1 e2 hA18 hf18 hgl hs0 hB18
                generalize ((w20.setCell ⟨gp, 0, none⟩ (.float .f32 v1)).setCell ⟨gp, 1, none⟩ (.float .f32 v2)).setCell ⟨gp, 2, none⟩ (.float .f32 v3) = w21 at hB21 hA21 hl21 ⊢
                go_wp2_with fail
                have hk : ∀ W, KeepD w21 u13 W → W.cell? ⟨gp, 0, none⟩ = some (.float .f32 v1) ∧ W.cell? ⟨gp, 1, none⟩ = some (.float .f32 v2) ∧ W.cell? ⟨gp, 2, none⟩ = some (.float .f32 v3) ∧ W.cell? ⟨bz, oz + k2 * 3, none⟩ = some (.float .f32 r1) ∧ W.cell? ⟨bz, oz + k2 * 3 + 1, none⟩ = some (.float .f32 r2) ∧ W.cell? ⟨bz, oz + k2 * 3 + 2, none⟩ = some (.float .f32 r3) := fun W hW => by
                  have hk9 : ∀ i, W.cell? ⟨gp, i, none⟩ = w21.cell? ⟨gp, i, none⟩ := fun i => hW.cell hl21 (fun e => by have := (World.ownsRow.lt HO2.out gp e).2; omega)
                  have hk8 : ∀ i, W.cell? ⟨bz, i, none⟩ = w21.cell? ⟨bz, i, none⟩ := fun i => hW.cell (by have := hB21.size; have := HB2.out.size; have := HBZ.out; omega) (fun e => by have := (World.ownsRow.lt HO2.out bz e).1; have := HBZ.out; omega)
                  have hq := HZ2.out w21 (HB2.out.trans (hB21.mono HB2.out.size))
                  exact ⟨(hk9 0).trans hA21.c0, (hk9 1).trans hA21.c1, (hk9 2).trans hA21.c2, (hk8 _).trans hq.c0, (hk8 _).trans hq.c1, (hk8 _).trans hq.c2⟩
                have hS0 : Below w21.heap.size w21 w21.drew := (Below.refl _ _).drew
                refine region_hand 15 (fun W => KeepD w21 u13 W) (by kernel_rfl) ?_
                refine' wpEnd_take 0 rfl (by kernel_rfl) (KeepD.of hS0) (Or.inl ⟨by rfl, fun wq hSq => _⟩) _
                rotate_left
                · (obtain ⟨q0, q1, q2, q3, q4, q5⟩ := hk _ hSq; go_simp; (try with_reducible rfl))
                simp only [Act.put, List.setIfInBounds_toArray, List.set_cons_zero, List.set_cons_succ]
                refine' wpEnd_take 1 rfl (by kernel_rfl) (KeepD.of hS0) (Or.inl ⟨by rfl, fun wq hSq => _⟩) _
                rotate_left
                · (obtain ⟨q0, q1, q2, q3, q4, q5⟩ := hk _ hSq; go_simp; (try with_reducible rfl))
                simp only [Act.put, List.setIfInBounds_toArray, List.set_cons_zero, List.set_cons_succ]
                refine' wpEnd_take 2 rfl (by kernel_rfl) (KeepD.of hS0) (Or.inl ⟨by rfl, fun wq hSq => _⟩) _
                rotate_left
                · (obtain ⟨q0, q1, q2, q3, q4, q5⟩ := hk _ hSq; go_simp; (try with_reducible rfl))
                simp only [Act.put, List.setIfInBounds_toArray, List.set_cons_zero, List.set_cons_succ]
                refine' wpEnd_take 3 rfl (by kernel_rfl) (KeepD.of hS0) (Or.inl ⟨by rfl, fun wq hSq => _⟩) _
                rotate_left
                · (obtain ⟨q0, q1, q2, q3, q4, q5⟩ := hk _ hSq; go_simp; (try with_reducible rfl))
                simp only [Act.put, List.setIfInBounds_toArray, List.set_cons_zero, List.set_cons_succ]
                refine' wpEnd_take 4 rfl (by kernel_rfl) (KeepD.of hS0) (Or.inl ⟨by rfl, fun wq hSq => _⟩) _
                rotate_left
                · (obtain ⟨q0, q1, q2, q3, q4, q5⟩ := hk _ hSq; go_simp; (try with_reducible rfl))
                simp only [Act.put, List.setIfInBounds_toArray, List.set_cons_zero, List.set_cons_succ]
                refine' wpEnd_take 5 rfl (by kernel_rfl) (KeepD.of hS0) (Or.inl ⟨by rfl, fun wq hSq => _⟩) _
                rotate_left
                · (obtain ⟨q0, q1, q2, q3, q4, q5⟩ := hk _ hSq; go_simp; (try with_reducible rfl))
                simp only [Act.put, List.setIfInBounds_toArray, List.set_cons_zero, List.set_cons_succ]
                refine' wpEnd_take 6 rfl (by kernel_rfl) (KeepD.of hS0) (Or.inl ⟨by rfl, fun wq hSq => _⟩) _
                rotate_left
                · (obtain ⟨q0, q1, q2, q3, q4, q5⟩ := hk _ hSq; go_simp; (try with_reducible rfl))
                simp only [Act.put, List.setIfInBounds_toArray, List.set_cons_zero, List.set_cons_succ]
                refine' wpEnd_take 10 rfl (by kernel_rfl) (KeepD.of hS0) (Or.inl ⟨by rfl, fun wq hSq => _⟩) _
                rotate_left
                · (obtain ⟨q0, q1, q2, q3, q4, q5⟩ := hk _ hSq; go_simp; (try with_reducible rfl))
                simp only [Act.put, List.setIfInBounds_toArray, List.set_cons_zero, List.set_cons_succ]
                have hs0 : w21.heap.size ≤ w21.drew.heap.size := hS0.size
                generalize w21.drew = wd at hS0 hs0 ⊢
                refine wpEnd_ready [7] (by kernel_rfl) rfl (AllE.cons rfl (fun K hK => ?_) AllE.nil)
                go_simp
                go_at_call 109
                refine (HP2'.out _).mono ?_
                rintro e_ w_ ⟨rfl, rfl⟩
                refine hK.out _ _ (.inr (KeepD.of hS0)) ?_
                clear hK K
                (try simp only [Act.put, List.setIfInBounds_toArray, List.set_cons_zero, List.set_cons_succ])
                refine' wpEnd_take 8 rfl (by kernel_rfl) (KeepD.of hS0) (Or.inl ⟨by rfl, fun wq hSq => _⟩) _
                rotate_left
                · (obtain ⟨q0, q1, q2, q3, q4, q5⟩ := hk _ hSq; go_simp; (try with_reducible rfl))
                simp only [Act.put, List.setIfInBounds_toArray, List.set_cons_zero, List.set_cons_succ]
                refine' wpEnd_take 9 rfl (by kernel_rfl) (KeepD.of hS0) (Or.inl ⟨by rfl, fun wq hSq => _⟩) _
                rotate_left
                · (obtain ⟨q0, q1, q2, q3, q4, q5⟩ := hk _ hSq; go_simp; (try with_reducible rfl))
                simp only [Act.put, List.setIfInBounds_toArray, List.set_cons_zero, List.set_cons_succ]
                refine wpEnd_ready [11] (by kernel_rfl) rfl (AllE.cons rfl (fun K hK => ?_) AllE.nil)
                go_simp
                go_at_call 108
                refine (l04Times_calls _ _ _ _ _).mono ?_
                rintro e_ w22 ⟨m1, m2, m3, rfl, hT4, hB22⟩
                have HT4 := Frame.hid hT4
                have hS1 := hS0.trans (hB22.mono hs0)
                clear hT4 hB22
                refine hK.out _ _ (.inr (KeepD.of hS1)) ?_
                clear hK K
                (try simp only [Act.put, List.setIfInBounds_toArray, List.set_cons_zero, List.set_cons_succ])
                refine wpEnd_ready [12] (by kernel_rfl) rfl (AllE.cons rfl (fun K hK => ?_) AllE.nil)
                go_simp
                go_at_call 110
                refine (l04Add_calls _ _ _ _ _ _ _).mono ?_
                rintro e_ w23 ⟨z1, z2, z3, rfl, hT5, hB23⟩
                have HT5 := Frame.hid hT5
                have hS2 := hS1.trans (hB23.mono hS1.size)
                clear hT5 hB23
                refine hK.out _ _ (.inr (KeepD.of hS2)) ?_
                clear hK K
                (try simp only [Act.put, List.setIfInBounds_toArray, List.set_cons_zero, List.set_cons_succ])
                have hB23 := hB21.trans (hS2.mono hB21.size)
                have hs23 := hS2.size
                refine wpEnd_ready [13] (by kernel_rfl) rfl (AllE.cons rfl (fun K hK => ?_) AllE.nil)
                go_simp
                have hS3 := hS2.alloc hs23 (.cells #[.float .f32 z1, .float .f32 z2, .float .f32 z3] 57)
                refine hK.out _ _ (.inr (KeepD.of hS3)) ?_
                clear hK K
                (try simp only [Act.put, List.setIfInBounds_toArray, List.set_cons_zero, List.set_cons_succ])
                refine wpEnd_ready [14] (by kernel_rfl) rfl (AllE.cons rfl (fun K hK => ?_) AllE.nil)
                refine step_append_any rfl _ _ 27 rfl wo.heap.size 57 i0 (.agg #[.float .f32 0, .float .f32 0, .float .f32 0]) 3 12 Try.underlying27 hi hz0 hz1 hz2 rfl (by decide) u13 L (cellsS ys') rfl ?_ ⟨w23.heap.size, 0, none⟩ 1 1 (cellsS [(z1, z2, z3)]) rfl rfl (news3' _ _ _ _ _) (cellsS_one _) (by unfold maxLen; omega) (by omega) (by have := hB23.size; have := HB2.out.size; simp; omega) ?_
                · exact World.ownsRow.alloc (ownsRow_past HO2.out hB23) _
                intro v9 w24 hown3 hgrow3 hnil3
                have hB24 : Below wo.heap.size wr w24 := Below.grown ((hB23.mono HB2.out.size).alloc (by have := hB23.size; have := HB2.out.size; omega) (.cells #[.float .f32 z1, .float .f32 z2, .float .f32 z3] 57)) hgrow3 (by have := hB23.size; have := HB2.out.size; simp; omega) (fun k' hk' => (World.ownsRow.lt HO2.out k' hk').1)
                have hK24 : KeepD w21 u13 w24 := (KeepD.of hS3).grown hgrow3
                have HOX := Frame.hid hown3
                have HBX := Frame.hid hB24
                clear hgrow3 hnil3 hown3 hB24
                refine hK.out _ _ (.inr hK24) ?_
                clear hK K
                (try simp only [Act.put, List.setIfInBounds_toArray, List.set_cons_zero, List.set_cons_succ])
                refine wpEnd_ready [15] (by kernel_rfl) rfl (AllE.cons rfl (fun K hK => ?_) AllE.nil)
                go_simp
                refine hK.out _ _ (.inl rfl) ?_
                clear hK K
                refine wpEnd_done (by kernel_rfl) ?_
                clear hk hS0 hS1 hS2 hS3 hB21 hA21 hl21 hs0 hB23 hs23
                go_wp2_with fail
                go_roundw
                case rel =>
                  have hgf := HGF.out
                  obtain ⟨hk0, hk1, hk2, hi1, hj1⟩ := HK.out
                  obtain ⟨hpp, hqq, hrr⟩ := HPQ.out
                  have hR : BlR a b c (spt zs (plO (g + 1) j + i)) (spt zs (plO (g + 1) j + (i + 1))) (spt zs (plO (g + 1) (j + 1) + i)) z1 z2 z3 := by
                    rw [← hgf, ← hi1, ← hj1, ← hk0, ← hk1, ← hk2, ← hpp, ← hqq, ← hrr]
                    exact ⟨_, _, _, _, _, _, _, _, _, _, _, _, HT.out, HT2.out, HT3.out, HT4.out, HT5.out⟩
                  refine ⟨i + 1, ys' ++ [(z1, z2, z3)], by have := HSS.out; omega, by go_num, by rw [List.length_append, HYL2.out]; rfl, PL.snoc HP2.out (by omega) (by have := HSS.out; omega) HYL2.out hR, ?_, HB2.out.trans HBX.out⟩
                  unfold OwnedS
                  rw [cellsS_append, List.length_append, ← HLL.out]
                  exact HOX.out
                case measure => have := HSS.out; obtain ⟨-, -, -, hi1, -⟩ := HK.out; simp [intOf]; omega
              · go_wp2_with fail
                go_roundw
                case rel =>
                  refine ⟨j + 1, ys', by omega, by go_num, ?_, HP2.out, HOS.out, HB2.out⟩
                  have h1 := HYL2.out
                  have h2 := HSS.out
                  have h3 := HGF.out
                  show ys'.length = plO g j + (g + 1 - j)
                  omega
                case measure => simp [intOf]; omega
          · obtain rfl : j = f := by omega
            obtain ⟨A', c', hv, hrd⟩ := HO.out.rd
            subst hv
            have HRD2 := Frame.hid hrd
            obtain ⟨m', hm'⟩ : ∃ m', m' = ys.length := ⟨_, rfl⟩
            rw [← hm']
            have HM' := Frame.hid hm'
            clear hrd hm'
            go_wp2_with fail
            go_roundw
            case rel =>
              refine ⟨g, A', m', c', ys, by have := HGF.out; omega, rfl, rfl, HM'.out, by rw [HYL.out, HGF.out], HRD2.out, fun zs' h => HLK.out zs' ?_, HBO.out.trans (HB.out.mono HBO.out.size)⟩
              rw [HGF.out]
              exact ⟨ys, ⟨by rw [HYL.out, HGF.out], HP.out⟩, h⟩
            case measure => have := HGF.out; simp [intOf]; omega

end Go.Proofs.Ytnbgnaenlbphcaa
