/-
  The slopes of a sheet: the specification's side.
-/
import Derived.Test.YtohbanchaggnmaaI6
namespace Go.Proofs.Ytohbanchaggnmaa
open Go.RowKit Fl Go.WideShapes Go.Deep
attribute [local go_sem] kstore_f kalloc_drewN kset_drewN hstore_i hstore_s

theorem OwnedS.rdc {w : World} {B : Nat} {v : Value} {xs : List (Nat × Nat × Nat)} (h : OwnedS w B v xs) (h1 : 0 < xs.length) : ∃ g c, v = .slice (some ⟨g, 0, none⟩) xs.length c ∧ xs.length ≤ c ∧ RdS w (some ⟨g, 0, none⟩) xs := by
  obtain ⟨A, c, rfl, hR⟩ := h.rd
  rcases h.2 with ⟨_, h0⟩ | ⟨g, cap, cur, e, hg, hh, hn, _⟩
  · omega
  · injection e with e1 e2 e3
    subst e1 e3
    exact ⟨g, c, rfl, hn, hR⟩

theorem At3o.putOther {W : World} {g k i o x y z : Nat} {v : Value} (h : At3o W g o x y z) (hk : k ≠ g) : At3o (W.setCell ⟨k, i, none⟩ v) g o x y z := by
  refine ⟨?_, ?_, ?_⟩
  all_goals rw [World.cell?_setCell_other _ _ _ _ (by intro e; injection e with e1; exact hk e1)]
  · exact h.c0
  · exact h.c1
  · exact h.c2
theorem cell_other {W : World} {g k i j : Nat} {v : Value} (hk : k ≠ g) : (W.setCell ⟨k, i, none⟩ v).cell? ⟨g, j, none⟩ = W.cell? ⟨g, j, none⟩ := World.cell?_setCell_other _ _ _ _ (by intro e; injection e with e1; exact hk e1)

set_option maxRecDepth 100000 in
set_option maxHeartbeats 1000000 in
theorem l04Slopes_calls (g bk off n p q u v : Nat) (xs : List (Nat × Nat × Nat)) (hp : 2 ≤ p ∧ p ≤ 6) (hq : 2 ≤ q ∧ q ≤ 6) (hn : n = xs.length) (hl : n = p * q) (w : World) (hS : Sh3 w g p q (.slice (some ⟨bk, off, none⟩) n n)) (hA : RdS w (some ⟨bk, off, none⟩) xs) :
    Calls Try.prog 59 #[.pointer (some ⟨g, 0, none⟩), .float .f32 u, .float .f32 v] w fun e w' => ∃ zs zs' r s t r' s' t', e = .returned (.tuple #[.agg #[.float .f32 r, .float .f32 s, .float .f32 t], .agg #[.float .f32 r', .float .f32 s', .float .f32 t']]) ∧ (zs.length = p ∧ RowsL q v (flipL p q xs) zs ∧ SlopeR u p zs r s t) ∧ (zs'.length = q ∧ RowsL p u xs zs' ∧ SlopeR v q zs' r' s' t') ∧ Below w.heap.size w w' := by
  have HF := Frame.hid (fun W hS hA => l04Flip_calls g p q bk off n n xs hp hq hn hl W hS hA)
  have HC := Frame.hid (fun W hS hA => l04RowsF_calls g bk off n n p q u xs hp hq hn hl W hS (Nat.le_refl _) hA)
  have HC2 := Frame.hid (fun gf b2 c2 => l04RowsC_calls gf b2 0 n c2 q p v (flipL p q xs) hq hp (by rw [flipL_len]; exact hl) (by rw [Nat.mul_comm]; exact hl))
  have hn36 : n ≤ 36 := by rw [hl]; exact Nat.mul_le_mul hp.2 hq.2
  have hfl : (flipL p q xs).length = n := by rw [flipL_len, hl]
  have HFL := Frame.hid hfl
  have HS := Frame.hid hS
  have HA := Frame.hid hA
  have hgl := hS.l
  clear hn hl hA hS hfl
  have hw : Below w.heap.size w ((w.alloc (.cells #[.float .f32 0, .float .f32 0, .float .f32 0] 28)).alloc (.cells #[.float .f32 0, .float .f32 0, .float .f32 0] 28)) := by (apply bel_of; (repeat (first | apply below_dn | apply below_al)); exact below_st _)
  go_enter Try.func59, Try.ntmps59
  go_wp2_with fail
  refine (HF.out _ (HS.out.below hw) (HA.out.below hw)).mono ?_
  rintro e w1 ⟨vf, rfl, hO, hB1⟩
  obtain ⟨b2, c2, rfl, hnc, hR2⟩ := hO.rdc (by have h4 : 2 * 2 ≤ p * q := Nat.mul_le_mul hp.1 hq.1; rw [flipL_len]; omega)
  rw [HFL.out] at hnc ⊢
  have HB1 := Frame.hid hB1
  have HR2 := Frame.hid hR2
  have HNC := Frame.hid hnc
  clear hO hB1 hR2 hnc
  go_wp2_with fail
  obtain ⟨w2, hw2⟩ : ∃ w2, w2 = w1.alloc (.cells #[.int .i64 q, .int .i64 p, .slice (some ⟨b2, 0, none⟩) n c2] 33) := ⟨_, rfl⟩
  obtain ⟨gF, hgF⟩ : ∃ gF, gF = w1.heap.size := ⟨_, rfl⟩
  have hS2 : Sh3 w2 gF q p (.slice (some ⟨b2, 0, none⟩) n c2) := by rw [hw2, hgF]; exact Sh3.here _ _ _ _ _
  have h12 : Below w1.heap.size w1 w2 := by rw [hw2]; exact (Below.refl _ _).alloc (Nat.le_refl _) _
  rw [← hw2, ← hgF]
  have hB02 := HB1.out.trans (h12.mono HB1.out.size)
  refine (HC2.out gF b2 c2 w2 hS2 HNC.out (HR2.out.below h12)).mono ?_
  rintro e w3 ⟨A3, c3, zs, rfl, hzl, hZ, hR3, hB3⟩
  have HZ := Frame.hid hZ
  have HZL := Frame.hid hzl
  have HR3 := Frame.hid hR3
  have HB3 := Frame.hid (hB02.trans (hB3.mono hB02.size))
  clear hZ hzl hR3 hB3 hS2 h12 hB02 hw2 hgF
  go_wp2_with fail
  refine (l04Cut_calls A3 zs p c3 u 2 HZL.out.symm (by omega) (by omega) w3 HR3.out).mono ?_
  rintro e w4 ⟨A4, c4, ys, rfl, hyl, hC, hR4, hB4⟩
  have HC4 := Frame.hid hC
  have HYL := Frame.hid hyl
  have HR4 := Frame.hid hR4
  have hB04 := HB3.out.trans (hB4.mono HB3.out.size)
  have HB4 := Frame.hid hB04
  have HS4 := Frame.hid ((HS.out.below hw).below hB04)
  have HA4 := Frame.hid ((HA.out.below hw).below hB04)
  clear hC hyl hR4 hB4 hB04
  go_wp2_with fail
  refine (HC.out w4 HS4.out HA4.out).mono ?_
  rintro e w5 ⟨A5, c5, zs', rfl, hzl, hZ, hR5, hB5, hN5⟩
  have HN5 := Frame.hid hN5
  have HZ' := Frame.hid hZ
  have HZL' := Frame.hid hzl
  have HR5 := Frame.hid hR5
  have HB45 := Frame.hid hB5
  clear hZ hzl hR5 hB5
  go_wp2_with fail
  refine (l04CutF_calls A5 zs' q c5 v 2 HZL'.out.symm (by omega) (by omega) w5 HR5.out).mono ?_
  rintro e w6a ⟨A6, c6, ys', rfl, hyl, hC, hR6, hB6, hN6⟩
  have hN46 : NewB w4 A6 := hN6.elim (fun e => by rw [e]; exact HN5.out) (fun h => h.mono HB45.out.size)
  have hB46 := HB45.out.trans (hB6.mono HB45.out.size)
  have hR46 := HR4.out.below hB46
  obtain ⟨w6, hw6⟩ : ∃ w6, w6 = w6a := ⟨_, rfl⟩
  subst hw6
  obtain ⟨b4, o4, rfl, hb4, hc4⟩ := hR46.h (by have := HYL.out; omega)
  obtain ⟨b6, o6, rfl, hb6, hc6⟩ := hR6.h (by omega)
  have hb6n : w4.heap.size ≤ b6 := hN46 _ _ rfl
  have hsz4 : w.heap.size + 2 ≤ w4.heap.size := by have := HB4.out.size; simp at this; omega
  have hB46s : w5.heap.size ≤ w6.heap.size := hB6.size
  clear hN6 hN46
  have p0 := hc4 0 (by have := HYL.out; omega)
  have p1 := hc4 1 (by have := HYL.out; omega)
  have r0 := hc6 0 (by omega)
  have r1 := hc6 1 (by omega)
  simp only [Nat.zero_mul, Nat.one_mul, Nat.add_zero] at p0 p1 r0 r1
  have hS6 := HS4.out.below hB46
  have HB06 := Frame.hid (HB4.out.trans (hB46.mono HB4.out.size))
  have hSA : ∀ a b c, (∃ d e f, LessR (sx ys 1) (sy ys 1) (sz ys 1) (sx ys 0) (sy ys 0) (sz ys 0) d e f ∧ TimesR d e f (floatOfInt .f32 ((p : Int) - 1)) a b c) → SlopeR u p zs a b c := fun a b c ⟨d, e, f, h1, h2⟩ => ⟨ys, d, e, f, HC4.out, h1, h2⟩
  have hSB : ∀ a b c, (∃ d e f, LessR (sx ys' 1) (sy ys' 1) (sz ys' 1) (sx ys' 0) (sy ys' 0) (sz ys' 0) d e f ∧ TimesR d e f (floatOfInt .f32 ((q : Int) - 1)) a b c) → SlopeR v q zs' a b c := fun a b c ⟨d, e, f, h1, h2⟩ => ⟨ys', d, e, f, hC, h1, h2⟩
  obtain ⟨ax, hax⟩ : ∃ x, x = sx ys 0 := ⟨_, rfl⟩
  obtain ⟨ay, hay⟩ : ∃ x, x = sy ys 0 := ⟨_, rfl⟩
  obtain ⟨az, haz⟩ : ∃ x, x = sz ys 0 := ⟨_, rfl⟩
  obtain ⟨bx, hbx⟩ : ∃ x, x = sx ys 1 := ⟨_, rfl⟩
  obtain ⟨by', hby⟩ : ∃ x, x = sy ys 1 := ⟨_, rfl⟩
  obtain ⟨bz, hbz⟩ : ∃ x, x = sz ys 1 := ⟨_, rfl⟩
  rw [← hax, ← hay, ← haz, ← hbx, ← hby, ← hbz] at hSA
  rw [← hax, ← hay, ← haz] at p0
  rw [← hbx, ← hby, ← hbz] at p1
  obtain ⟨cx, hcx⟩ : ∃ x, x = sx ys' 0 := ⟨_, rfl⟩
  obtain ⟨cy, hcy⟩ : ∃ x, x = sy ys' 0 := ⟨_, rfl⟩
  obtain ⟨cz, hcz⟩ : ∃ x, x = sz ys' 0 := ⟨_, rfl⟩
  obtain ⟨dx, hdx⟩ : ∃ x, x = sx ys' 1 := ⟨_, rfl⟩
  obtain ⟨dy, hdy⟩ : ∃ x, x = sy ys' 1 := ⟨_, rfl⟩
  obtain ⟨dz, hdz⟩ : ∃ x, x = sz ys' 1 := ⟨_, rfl⟩
  rw [← hcx, ← hcy, ← hcz, ← hdx, ← hdy, ← hdz] at hSB
  rw [← hcx, ← hcy, ← hcz] at r0
  rw [← hdx, ← hdy, ← hdz] at r1
  have HSA := Frame.hid hSA
  have HSB := Frame.hid hSB
  have HP := Frame.hid (And.intro p0 (And.intro p1 (And.intro r0 r1)))
  have HS6 := Frame.hid hS6
  clear hyl hC hR6 hB6 hB46 hR46 hc4 hc6 p0 p1 r0 r1 hS6 hSA hSB hax hay haz hbx hby hbz hcx hcy hcz hdx hdy hdz
  have hwr : IntKind.i64.wrap ((p : Int) - 1) = (p : Int) - 1 := by rw [IntKind.wrap_i64]; omega
  go_wp2_with fail
  go_cut [11] (fun s11 wx => ∃ g1 a b c, s11 = .pointer (some ⟨g1, 0, none⟩) ∧ SlopeR u p zs a b c ∧ At3 wx g1 a b c ∧ Below w6.heap.size w6 wx ∧ w6.heap.size ≤ g1 ∧ g1 < wx.heap.size)
  case first =>
    obtain ⟨p0, p1, -, -⟩ := HP.out
    have hs6 := HS6.out
    have hk6 : ∀ W, Below w6.heap.size w6 W → (W.cell? ⟨b4, o4, none⟩ = some (.float .f32 ax) ∧ W.cell? ⟨b4, o4 + 1, none⟩ = some (.float .f32 ay) ∧ W.cell? ⟨b4, o4 + 2, none⟩ = some (.float .f32 az) ∧ W.cell? ⟨b4, o4 + 3, none⟩ = some (.float .f32 bx) ∧ W.cell? ⟨b4, o4 + 3 + 1, none⟩ = some (.float .f32 by') ∧ W.cell? ⟨b4, o4 + 3 + 2, none⟩ = some (.float .f32 bz) ∧ W.cell? ⟨g, 0, none⟩ = some (.int .i64 p)) := fun W h => ⟨(p0.keep h hb4).c0, (p0.keep h hb4).c1, (p0.keep h hb4).c2, (p1.keep h hb4).c0, (p1.keep h hb4).c1, (p1.keep h hb4).c2, (hs6.below h).c0⟩
    have hS0 : Below w6.heap.size w6 w6.drew := (Below.refl _ _).drew
    clear p0 p1 hs6
    refine region_hand 15 (fun W => Below w6.heap.size w6 W) (by kernel_rfl) ?_
    refine' wpEnd_take 0 rfl (by kernel_rfl) hS0 (Or.inl ⟨by rfl, fun wq hSq => _⟩) _
    rotate_left
    · (obtain ⟨q0, q1, q2, q3, q4, q5, q6⟩ := hk6 _ hSq; go_simp; (try with_reducible rfl))
    simp only [Act.put, List.setIfInBounds_toArray, List.set_cons_zero, List.set_cons_succ]
    refine' wpEnd_take 1 rfl (by kernel_rfl) hS0 (Or.inl ⟨by rfl, fun wq hSq => _⟩) _
    rotate_left
    · (obtain ⟨q0, q1, q2, q3, q4, q5, q6⟩ := hk6 _ hSq; go_simp; (try with_reducible rfl))
    simp only [Act.put, List.setIfInBounds_toArray, List.set_cons_zero, List.set_cons_succ]
    refine' wpEnd_take 2 rfl (by kernel_rfl) hS0 (Or.inl ⟨by rfl, fun wq hSq => _⟩) _
    rotate_left
    · (obtain ⟨q0, q1, q2, q3, q4, q5, q6⟩ := hk6 _ hSq; go_simp; (try with_reducible rfl))
    simp only [Act.put, List.setIfInBounds_toArray, List.set_cons_zero, List.set_cons_succ]
    refine' wpEnd_take 3 rfl (by kernel_rfl) hS0 (Or.inl ⟨by rfl, fun wq hSq => _⟩) _
    rotate_left
    · (obtain ⟨q0, q1, q2, q3, q4, q5, q6⟩ := hk6 _ hSq; go_simp; (try with_reducible rfl))
    simp only [Act.put, List.setIfInBounds_toArray, List.set_cons_zero, List.set_cons_succ]
    refine' wpEnd_take 4 rfl (by kernel_rfl) hS0 (Or.inl ⟨by rfl, fun wq hSq => _⟩) _
    rotate_left
    · (obtain ⟨q0, q1, q2, q3, q4, q5, q6⟩ := hk6 _ hSq; go_simp; (try with_reducible rfl))
    simp only [Act.put, List.setIfInBounds_toArray, List.set_cons_zero, List.set_cons_succ]
    refine' wpEnd_take 5 rfl (by kernel_rfl) hS0 (Or.inl ⟨by rfl, fun wq hSq => _⟩) _
    rotate_left
    · (obtain ⟨q0, q1, q2, q3, q4, q5, q6⟩ := hk6 _ hSq; go_simp; (try with_reducible rfl))
    simp only [Act.put, List.setIfInBounds_toArray, List.set_cons_zero, List.set_cons_succ]
    refine' wpEnd_take 7 rfl (by kernel_rfl) hS0 (Or.inl ⟨by rfl, fun wq hSq => _⟩) _
    rotate_left
    · (obtain ⟨q0, q1, q2, q3, q4, q5, q6⟩ := hk6 _ hSq; go_simp; (try with_reducible rfl))
    simp only [Act.put, List.setIfInBounds_toArray, List.set_cons_zero, List.set_cons_succ]
    refine' wpEnd_take 8 rfl (by kernel_rfl) hS0 (Or.inl ⟨by rfl, fun wq hSq => _⟩) _
    rotate_left
    · (obtain ⟨q0, q1, q2, q3, q4, q5, q6⟩ := hk6 _ hSq; go_simp; (try with_reducible rfl))
    simp only [Act.put, List.setIfInBounds_toArray, List.set_cons_zero, List.set_cons_succ]
    refine' wpEnd_take 9 rfl (by kernel_rfl) hS0 (Or.inl ⟨by rfl, fun wq hSq => _⟩) _
    rotate_left
    · (obtain ⟨q0, q1, q2, q3, q4, q5, q6⟩ := hk6 _ hSq; go_simp; (try with_reducible rfl))
    simp only [Act.put, List.setIfInBounds_toArray, List.set_cons_zero, List.set_cons_succ]
    refine' wpEnd_take 10 rfl (by kernel_rfl) hS0 (Or.inl ⟨by rfl, fun wq hSq => _⟩) _
    rotate_left
    · (obtain ⟨q0, q1, q2, q3, q4, q5, q6⟩ := hk6 _ hSq; go_simp; (try with_reducible rfl))
    simp only [Act.put, List.setIfInBounds_toArray, List.set_cons_zero, List.set_cons_succ]
    refine' wpEnd_take 11 rfl (by kernel_rfl) hS0 (Or.inl ⟨by rfl, fun wq hSq => _⟩) _
    rotate_left
    · (obtain ⟨q0, q1, q2, q3, q4, q5, q6⟩ := hk6 _ hSq; go_simp; (try with_reducible rfl))
    simp only [Act.put, List.setIfInBounds_toArray, List.set_cons_zero, List.set_cons_succ]
    refine' wpEnd_take 12 rfl (by kernel_rfl) hS0 (Or.inl ⟨by rfl, fun wq hSq => _⟩) _
    rotate_left
    · (obtain ⟨q0, q1, q2, q3, q4, q5, q6⟩ := hk6 _ hSq; go_simp; (try with_reducible rfl))
    simp only [Act.put, List.setIfInBounds_toArray, List.set_cons_zero, List.set_cons_succ]
    have hsz : w6.heap.size ≤ w6.drew.heap.size := hS0.size
    generalize w6.drew = wd at hS0 hsz ⊢
    refine wpEnd_ready [6, 14] (by kernel_rfl) rfl (AllE.cons rfl (fun K hK => ?_) (AllE.cons rfl (fun K hK => ?_) AllE.nil))
    · go_simp
      go_at_call 89
      refine (l04Less_calls _ _ _ _ _ _ _).mono ?_
      rintro e_ w7 ⟨d, e, f, rfl, hL, hB7⟩
      have hW7 := hS0.trans (hB7.mono hS0.size)
      refine hK.out _ _ (.inr hW7) ?_
      clear hK K
      (try simp only [Act.put, List.setIfInBounds_toArray, List.set_cons_zero, List.set_cons_succ])
      refine wpEnd_ready [13, 14] (by kernel_rfl) rfl (AllE.cons rfl (fun K hK => ?_) (AllE.cons rfl (fun K hK => ?_) AllE.nil))
      · go_simp
        go_at_call 97
        refine (l04Times_calls _ _ _ _ _).mono ?_
        rintro e_ w8 ⟨a, b, c, rfl, hT, hB8⟩
        have hW8 := hW7.trans (hB8.mono hW7.size)
        refine hK.out _ _ (.inr hW8) ?_
        clear hK K
        (try simp only [Act.put, List.setIfInBounds_toArray, List.set_cons_zero, List.set_cons_succ])
        refine wpEnd_ready [14] (by kernel_rfl) rfl (AllE.cons rfl (fun K hK => ?_) AllE.nil)
        go_simp
        have hWA := hW8.alloc hW8.size (.cells #[.float .f32 0, .float .f32 0, .float .f32 0] 28)
        refine hK.out _ _ (.inr hWA) ?_
        clear hK K
        (try simp only [Act.put, List.setIfInBounds_toArray, List.set_cons_zero, List.set_cons_succ])
        have hge : w6.heap.size ≤ w8.heap.size := hW8.size
        have hN : New (w8.alloc (.cells #[.float .f32 0, .float .f32 0, .float .f32 0] 28)) w8.heap.size := New.born (Below.refl _ _)
        have hF := hN.f
        have hC0 := hN.a.c0
        have hC1 := hN.a.c1
        have hC2 := hN.a.c2
        refine wpEnd_ready [15] (by kernel_rfl) rfl (AllE.cons rfl (fun K hK => ?_) AllE.nil)
        go_simp
        refine hK.out _ _ (.inl rfl) ?_
        clear hK K
        refine wpEnd_done (by kernel_rfl) ?_
        go_wp2_with fail
        go_meet
        exact ⟨_, a, b, c, rfl, HSA.out _ _ _ ⟨_, _, _, hL, hT⟩, At3.here _ _ _ _ _, hW8.alloc hW8.size _, hge, by simp⟩
      · go_simp
        have hWA := hW7.alloc hW7.size (.cells #[.float .f32 0, .float .f32 0, .float .f32 0] 28)
        refine hK.out _ _ (.inr hWA) ?_
        clear hK K
        (try simp only [Act.put, List.setIfInBounds_toArray, List.set_cons_zero, List.set_cons_succ])
        refine wpEnd_ready [13] (by kernel_rfl) rfl (AllE.cons rfl (fun K hK => ?_) AllE.nil)
        go_simp
        go_at_call 97
        refine (l04Times_calls _ _ _ _ _).mono ?_
        rintro e_ w8 ⟨a, b, c, rfl, hT, hB8⟩
        have hW8 := hWA.trans (hB8.mono hWA.size)
        refine hK.out _ _ (.inr hW8) ?_
        clear hK K
        (try simp only [Act.put, List.setIfInBounds_toArray, List.set_cons_zero, List.set_cons_succ])
        have hge : w6.heap.size ≤ w7.heap.size := hW7.size
        have hN : New w8 w7.heap.size := New.born hB8
        have hF := hN.f
        have hC0 := hN.a.c0
        have hC1 := hN.a.c1
        have hC2 := hN.a.c2
        refine wpEnd_ready [15] (by kernel_rfl) rfl (AllE.cons rfl (fun K hK => ?_) AllE.nil)
        go_simp
        refine hK.out _ _ (.inl rfl) ?_
        clear hK K
        refine wpEnd_done (by kernel_rfl) ?_
        go_wp2_with fail
        go_meet
        exact ⟨_, a, b, c, rfl, HSA.out _ _ _ ⟨_, _, _, hL, hT⟩, At3.set hN _ _ _, ((hW8.setCell (p := ⟨_, 0, none⟩) hge _).setCell (p := ⟨_, 1, none⟩) hge _).setCell (p := ⟨_, 2, none⟩) hge _, hge, New.lt3 hN _ _ _⟩
    · go_simp
      have hWA := hS0.alloc hsz (.cells #[.float .f32 0, .float .f32 0, .float .f32 0] 28)
      refine hK.out _ _ (.inr hWA) ?_
      clear hK K
      (try simp only [Act.put, List.setIfInBounds_toArray, List.set_cons_zero, List.set_cons_succ])
      refine wpEnd_ready [6] (by kernel_rfl) rfl (AllE.cons rfl (fun K hK => ?_) AllE.nil)
      go_simp
      go_at_call 89
      refine (l04Less_calls _ _ _ _ _ _ _).mono ?_
      rintro e_ w7 ⟨d, e, f, rfl, hL, hB7⟩
      have hW7 := hWA.trans (hB7.mono hWA.size)
      refine hK.out _ _ (.inr hW7) ?_
      clear hK K
      (try simp only [Act.put, List.setIfInBounds_toArray, List.set_cons_zero, List.set_cons_succ])
      refine wpEnd_ready [13] (by kernel_rfl) rfl (AllE.cons rfl (fun K hK => ?_) AllE.nil)
      go_simp
      go_at_call 97
      refine (l04Times_calls _ _ _ _ _).mono ?_
      rintro e_ w8 ⟨a, b, c, rfl, hT, hB8⟩
      have hW8 := hW7.trans (hB8.mono hW7.size)
      refine hK.out _ _ (.inr hW8) ?_
      clear hK K
      (try simp only [Act.put, List.setIfInBounds_toArray, List.set_cons_zero, List.set_cons_succ])
      have hge : w6.heap.size ≤ wd.heap.size := hsz
      have hN : New w8 wd.heap.size := (New.born hB7).go hB8
      have hF := hN.f
      have hC0 := hN.a.c0
      have hC1 := hN.a.c1
      have hC2 := hN.a.c2
      refine wpEnd_ready [15] (by kernel_rfl) rfl (AllE.cons rfl (fun K hK => ?_) AllE.nil)
      go_simp
      refine hK.out _ _ (.inl rfl) ?_
      clear hK K
      refine wpEnd_done (by kernel_rfl) ?_
      go_wp2_with fail
      go_meet
      exact ⟨_, a, b, c, rfl, HSA.out _ _ _ ⟨_, _, _, hL, hT⟩, At3.set hN _ _ _, ((hW8.setCell (p := ⟨_, 0, none⟩) hge _).setCell (p := ⟨_, 1, none⟩) hge _).setCell (p := ⟨_, 2, none⟩) hge _, hge, New.lt3 hN _ _ _⟩
  case rest =>
    obtain ⟨g1, r, s, t, rfl, hSl, hA1, hB6c, hg1, hg1l⟩ := hcut
    obtain ⟨w6c, hw6c⟩ : ∃ w6c, w6c = wc := ⟨_, rfl⟩
    subst hw6c
    obtain ⟨-, -, r0, r1⟩ := HP.out
    have hs6 := (HS6.out.below hB6c).c1
    have hgl2 : g < w6c.heap.size := (HS6.out.below hB6c).l
    have r0c := r0.keep hB6c hb6
    have r1c := r1.keep hB6c hb6
    have hb6c : b6 < w6c.heap.size := Nat.lt_of_lt_of_le hb6 hB6c.size
    have hs46 : w4.heap.size ≤ w6.heap.size := Nat.le_trans HB45.out.size hB46s
    have hKS : ∀ W, Below w6c.heap.size w6c W → (At3 W g1 r s t ∧ At3o W b6 o6 cx cy cz ∧ At3o W b6 (o6 + 3) dx dy dz ∧ W.cell? ⟨g, 1, none⟩ = some (.int .i64 q)) := fun W h => ⟨hA1.keep h hg1l, r0c.keep h hb6c, r1c.keep h hb6c, (h.cell (p := ⟨g, 1, none⟩) hgl2).trans hs6⟩
    have HB0c := Frame.hid (HB06.out.trans (hB6c.mono HB06.out.size))
    have HSL := Frame.hid hSl
    have hwq : IntKind.i64.wrap ((q : Int) - 1) = (q : Int) - 1 := by rw [IntKind.wrap_i64]; omega
    have hD : Below w6c.heap.size w6c w6c.drew := (Below.refl _ _).drew
    have hS0 := hKS _ hD
    have hn1 : w.heap.size ≠ g1 := by omega
    have hn2 : w.heap.size ≠ b6 := by omega
    have hn3 : w.heap.size ≠ g := by omega
    clear hA1 hB6c r0 r1 r0c r1c hs6 hSl
    go_wp2_with fail
    refine region_hand 16 (fun W => At3 W g1 r s t ∧ At3o W b6 o6 cx cy cz ∧ At3o W b6 (o6 + 3) dx dy dz ∧ W.cell? ⟨g, 1, none⟩ = some (.int .i64 q)) (by kernel_rfl) ?_
    refine' wpEnd_take 0 rfl (by kernel_rfl) hS0 (Or.inl ⟨by rfl, fun wq hSq => _⟩) _
    rotate_left
    · (obtain ⟨⟨q0, q1, q2⟩, ⟨q3, q4, q5⟩, ⟨q6, q7, q8⟩, q9⟩ := hSq; go_simp; (try with_reducible rfl))
    simp only [Act.put, List.setIfInBounds_toArray, List.set_cons_zero, List.set_cons_succ]
    refine' wpEnd_take 1 rfl (by kernel_rfl) hS0 (Or.inl ⟨by rfl, fun wq hSq => _⟩) _
    rotate_left
    · (obtain ⟨⟨q0, q1, q2⟩, ⟨q3, q4, q5⟩, ⟨q6, q7, q8⟩, q9⟩ := hSq; go_simp; (try with_reducible rfl))
    simp only [Act.put, List.setIfInBounds_toArray, List.set_cons_zero, List.set_cons_succ]
    refine' wpEnd_take 2 rfl (by kernel_rfl) hS0 (Or.inl ⟨by rfl, fun wq hSq => _⟩) _
    rotate_left
    · (obtain ⟨⟨q0, q1, q2⟩, ⟨q3, q4, q5⟩, ⟨q6, q7, q8⟩, q9⟩ := hSq; go_simp; (try with_reducible rfl))
    simp only [Act.put, List.setIfInBounds_toArray, List.set_cons_zero, List.set_cons_succ]
    refine' wpEnd_take 3 rfl (by kernel_rfl) hS0 (Or.inl ⟨by rfl, fun wq hSq => _⟩) _
    rotate_left
    · (obtain ⟨⟨q0, q1, q2⟩, ⟨q3, q4, q5⟩, ⟨q6, q7, q8⟩, q9⟩ := hSq; go_simp; (try with_reducible rfl))
    simp only [Act.put, List.setIfInBounds_toArray, List.set_cons_zero, List.set_cons_succ]
    refine' wpEnd_take 4 rfl (by kernel_rfl) hS0 (Or.inl ⟨by rfl, fun wq hSq => _⟩) _
    rotate_left
    · (obtain ⟨⟨q0, q1, q2⟩, ⟨q3, q4, q5⟩, ⟨q6, q7, q8⟩, q9⟩ := hSq; go_simp; (try with_reducible rfl))
    simp only [Act.put, List.setIfInBounds_toArray, List.set_cons_zero, List.set_cons_succ]
    refine' wpEnd_take 5 rfl (by kernel_rfl) hS0 (Or.inl ⟨by rfl, fun wq hSq => _⟩) _
    rotate_left
    · (obtain ⟨⟨q0, q1, q2⟩, ⟨q3, q4, q5⟩, ⟨q6, q7, q8⟩, q9⟩ := hSq; go_simp; (try with_reducible rfl))
    simp only [Act.put, List.setIfInBounds_toArray, List.set_cons_zero, List.set_cons_succ]
    refine' wpEnd_take 6 rfl (by kernel_rfl) hS0 (Or.inl ⟨by rfl, fun wq hSq => _⟩) _
    rotate_left
    · (obtain ⟨⟨q0, q1, q2⟩, ⟨q3, q4, q5⟩, ⟨q6, q7, q8⟩, q9⟩ := hSq; go_simp; (try with_reducible rfl))
    simp only [Act.put, List.setIfInBounds_toArray, List.set_cons_zero, List.set_cons_succ]
    refine' wpEnd_take 8 rfl (by kernel_rfl) hS0 (Or.inl ⟨by rfl, fun wq hSq => _⟩) _
    rotate_left
    · (obtain ⟨⟨q0, q1, q2⟩, ⟨q3, q4, q5⟩, ⟨q6, q7, q8⟩, q9⟩ := hSq; go_simp; (try with_reducible rfl))
    simp only [Act.put, List.setIfInBounds_toArray, List.set_cons_zero, List.set_cons_succ]
    refine' wpEnd_take 9 rfl (by kernel_rfl) hS0 (Or.inl ⟨by rfl, fun wq hSq => _⟩) _
    rotate_left
    · (obtain ⟨⟨q0, q1, q2⟩, ⟨q3, q4, q5⟩, ⟨q6, q7, q8⟩, q9⟩ := hSq; go_simp; (try with_reducible rfl))
    simp only [Act.put, List.setIfInBounds_toArray, List.set_cons_zero, List.set_cons_succ]
    refine' wpEnd_take 10 rfl (by kernel_rfl) hS0 (Or.inl ⟨by rfl, fun wq hSq => _⟩) _
    rotate_left
    · (obtain ⟨⟨q0, q1, q2⟩, ⟨q3, q4, q5⟩, ⟨q6, q7, q8⟩, q9⟩ := hSq; go_simp; (try with_reducible rfl))
    simp only [Act.put, List.setIfInBounds_toArray, List.set_cons_zero, List.set_cons_succ]
    refine' wpEnd_take 11 rfl (by kernel_rfl) hS0 (Or.inl ⟨by rfl, fun wq hSq => _⟩) _
    rotate_left
    · (obtain ⟨⟨q0, q1, q2⟩, ⟨q3, q4, q5⟩, ⟨q6, q7, q8⟩, q9⟩ := hSq; go_simp; (try with_reducible rfl))
    simp only [Act.put, List.setIfInBounds_toArray, List.set_cons_zero, List.set_cons_succ]
    refine' wpEnd_take 12 rfl (by kernel_rfl) hS0 (Or.inl ⟨by rfl, fun wq hSq => _⟩) _
    rotate_left
    · (obtain ⟨⟨q0, q1, q2⟩, ⟨q3, q4, q5⟩, ⟨q6, q7, q8⟩, q9⟩ := hSq; go_simp; (try with_reducible rfl))
    simp only [Act.put, List.setIfInBounds_toArray, List.set_cons_zero, List.set_cons_succ]
    refine' wpEnd_take 13 rfl (by kernel_rfl) hS0 (Or.inl ⟨by rfl, fun wq hSq => _⟩) _
    rotate_left
    · (obtain ⟨⟨q0, q1, q2⟩, ⟨q3, q4, q5⟩, ⟨q6, q7, q8⟩, q9⟩ := hSq; go_simp; (try with_reducible rfl))
    simp only [Act.put, List.setIfInBounds_toArray, List.set_cons_zero, List.set_cons_succ]
    generalize w6c.drew = wd at hD hS0 ⊢
    refine wpEnd_ready [7] (by kernel_rfl) rfl (AllE.cons rfl (fun K hK => ?_) AllE.nil)
    go_simp
    go_at_call 89
    refine (l04Less_calls _ _ _ _ _ _ _).mono ?_
    rintro e_ w7 ⟨d, e, f, rfl, hL, hB7⟩
    have hW7 := hD.trans (hB7.mono hD.size)
    refine hK.out _ _ (.inr (hKS _ hW7)) ?_
    clear hK K
    (try simp only [Act.put, List.setIfInBounds_toArray, List.set_cons_zero, List.set_cons_succ])
    refine wpEnd_ready [14] (by kernel_rfl) rfl (AllE.cons rfl (fun K hK => ?_) AllE.nil)
    go_simp
    go_at_call 97
    refine (l04Times_calls _ _ _ _ _).mono ?_
    rintro e_ w8 ⟨a, b, c, rfl, hT, hB8⟩
    have hW8 := hW7.trans (hB8.mono hW7.size)
    refine hK.out _ _ (.inr (hKS _ hW8)) ?_
    clear hK K
    (try simp only [Act.put, List.setIfInBounds_toArray, List.set_cons_zero, List.set_cons_succ])
    have hB08 : Below ((w.alloc (.cells #[.float .f32 0, .float .f32 0, .float .f32 0] 28)).alloc (.cells #[.float .f32 0, .float .f32 0, .float .f32 0] 28)).heap.size ((w.alloc (.cells #[.float .f32 0, .float .f32 0, .float .f32 0] 28)).alloc (.cells #[.float .f32 0, .float .f32 0, .float .f32 0] 28)) w8 := HB0c.out.trans (hW8.mono HB0c.out.size)
    have k0 : w8.cell? ⟨w.heap.size, 0, none⟩ = some (.float .f32 0) := (hB08.cell (p := ⟨w.heap.size, 0, none⟩) (by simp; try omega)).trans (by simp [go_sem])
    have k1 : w8.cell? ⟨w.heap.size, 1, none⟩ = some (.float .f32 0) := (hB08.cell (p := ⟨w.heap.size, 1, none⟩) (by simp; try omega)).trans (by simp [go_sem])
    have k2 : w8.cell? ⟨w.heap.size, 2, none⟩ = some (.float .f32 0) := (hB08.cell (p := ⟨w.heap.size, 2, none⟩) (by simp; try omega)).trans (by simp [go_sem])
    have k3 : w8.cell? ⟨w.heap.size + 1, 0, none⟩ = some (.float .f32 0) := (hB08.cell (p := ⟨w.heap.size + 1, 0, none⟩) (by simp)).trans (by simp [go_sem])
    have k4 : w8.cell? ⟨w.heap.size + 1, 1, none⟩ = some (.float .f32 0) := (hB08.cell (p := ⟨w.heap.size + 1, 1, none⟩) (by simp)).trans (by simp [go_sem])
    have k5 : w8.cell? ⟨w.heap.size + 1, 2, none⟩ = some (.float .f32 0) := (hB08.cell (p := ⟨w.heap.size + 1, 2, none⟩) (by simp)).trans (by simp [go_sem])
    have kf : ∀ i, w8.frozen? ⟨w.heap.size, i, none⟩ = false := fun i => (hB08.frozen (p := ⟨w.heap.size, i, none⟩) (by simp; try omega)).trans (by simp [go_sem])
    have kg : ∀ i, w8.frozen? ⟨w.heap.size + 1, i, none⟩ = false := fun i => (hB08.frozen (p := ⟨w.heap.size + 1, i, none⟩) (by simp)).trans (by simp [go_sem])
    obtain ⟨⟨e0, e1, e2⟩, e3, e4, e5⟩ := two_read (w := w8) (.float .f32 r) (.float .f32 s) (.float .f32 t) (.float .f32 a) (.float .f32 b) (.float .f32 c) k0 k1 k2 k3 k4 k5
    have hS8 := hKS _ hW8
    have hS9 : At3 (((w8.setCell ⟨w.heap.size, 0, none⟩ (.float .f32 r)).setCell ⟨w.heap.size, 1, none⟩ (.float .f32 s)).setCell ⟨w.heap.size, 2, none⟩ (.float .f32 t)) g1 r s t ∧ At3o (((w8.setCell ⟨w.heap.size, 0, none⟩ (.float .f32 r)).setCell ⟨w.heap.size, 1, none⟩ (.float .f32 s)).setCell ⟨w.heap.size, 2, none⟩ (.float .f32 t)) b6 o6 cx cy cz ∧ At3o (((w8.setCell ⟨w.heap.size, 0, none⟩ (.float .f32 r)).setCell ⟨w.heap.size, 1, none⟩ (.float .f32 s)).setCell ⟨w.heap.size, 2, none⟩ (.float .f32 t)) b6 (o6 + 3) dx dy dz ∧ (((w8.setCell ⟨w.heap.size, 0, none⟩ (.float .f32 r)).setCell ⟨w.heap.size, 1, none⟩ (.float .f32 s)).setCell ⟨w.heap.size, 2, none⟩ (.float .f32 t)).cell? ⟨g, 1, none⟩ = some (.int .i64 q) := ⟨((hS8.1.putOther hn1).putOther hn1).putOther hn1, ((hS8.2.1.putOther hn2).putOther hn2).putOther hn2, ((hS8.2.2.1.putOther hn2).putOther hn2).putOther hn2, by rw [cell_other hn3, cell_other hn3, cell_other hn3]; exact hS8.2.2.2⟩
    refine wpEnd_ready [15] (by kernel_rfl) rfl (AllE.cons rfl (fun K hK => ?_) AllE.nil)
    go_simp
    refine hK.out _ _ (.inr hS9) ?_
    clear hK K
    (try simp only [Act.put, List.setIfInBounds_toArray, List.set_cons_zero, List.set_cons_succ])
    refine wpEnd_ready [16] (by kernel_rfl) rfl (AllE.cons rfl (fun K hK => ?_) AllE.nil)
    go_simp
    refine hK.out _ _ (.inl rfl) ?_
    clear hK K
    refine wpEnd_done (by kernel_rfl) ?_
    go_wp2_with fail
    refine bodyPost_ret (v := .tuple #[.agg #[.float .f32 r, .float .f32 s, .float .f32 t], .agg #[.float .f32 a, .float .f32 b, .float .f32 c]]) (by simp [results, Try.results59, go_sem, e0, e1, e2, e3, e4, e5]) rfl ⟨zs, zs', r, s, t, a, b, c, rfl, ⟨HZL.out, HZ.out, HSL.out⟩, ⟨HZL'.out, HZ'.out, HSB.out _ _ _ ⟨_, _, _, hL, hT⟩⟩, ?_⟩
    exact six_below (hw.trans (hB08.mono hw.size)) (Nat.le_refl _)

end Go.Proofs.Ytohbanchaggnmaa
