/-
  The slopes of a sheet: the specification's side, all of it.
-/
import Derived.Test.YtohbanchaggnmaaI4
import Derived.Test.YtohbanchaggnmaaH8
namespace Go.Proofs.Ytohbanchaggnmaa
open Go.RowKit Fl Go.WideShapes Go.Deep
attribute [local go_sem] kstore_f kalloc_drewN kset_drewN hstore_i hstore_s

set_option maxRecDepth 100000 in
set_option maxHeartbeats 4000000 in
theorem specSlopesAt_calls (A : Option Addr) (xs : List (Nat × Nat × Nat)) (n : Nat) (hxn : n = xs.length) (a b : Int) (u v : Nat) (w : World) (hn : n ≤ 1048576) (hr : RdS w A xs) :
    Calls Try.prog 16 #[.agg #[.int .i64 a, .int .i64 b, .slice A n n], .float .f32 u, .float .f32 v] w fun e w' => ∃ x y z x' y' z' ok, e = .returned (.tuple #[.agg #[.float .f32 x, .float .f32 y, .float .f32 z], .agg #[.float .f32 x', .float .f32 y', .float .f32 z'], .bool ok]) ∧ SlO a b xs u v x y z x' y' z' ok ∧ Below w.heap.size w w' := by
  have hw : Below w.heap.size w (((w.alloc (.cells #[.int .i64 a, .int .i64 b, .slice A n n] 33)).alloc (.cells #[.float .f32 0, .float .f32 0, .float .f32 0] 28)).alloc (.cells #[.float .f32 0, .float .f32 0, .float .f32 0] 28)) := by (apply bel_of; (repeat (first | apply below_dn | apply below_al)); exact below_st _)
  have HSH : Hid (Sh3 (((w.alloc (.cells #[.int .i64 a, .int .i64 b, .slice A n n] 33)).alloc (.cells #[.float .f32 0, .float .f32 0, .float .f32 0] 28)).alloc (.cells #[.float .f32 0, .float .f32 0, .float .f32 0] 28)) w.heap.size a b (.slice A n n)) := Frame.hid ((Sh3.here w a b (.slice A n n) 33).below (((Below.refl _ _).alloc (Nat.le_refl _) _).alloc (by simp) _))
  have HC := Frame.hid (l04Can_calls w.heap.size A xs n hxn a b u v _ hn HSH.out (hr.below hw))
  have HX := Frame.hid hxn
  have HR := Frame.hid (hr.below hw)
  clear hr hxn
  cases h1 : placeB a b xs u v
  · have H1 := Frame.hid h1
    clear h1
    go_enter Try.func16, Try.ntmps16
    go_wp2_with (go_at_call 58; refine (HC.out).mono ?_; rintro e w' ⟨rfl, hB⟩; rw [H1.out]; have hc := rd_of hB; have hz := fz_of hB; have hs := sz_of hB; have HB := Frame.hid hB; clear hB)
    have k0 : w'.cell? ⟨w.heap.size + 1, 0, none⟩ = some (.float .f32 0) := by rw [hc _ _ (by simp)]; simp [go_sem]
    have k1 : w'.cell? ⟨w.heap.size + 1, 1, none⟩ = some (.float .f32 0) := by rw [hc _ _ (by simp)]; simp [go_sem]
    have k2 : w'.cell? ⟨w.heap.size + 1, 2, none⟩ = some (.float .f32 0) := by rw [hc _ _ (by simp)]; simp [go_sem]
    have k3 : w'.cell? ⟨w.heap.size + 1 + 1, 0, none⟩ = some (.float .f32 0) := by rw [hc _ _ (by simp)]; simp [go_sem]
    have k4 : w'.cell? ⟨w.heap.size + 1 + 1, 1, none⟩ = some (.float .f32 0) := by rw [hc _ _ (by simp)]; simp [go_sem]
    have k5 : w'.cell? ⟨w.heap.size + 1 + 1, 2, none⟩ = some (.float .f32 0) := by rw [hc _ _ (by simp)]; simp [go_sem]
    obtain ⟨⟨e0, e1, e2⟩, e3, e4, e5⟩ := two_read (w := w') (.float .f32 0) (.float .f32 0) (.float .f32 0) (.float .f32 0) (.float .f32 0) (.float .f32 0) k0 k1 k2 k3 k4 k5
    refine bodyPost_ret (v := .tuple #[.agg #[.float .f32 0, .float .f32 0, .float .f32 0], .agg #[.float .f32 0, .float .f32 0, .float .f32 0], .bool false]) (by simp [results, Try.results16, go_sem, e0, e1, e2, e3, e4, e5]) rfl ⟨_, _, _, _, _, _, _, rfl, .inr ⟨H1.out, rfl, rfl, rfl, rfl, rfl, rfl, rfl⟩, ?_⟩
    exact six_below (hw.trans (HB.out.mono hw.size)) (by simp)
  · have H1 := Frame.hid h1
    have h2 : shB a b xs = true := by unfold placeB at h1; simp only [Bool.and_eq_true] at h1; exact h1.1.1
    obtain ⟨p, q, rfl, rfl, hp, hq, hl⟩ := shB_open HX.out h2
    obtain ⟨bk, off, rfl, -, -⟩ := HR.out.h (by have := HX.out; have : 2 * 2 ≤ p * q := Nat.mul_le_mul hp.1 hq.1; omega)
    have HA := Frame.hid (fun W hS hr => l04Slopes_calls w.heap.size bk off n p q u v xs hp hq HX.out hl W hS hr)
    clear h1 h2 hl
    go_enter Try.func16, Try.ntmps16
    go_wp2_with fail
    refine (HC.out).mono ?_
    rintro e w1 ⟨rfl, hB1⟩
    rw [H1.out]
    have HS1 := Frame.hid (HSH.out.below hB1)
    have HR1 := Frame.hid (HR.out.below hB1)
    have HB1 := Frame.hid hB1
    clear hB1
    go_wp2_with fail
    refine (HA.out w1 HS1.out HR1.out).mono ?_
    rintro e w2 ⟨zs, zs', r, s, t, r', s', t', rfl, ⟨hzl, hZ, hSl⟩, ⟨hzl', hZ', hSl'⟩, hB2⟩
    have hB12 := HB1.out.trans (hB2.mono HB1.out.size)
    have HZZ := Frame.hid (And.intro (And.intro hzl (And.intro hZ hSl)) (And.intro hzl' (And.intro hZ' hSl')))
    clear hzl hZ hSl hzl' hZ' hSl' hB2
    go_wp2_with fail
    obtain ⟨w7, hw7⟩ : ∃ w7, w7 = (w2.alloc (.cells #[.float .f32 r, .float .f32 s, .float .f32 t] 28)).alloc (.cells #[.float .f32 r', .float .f32 s', .float .f32 t'] 28) := ⟨_, rfl⟩
    obtain ⟨ga, hga⟩ : ∃ ga, ga = w2.heap.size := ⟨_, rfl⟩
    obtain ⟨gb, hgb⟩ : ∃ gb, gb = ga + 1 := ⟨_, rfl⟩
    have h27 : Below w2.heap.size w2 w7 := by rw [hw7]; exact ((Below.refl _ _).alloc (Nat.le_refl _) _).alloc (by simp) _
    have hA7 : At3 w7 ga r s t := by rw [hw7, hga]; exact (At3.here _ _ _ _ _).keep ((Below.refl _ _).alloc (Nat.le_refl _) _) (by simp)
    have hB7 : At3 w7 gb r' s' t' := by rw [hw7, hgb, hga]; have := At3.here (w2.alloc (.cells #[.float .f32 r, .float .f32 s, .float .f32 t] 28)) r' s' t' 28; simpa using this
    have hga7 : ga < w7.heap.size := by rw [hw7, hga]; simp; omega
    have hgb7 : gb < w7.heap.size := by rw [hw7, hgb, hga]; simp
    have h07 := hB12.trans (h27.mono hB12.size)
    have hga0 : w.heap.size + 3 ≤ ga := by rw [hga]; have := hB12.size; simp at this; omega
    have hgb0 : w.heap.size + 3 ≤ gb := by omega
    rw [← hw7, ← hga]
    subst hgb
    have HB7 := Frame.hid h07
    have HAB := Frame.hid (fun W (h : Below w7.heap.size w7 W) => And.intro (hA7.keep h hga7) (hB7.keep h hgb7))
    clear hB12 h27
    have HKK := Frame.hid (fun W (h : Below (((w.alloc (.cells #[.int .i64 p, .int .i64 q, .slice (some ⟨bk, off, none⟩) n n] 33)).alloc (.cells #[.float .f32 0, .float .f32 0, .float .f32 0] 28)).alloc (.cells #[.float .f32 0, .float .f32 0, .float .f32 0] 28)).heap.size (((w.alloc (.cells #[.int .i64 p, .int .i64 q, .slice (some ⟨bk, off, none⟩) n n] 33)).alloc (.cells #[.float .f32 0, .float .f32 0, .float .f32 0] 28)).alloc (.cells #[.float .f32 0, .float .f32 0, .float .f32 0] 28)) W) => (show W.cell? ⟨w.heap.size + 1, 0, none⟩ = some (.float .f32 0) ∧ W.cell? ⟨w.heap.size + 1, 1, none⟩ = some (.float .f32 0) ∧ W.cell? ⟨w.heap.size + 1, 2, none⟩ = some (.float .f32 0) ∧ W.cell? ⟨w.heap.size + 1 + 1, 0, none⟩ = some (.float .f32 0) ∧ W.cell? ⟨w.heap.size + 1 + 1, 1, none⟩ = some (.float .f32 0) ∧ W.cell? ⟨w.heap.size + 1 + 1, 2, none⟩ = some (.float .f32 0) ∧ (∀ i, W.frozen? ⟨w.heap.size + 1, i, none⟩ = false) ∧ (∀ i, W.frozen? ⟨w.heap.size + 1 + 1, i, none⟩ = false) from ⟨(h.cell (p := ⟨w.heap.size + 1, 0, none⟩) (by simp)).trans (by simp [go_sem]), (h.cell (p := ⟨w.heap.size + 1, 1, none⟩) (by simp)).trans (by simp [go_sem]), (h.cell (p := ⟨w.heap.size + 1, 2, none⟩) (by simp)).trans (by simp [go_sem]), (h.cell (p := ⟨w.heap.size + 1 + 1, 0, none⟩) (by simp)).trans (by simp [go_sem]), (h.cell (p := ⟨w.heap.size + 1 + 1, 1, none⟩) (by simp)).trans (by simp [go_sem]), (h.cell (p := ⟨w.heap.size + 1 + 1, 2, none⟩) (by simp)).trans (by simp [go_sem]), fun i => (h.frozen (p := ⟨w.heap.size + 1, i, none⟩) (by simp)).trans (by simp [go_sem]), fun i => (h.frozen (p := ⟨w.heap.size + 1 + 1, i, none⟩) (by simp)).trans (by simp [go_sem])⟩))
    have HSO := Frame.hid (fun x y z x' y' z' ok (ho : ok = (fin3 r s t && fin3 r' s' t')) (h1 : ok = true → x = r ∧ y = s ∧ z = t ∧ x' = r' ∧ y' = s' ∧ z' = t') (h2 : ok = false → x = 0 ∧ y = 0 ∧ z = 0 ∧ x' = 0 ∧ y' = 0 ∧ z' = 0) => (show ∃ zs zs' r s t r' s' t', zs.length = (p : Int).toNat ∧ RowsL (q : Int).toNat v (flipL (p : Int).toNat (q : Int).toNat xs) zs ∧ SlopeR u (p : Int).toNat zs r s t ∧ zs'.length = (q : Int).toNat ∧ RowsL (p : Int).toNat u xs zs' ∧ SlopeR v (q : Int).toNat zs' r' s' t' ∧ ok = (fin3 r s t && fin3 r' s' t') ∧ (ok = true → x = r ∧ y = s ∧ z = t ∧ x' = r' ∧ y' = s' ∧ z' = t') ∧ (ok = false → x = 0 ∧ y = 0 ∧ z = 0 ∧ x' = 0 ∧ y' = 0 ∧ z' = 0) from by
      simp only [Int.toNat_natCast]
      exact ⟨zs, zs', r, s, t, r', s', t', HZZ.out.1.1, HZZ.out.1.2.1, HZZ.out.1.2.2, HZZ.out.2.1, HZZ.out.2.2.1, HZZ.out.2.2.2, ho, h1, h2⟩))
    have hsz0 : w.heap.size + 3 ≤ w7.heap.size := by have := h07.size; simp at this; omega
    clear hB7 hA7 hw7 hga h07
    refine (l04Spot_calls r s t w7).mono ?_
    rintro e w8 ⟨rfl, m8, hw8⟩
    have hB8 : Below w7.heap.size w7 w8 := by rw [hw8]; exact below_drewN ((Below.refl _ _).alloc (Nat.le_refl _) _) _
    have hB08 := HB7.out.trans (hB8.mono HB7.out.size)
    obtain ⟨k0, k1, k2, k3, k4, k5, kf, kg⟩ := HKK.out w8 hB08
    obtain ⟨⟨a0, a1, a2⟩, c0, c1, c2⟩ := HAB.out w8 hB8
    have hga8 : ga < w8.heap.size := Nat.lt_of_lt_of_le hga7 hB8.size
    have hgb8 : (ga + 1) < w8.heap.size := Nat.lt_of_lt_of_le hgb7 hB8.size
    have HB8 := Frame.hid hB8
    have HB08 := Frame.hid hB08
    clear hw8 hB8 hB08
    cases hf : fin3 r s t
    · obtain ⟨⟨e0, e1, e2⟩, e3, e4, e5⟩ := two_read (w := w8) (.float .f32 0) (.float .f32 0) (.float .f32 0) (.float .f32 0) (.float .f32 0) (.float .f32 0) k0 k1 k2 k3 k4 k5
      go_wp2_with fail
      refine bodyPost_ret (v := .tuple #[.agg #[.float .f32 0, .float .f32 0, .float .f32 0], .agg #[.float .f32 0, .float .f32 0, .float .f32 0], .bool false]) (by simp [results, Try.results16, go_sem, e0, e1, e2, e3, e4, e5]) rfl ⟨_, _, _, _, _, _, _, rfl, .inl ⟨H1.out, HSO.out _ _ _ _ _ _ false (by simp [hf]) (fun h => (by cases h)) (fun _ => ⟨rfl, rfl, rfl, rfl, rfl, rfl⟩)⟩, ?_⟩
      exact six_below (hw.trans (HB08.out.mono hw.size)) (by simp)
    · clear k0 k1 k2 k3 k4 k5 kf kg
      go_wp2_with fail
      refine (l04Spot_calls r' s' t' w8).mono ?_
      rintro e w9 ⟨rfl, m9, hw9⟩
      have hB9 : Below w8.heap.size w8 w9 := by rw [hw9]; exact below_drewN ((Below.refl _ _).alloc (Nat.le_refl _) _) _
      have hB79 := HB8.out.trans (hB9.mono HB8.out.size)
      have hB09 := HB08.out.trans (hB9.mono HB08.out.size)
      clear a0 a1 a2 c0 c1 c2
      obtain ⟨k0, k1, k2, k3, k4, k5, kf, kg⟩ := HKK.out w9 hB09
      obtain ⟨⟨a0, a1, a2⟩, c0, c1, c2⟩ := HAB.out w9 hB79
      have hga9 : ga < w9.heap.size := Nat.lt_of_lt_of_le hga8 hB9.size
      have hgb9 : (ga + 1) < w9.heap.size := Nat.lt_of_lt_of_le hgb8 hB9.size
      have hsz9 : w.heap.size + 3 ≤ w9.heap.size := Nat.le_trans hsz0 hB79.size
      have HB09 := Frame.hid hB09
      clear hw9 hB9 hB79 hB09
      cases hf' : fin3 r' s' t'
      · obtain ⟨⟨e0, e1, e2⟩, e3, e4, e5⟩ := two_read (w := w9) (.float .f32 0) (.float .f32 0) (.float .f32 0) (.float .f32 0) (.float .f32 0) (.float .f32 0) k0 k1 k2 k3 k4 k5
        go_wp2_with fail
        refine bodyPost_ret (v := .tuple #[.agg #[.float .f32 0, .float .f32 0, .float .f32 0], .agg #[.float .f32 0, .float .f32 0, .float .f32 0], .bool false]) (by simp [results, Try.results16, go_sem, e0, e1, e2, e3, e4, e5]) rfl ⟨_, _, _, _, _, _, _, rfl, .inl ⟨H1.out, HSO.out _ _ _ _ _ _ false (by simp [hf, hf']) (fun h => (by cases h)) (fun _ => ⟨rfl, rfl, rfl, rfl, rfl, rfl⟩)⟩, ?_⟩
        exact six_below (hw.trans (HB09.out.mono hw.size)) (by simp)
      · clear k0 k1 k2 k3 k4 k5 kf kg
        go_wp2_with fail
        have hS0 : At3 w9.drew ga r s t ∧ At3 w9.drew (ga + 1) r' s' t' := ⟨⟨a0, a1, a2⟩, ⟨c0, c1, c2⟩⟩
        have hn1 : w.heap.size + 1 ≠ ga := by omega
        have hn2 : w.heap.size + 1 ≠ (ga + 1) := by omega
        have hn3 : w.heap.size + 1 + 1 ≠ ga := by omega
        have hn4 : w.heap.size + 1 + 1 ≠ (ga + 1) := by omega
        refine region_hand 4 (fun W => At3 W ga r s t ∧ At3 W (ga + 1) r' s' t') (by kernel_rfl) ?_
        refine' wpEnd_take 0 rfl (by kernel_rfl) hS0 (Or.inl ⟨by rfl, fun wq hSq => _⟩) _
        rotate_left
        · (have q0 := hSq.1.c0; have q1 := hSq.1.c1; have q2 := hSq.1.c2; have q3 := hSq.2.c0; have q4 := hSq.2.c1; have q5 := hSq.2.c2; go_simp; (try with_reducible rfl))
        simp only [Act.put, List.setIfInBounds_toArray, List.set_cons_zero, List.set_cons_succ]
        refine' wpEnd_take 1 rfl (by kernel_rfl) hS0 (Or.inl ⟨by rfl, fun wq hSq => _⟩) _
        rotate_left
        · (have q0 := hSq.1.c0; have q1 := hSq.1.c1; have q2 := hSq.1.c2; have q3 := hSq.2.c0; have q4 := hSq.2.c1; have q5 := hSq.2.c2; go_simp; (try with_reducible rfl))
        simp only [Act.put, List.setIfInBounds_toArray, List.set_cons_zero, List.set_cons_succ]
        have hBd : Below w.heap.size w w9.drew := (hw.trans (HB09.out.mono hw.size)).drew
        obtain ⟨k0, k1, k2, k3, k4, k5, kf, kg⟩ := HKK.out w9.drew HB09.out.drew
        obtain ⟨⟨e0, e1, e2⟩, e3, e4, e5⟩ := two_read (w := w9.drew) (.float .f32 r) (.float .f32 s) (.float .f32 t) (.float .f32 r') (.float .f32 s') (.float .f32 t') k0 k1 k2 k3 k4 k5
        generalize w9.drew = wd at hS0 hBd k0 k1 k2 k3 k4 k5 kf kg e0 e1 e2 e3 e4 e5 ⊢
        refine wpEnd_ready [2] (by kernel_rfl) rfl (AllE.cons rfl (fun K hK => ?_) AllE.nil)
        go_simp
        refine hK.out _ _ (.inr ⟨((hS0.1.putOther hn1).putOther hn1).putOther hn1, ((hS0.2.putOther hn2).putOther hn2).putOther hn2⟩) ?_
        clear hK K
        (try simp only [Act.put, List.setIfInBounds_toArray, List.set_cons_zero, List.set_cons_succ])
        have hS1 : At3 (((wd.setCell ⟨w.heap.size + 1, 0, none⟩ (.float .f32 r)).setCell ⟨w.heap.size + 1, 1, none⟩ (.float .f32 s)).setCell ⟨w.heap.size + 1, 2, none⟩ (.float .f32 t)) ga r s t ∧ At3 (((wd.setCell ⟨w.heap.size + 1, 0, none⟩ (.float .f32 r)).setCell ⟨w.heap.size + 1, 1, none⟩ (.float .f32 s)).setCell ⟨w.heap.size + 1, 2, none⟩ (.float .f32 t)) (ga + 1) r' s' t' := ⟨((hS0.1.putOther hn1).putOther hn1).putOther hn1, ((hS0.2.putOther hn2).putOther hn2).putOther hn2⟩
        refine wpEnd_ready [3] (by kernel_rfl) rfl (AllE.cons rfl (fun K hK => ?_) AllE.nil)
        go_simp
        refine hK.out _ _ (.inr ⟨((hS1.1.putOther hn3).putOther hn3).putOther hn3, ((hS1.2.putOther hn4).putOther hn4).putOther hn4⟩) ?_
        clear hK K
        (try simp only [Act.put, List.setIfInBounds_toArray, List.set_cons_zero, List.set_cons_succ])
        refine wpEnd_ready [4] (by kernel_rfl) rfl (AllE.cons rfl (fun K hK => ?_) AllE.nil)
        go_simp
        refine hK.out _ _ (.inl rfl) ?_
        clear hK K
        refine wpEnd_done (by kernel_rfl) ?_
        go_wp2_with fail
        refine bodyPost_ret (v := .tuple #[.agg #[.float .f32 r, .float .f32 s, .float .f32 t], .agg #[.float .f32 r', .float .f32 s', .float .f32 t'], .bool true]) (by simp [results, Try.results16, go_sem, e0, e1, e2, e3, e4, e5]) rfl ⟨_, _, _, _, _, _, _, rfl, .inl ⟨H1.out, HSO.out _ _ _ _ _ _ true (by simp [hf, hf']) (fun _ => ⟨rfl, rfl, rfl, rfl, rfl, rfl⟩) (fun h => (by cases h))⟩, ?_⟩
        exact six_below hBd (by simp)

end Go.Proofs.Ytohbanchaggnmaa
