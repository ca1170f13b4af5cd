/-
  The slopes of a sheet: the program's side.
-/
import Derived.Test.YtohbanchaggnmaaI5
import Derived.Test.YtohbanchaggnmaaI2
namespace Go.Proofs.Ytohbanchaggnmaa
open Go.RowKit Fl Go.WideShapes Go.Deep
attribute [local go_sem] kstore_f kalloc_drewN kset_drewN hstore_i hstore_s

/-- The slopes that are handed out. -/
def SlO (a b : Int) (xs : List (Nat × Nat × Nat)) (u v : Nat) (x y z x' y' z' : Nat) (ok : Bool) : Prop :=
  (placeB a b xs u v = true ∧ ∃ zs zs' r s t r' s' t', zs.length = a.toNat ∧ RowsL b.toNat v (flipL a.toNat b.toNat xs) zs ∧ SlopeR u a.toNat zs r s t ∧ zs'.length = b.toNat ∧ RowsL a.toNat u xs zs' ∧ SlopeR v b.toNat zs' r' s' t' ∧ ok = (fin3 r s t && fin3 r' s' t') ∧ (ok = true → x = r ∧ y = s ∧ z = t ∧ x' = r' ∧ y' = s' ∧ z' = t') ∧ (ok = false → x = 0 ∧ y = 0 ∧ z = 0 ∧ x' = 0 ∧ y' = 0 ∧ z' = 0)) ∨
  (placeB a b xs u v = false ∧ x = 0 ∧ y = 0 ∧ z = 0 ∧ x' = 0 ∧ y' = 0 ∧ z' = 0 ∧ ok = false)
theorem SlO.same {a b : Int} {xs : List (Nat × Nat × Nat)} {u v x y z x' y' z' X Y Z X' Y' Z' : Nat} {ok ok' : Bool} {n : Nat} (hx : n = xs.length) (h : SlO a b xs u v x y z x' y' z' ok) (g : SlO a b xs u v X Y Z X' Y' Z' ok') : S3 x y z X Y Z ∧ S3 x' y' z' X' Y' Z' ∧ ok = ok' := by
  rcases h with ⟨h1, zs, zs', r, s, t, r', s', t', l1, c1, e1, l2, c2, e2, ho, ht, hf⟩ | ⟨h1, rfl, rfl, rfl, rfl, rfl, rfl, rfl⟩
  · rcases g with ⟨_, ys, ys', R, S, T, R', S', T', m1, d1, f1, m2, d2, f2, go, gt, gf⟩ | ⟨g1, _⟩
    · have h2 : shB a b xs = true := by unfold placeB at h1; simp only [Bool.and_eq_true] at h1; exact h1.1.1
      obtain ⟨p, q, rfl, rfl, hp, hq, -⟩ := shB_open hx h2
      simp only [Int.toNat_natCast] at *
      have s1 := SlopeR.same (by omega) l1 (RowsL.same (by omega) c1 d1 l1 m1) e1 f1
      have s2 := SlopeR.same (by omega) l2 (RowsL.same (by omega) c2 d2 l2 m2) e2 f2
      have hk : ok = ok' := by rw [ho, go, s1.fin, s2.fin]
      subst hk
      cases ok
      · obtain ⟨rfl, rfl, rfl, rfl, rfl, rfl⟩ := hf rfl
        obtain ⟨rfl, rfl, rfl, rfl, rfl, rfl⟩ := gf rfl
        exact ⟨S3.refl _ _ _, S3.refl _ _ _, rfl⟩
      · obtain ⟨rfl, rfl, rfl, rfl, rfl, rfl⟩ := ht rfl
        obtain ⟨rfl, rfl, rfl, rfl, rfl, rfl⟩ := gt rfl
        exact ⟨s1, s2, rfl⟩
    · rw [h1] at g1; cases g1
  · rcases g with ⟨g1, _⟩ | ⟨_, rfl, rfl, rfl, rfl, rfl, rfl, rfl⟩
    · rw [h1] at g1; cases g1
    · exact ⟨S3.refl _ _ _, S3.refl _ _ _, rfl⟩

theorem two_read {w : World} {g : Nat} {u0 u1 u2 u3 u4 u5 : Value} (v0 v1 v2 v3 v4 v5 : Value) (h0 : w.cell? ⟨g, 0, none⟩ = some u0) (h1 : w.cell? ⟨g, 1, none⟩ = some u1) (h2 : w.cell? ⟨g, 2, none⟩ = some u2) (h3 : w.cell? ⟨g + 1, 0, none⟩ = some u3) (h4 : w.cell? ⟨g + 1, 1, none⟩ = some u4) (h5 : w.cell? ⟨g + 1, 2, none⟩ = some u5) :
    let W := (((((w.setCell ⟨g, 0, none⟩ v0).setCell ⟨g, 1, none⟩ v1).setCell ⟨g, 2, none⟩ v2).setCell ⟨g + 1, 0, none⟩ v3).setCell ⟨g + 1, 1, none⟩ v4).setCell ⟨g + 1, 2, none⟩ v5
    (W.cell? ⟨g, 0, none⟩ = some v0 ∧ W.cell? ⟨g, 1, none⟩ = some v1 ∧ W.cell? ⟨g, 2, none⟩ = some v2) ∧ W.cell? ⟨g + 1, 0, none⟩ = some v3 ∧ W.cell? ⟨g + 1, 1, none⟩ = some v4 ∧ W.cell? ⟨g + 1, 2, none⟩ = some v5 := by
  intro W
  obtain ⟨a0, a1, a2⟩ := set3_read (w := w) (v0 := v0) (v1 := v1) (v2 := v2) h0 h1 h2
  have o : ∀ (x : World) (i j : Nat) (v : Value), (x.setCell ⟨g, i, none⟩ v).cell? ⟨g + 1, j, none⟩ = x.cell? ⟨g + 1, j, none⟩ := fun x i j v => World.cell?_setCell_other _ _ _ _ (by simp)
  have o' : ∀ (x : World) (i j : Nat) (v : Value), (x.setCell ⟨g + 1, i, none⟩ v).cell? ⟨g, j, none⟩ = x.cell? ⟨g, j, none⟩ := fun x i j v => World.cell?_setCell_other _ _ _ _ (by simp)
  obtain ⟨b0, b1, b2⟩ := set3_read (w := ((w.setCell ⟨g, 0, none⟩ v0).setCell ⟨g, 1, none⟩ v1).setCell ⟨g, 2, none⟩ v2) (v0 := v3) (v1 := v4) (v2 := v5) (by rw [o, o, o]; exact h3) (by rw [o, o, o]; exact h4) (by rw [o, o, o]; exact h5)
  exact ⟨⟨by rw [o', o', o']; exact a0, by rw [o', o', o']; exact a1, by rw [o', o', o']; exact a2⟩, b0, b1, b2⟩
theorem At3.putOther {W : World} {g k i x y z : Nat} {v : Value} (h : At3 W g x y z) (hk : k ≠ g) : At3 (W.setCell ⟨k, i, none⟩ v) g x y z := by
  refine ⟨?_, ?_, ?_⟩
  all_goals rw [World.cell?_setCell_other _ _ _ _ (by intro e; injection e with e1; exact hk e1)]
  · exact h.c0
  · exact h.c1
  · exact h.c2
theorem six_below {w W : World} {g : Nat} {v0 v1 v2 v3 v4 v5 : Value} (h : Below w.heap.size w W) (hg : w.heap.size ≤ g) : Below w.heap.size w ((((((W.setCell ⟨g, 0, none⟩ v0).setCell ⟨g, 1, none⟩ v1).setCell ⟨g, 2, none⟩ v2).setCell ⟨g + 1, 0, none⟩ v3).setCell ⟨g + 1, 1, none⟩ v4).setCell ⟨g + 1, 2, none⟩ v5) :=
  (((((h.setCell (p := ⟨g, 0, none⟩) hg _).setCell (p := ⟨g, 1, none⟩) hg _).setCell (p := ⟨g, 2, none⟩) hg _).setCell (p := ⟨g + 1, 0, none⟩) (Nat.le_succ_of_le hg) _).setCell (p := ⟨g + 1, 1, none⟩) (Nat.le_succ_of_le hg) _).setCell (p := ⟨g + 1, 2, none⟩) (Nat.le_succ_of_le hg) _

set_option maxRecDepth 100000 in
set_option maxHeartbeats 4000000 in
theorem slopesAt_calls (A : Option Addr) (xs : List (Nat × Nat × Nat)) (n : Nat) (hxn : n = xs.length) (a b : Int) (u v : Nat) (w : World) (hn : n ≤ 1048576) (hr : RdS w A xs) :
    Calls Try.prog 18 #[.agg #[.int .i64 a, .int .i64 b, .slice A n n], .float .f32 u, .float .f32 v] w fun e w' => ∃ x y z x' y' z' ok, e = .returned (.tuple #[.agg #[.float .f32 x, .float .f32 y, .float .f32 z], .agg #[.float .f32 x', .float .f32 y', .float .f32 z'], .bool ok]) ∧ SlO a b xs u v x y z x' y' z' ok ∧ Below w.heap.size w w' := by
  have hw : Below w.heap.size w (((w.alloc (.cells #[.int .i64 a, .int .i64 b, .slice A n n] 33)).alloc (.cells #[.float .f32 0, .float .f32 0, .float .f32 0] 28)).alloc (.cells #[.float .f32 0, .float .f32 0, .float .f32 0] 28)) := by (apply bel_of; (repeat (first | apply below_dn | apply below_al)); exact below_st _)
  have HSH : Hid (Sh3 (((w.alloc (.cells #[.int .i64 a, .int .i64 b, .slice A n n] 33)).alloc (.cells #[.float .f32 0, .float .f32 0, .float .f32 0] 28)).alloc (.cells #[.float .f32 0, .float .f32 0, .float .f32 0] 28)) w.heap.size a b (.slice A n n)) := Frame.hid ((Sh3.here w a b (.slice A n n) 33).below (((Below.refl _ _).alloc (Nat.le_refl _) _).alloc (by simp) _))
  have HC := Frame.hid (isPlace_calls A xs n hxn a b u v _ hn (hr.below hw))
  have HX := Frame.hid hxn
  have HR := Frame.hid (hr.below hw)
  clear hr hxn
  cases h1 : placeB a b xs u v
  · have H1 := Frame.hid h1
    clear h1
    go_enter Try.func18, Try.ntmps18
    go_wp2_with (go_at_call 61; refine (HC.out).mono ?_; rintro e w' ⟨rfl, hB⟩; rw [H1.out]; have hc := rd_of hB; have hz := fz_of hB; have hs := sz_of hB; have HB := Frame.hid hB; clear hB)
    have k0 : w'.cell? ⟨w.heap.size + 1, 0, none⟩ = some (.float .f32 0) := by rw [hc _ _ (by simp)]; simp [go_sem]
    have k1 : w'.cell? ⟨w.heap.size + 1, 1, none⟩ = some (.float .f32 0) := by rw [hc _ _ (by simp)]; simp [go_sem]
    have k2 : w'.cell? ⟨w.heap.size + 1, 2, none⟩ = some (.float .f32 0) := by rw [hc _ _ (by simp)]; simp [go_sem]
    have k3 : w'.cell? ⟨w.heap.size + 1 + 1, 0, none⟩ = some (.float .f32 0) := by rw [hc _ _ (by simp)]; simp [go_sem]
    have k4 : w'.cell? ⟨w.heap.size + 1 + 1, 1, none⟩ = some (.float .f32 0) := by rw [hc _ _ (by simp)]; simp [go_sem]
    have k5 : w'.cell? ⟨w.heap.size + 1 + 1, 2, none⟩ = some (.float .f32 0) := by rw [hc _ _ (by simp)]; simp [go_sem]
    obtain ⟨⟨e0, e1, e2⟩, e3, e4, e5⟩ := two_read (w := w') (.float .f32 0) (.float .f32 0) (.float .f32 0) (.float .f32 0) (.float .f32 0) (.float .f32 0) k0 k1 k2 k3 k4 k5
    refine bodyPost_ret (v := .tuple #[.agg #[.float .f32 0, .float .f32 0, .float .f32 0], .agg #[.float .f32 0, .float .f32 0, .float .f32 0], .bool false]) (by simp [results, Try.results18, go_sem, e0, e1, e2, e3, e4, e5]) rfl ⟨_, _, _, _, _, _, _, rfl, .inr ⟨H1.out, rfl, rfl, rfl, rfl, rfl, rfl, rfl⟩, ?_⟩
    exact six_below (hw.trans (HB.out.mono hw.size)) (by simp)
  · have H1 := Frame.hid h1
    have h2 : shB a b xs = true := by unfold placeB at h1; simp only [Bool.and_eq_true] at h1; exact h1.1.1
    obtain ⟨p, q, rfl, rfl, hp, hq, hl⟩ := shB_open HX.out h2
    obtain ⟨bk, off, rfl, -, -⟩ := HR.out.h (by have := HX.out; have : 2 * 2 ≤ p * q := Nat.mul_le_mul hp.1 hq.1; omega)
    have HA := Frame.hid (fun W hr => cutsOfRows_calls bk off n p q u xs hp hq HX.out hl W hr)
    have HA2 := Frame.hid (fun W hr => cutsOfColumns_calls bk off n p q v xs hp hq HX.out hl W hr)
    clear h1 h2 hl
    go_enter Try.func18, Try.ntmps18
    go_wp2_with fail
    refine (HC.out).mono ?_
    rintro e w1 ⟨rfl, hB1⟩
    rw [H1.out]
    have HR1 := Frame.hid (HR.out.below hB1)
    have HB1 := Frame.hid hB1
    obtain ⟨d0, d1, d2, -⟩ := HSH.out.below hB1
    have hsz1 : w.heap.size + 1 < w1.heap.size := by have := hB1.size; simp at this; omega
    clear hB1
    go_wp2_with fail
    refine (HA2.out w1 HR1.out).mono ?_
    rintro e w2 ⟨g2, zs, rfl, hzl, hZ, hR2, hB2⟩
    have HZ := Frame.hid hZ
    have HZL := Frame.hid hzl
    have HR2 := Frame.hid hR2
    have HB12 := Frame.hid hB2
    clear hzl hZ hR2 hB2 d0 d1 d2
    go_wp2_with fail
    refine (slopeOf_calls (some ⟨g2, 0, none⟩) zs p p u HZL.out.symm (by omega) w2 HR2.out).mono ?_
    rintro e w3 ⟨r, s, t, rfl, hSl, hB3⟩
    have HSL := Frame.hid hSl
    have hB13 := HB12.out.trans (hB3.mono HB12.out.size)
    obtain ⟨d0, d1, d2, dl⟩ := (HSH.out.below HB1.out).below hB13
    go_wp2_with fail
    obtain ⟨w4, hw4⟩ : ∃ w4, w4 = w3.alloc (.cells #[.float .f32 r, .float .f32 s, .float .f32 t] 28) := ⟨_, rfl⟩
    obtain ⟨ga, hga⟩ : ∃ ga, ga = w3.heap.size := ⟨_, rfl⟩
    have h34 : Below w3.heap.size w3 w4 := by rw [hw4]; exact (Below.refl _ _).alloc (Nat.le_refl _) _
    have hA4 : At3 w4 ga r s t := by rw [hw4, hga]; exact At3.here _ _ _ _ _
    have hga4 : ga < w4.heap.size := by rw [hw4, hga]; simp
    have hga0 : w.heap.size + 3 ≤ ga := by rw [hga]; have := (HB1.out.trans (hB13.mono HB1.out.size)).size; simp at this; omega
    rw [← hw4, ← hga]
    have hB14 := hB13.trans (h34.mono hB13.size)
    have HB4 := Frame.hid (HB1.out.trans (hB14.mono HB1.out.size))
    have HR4 := Frame.hid (HR1.out.below hB14)
    have HA4 := Frame.hid hA4
    clear hSl hB3 hB13 h34 hA4 hB14 d0 d1 d2 dl hw4 hga
    refine (HA.out w4 HR4.out).mono ?_
    rintro e w5 ⟨g5, zs', rfl, hzl, hZ, hR5, hB5⟩
    have HZ' := Frame.hid hZ
    have HZL' := Frame.hid hzl
    have HR5 := Frame.hid hR5
    have HB45 := Frame.hid hB5
    clear hzl hZ hR5 hB5
    go_wp2_with fail
    refine (slopeOf_calls (some ⟨g5, 0, none⟩) zs' q q v HZL'.out.symm (by omega) w5 HR5.out).mono ?_
    rintro e w6 ⟨r', s', t', rfl, hSl, hB6⟩
    have HSL' := Frame.hid hSl
    have hB46 := HB45.out.trans (hB6.mono HB45.out.size)
    have hA6 := HA4.out.keep hB46 hga4
    have a0 := hA6.c0
    have a1 := hA6.c1
    have a2 := hA6.c2
    have hga6 : ga < w6.heap.size := Nat.lt_of_lt_of_le hga4 hB46.size
    have HB6 := Frame.hid (HB4.out.trans (hB46.mono HB4.out.size))
    clear hSl hB6 hB46 hA6
    go_wp2_with fail
    obtain ⟨w7, hw7⟩ : ∃ w7, w7 = w6.alloc (.cells #[.float .f32 r', .float .f32 s', .float .f32 t'] 28) := ⟨_, rfl⟩
    obtain ⟨gb, hgb⟩ : ∃ gb, gb = w6.heap.size := ⟨_, rfl⟩
    have h67 : Below w6.heap.size w6 w7 := by rw [hw7]; exact (Below.refl _ _).alloc (Nat.le_refl _) _
    have hB7 : At3 w7 gb r' s' t' := by rw [hw7, hgb]; exact At3.here _ _ _ _ _
    have hgb7 : gb < w7.heap.size := by rw [hw7, hgb]; simp
    have hgb0 : w.heap.size + 3 ≤ gb := by rw [hgb]; have := HB6.out.size; simp at this; omega
    have hA7 : At3 w7 ga r s t := (At3.mk a0 a1 a2).keep h67 hga6
    have hga7 : ga < w7.heap.size := Nat.lt_of_lt_of_le hga6 h67.size
    rw [← hw7, ← hgb]
    have h07 := HB6.out.trans (h67.mono HB6.out.size)
    have HB7 := Frame.hid h07
    have HAB := Frame.hid (fun W (h : Below w7.heap.size w7 W) => And.intro (hA7.keep h hga7) (hB7.keep h hgb7))
    have HKK := Frame.hid (fun W (h : Below (((w.alloc (.cells #[.int .i64 p, .int .i64 q, .slice (some ⟨bk, off, none⟩) n n] 33)).alloc (.cells #[.float .f32 0, .float .f32 0, .float .f32 0] 28)).alloc (.cells #[.float .f32 0, .float .f32 0, .float .f32 0] 28)).heap.size (((w.alloc (.cells #[.int .i64 p, .int .i64 q, .slice (some ⟨bk, off, none⟩) n n] 33)).alloc (.cells #[.float .f32 0, .float .f32 0, .float .f32 0] 28)).alloc (.cells #[.float .f32 0, .float .f32 0, .float .f32 0] 28)) W) => (show W.cell? ⟨w.heap.size + 1, 0, none⟩ = some (.float .f32 0) ∧ W.cell? ⟨w.heap.size + 1, 1, none⟩ = some (.float .f32 0) ∧ W.cell? ⟨w.heap.size + 1, 2, none⟩ = some (.float .f32 0) ∧ W.cell? ⟨w.heap.size + 1 + 1, 0, none⟩ = some (.float .f32 0) ∧ W.cell? ⟨w.heap.size + 1 + 1, 1, none⟩ = some (.float .f32 0) ∧ W.cell? ⟨w.heap.size + 1 + 1, 2, none⟩ = some (.float .f32 0) ∧ (∀ i, W.frozen? ⟨w.heap.size + 1, i, none⟩ = false) ∧ (∀ i, W.frozen? ⟨w.heap.size + 1 + 1, i, none⟩ = false) from ⟨(h.cell (p := ⟨w.heap.size + 1, 0, none⟩) (by simp)).trans (by simp [go_sem]), (h.cell (p := ⟨w.heap.size + 1, 1, none⟩) (by simp)).trans (by simp [go_sem]), (h.cell (p := ⟨w.heap.size + 1, 2, none⟩) (by simp)).trans (by simp [go_sem]), (h.cell (p := ⟨w.heap.size + 1 + 1, 0, none⟩) (by simp)).trans (by simp [go_sem]), (h.cell (p := ⟨w.heap.size + 1 + 1, 1, none⟩) (by simp)).trans (by simp [go_sem]), (h.cell (p := ⟨w.heap.size + 1 + 1, 2, none⟩) (by simp)).trans (by simp [go_sem]), fun i => (h.frozen (p := ⟨w.heap.size + 1, i, none⟩) (by simp)).trans (by simp [go_sem]), fun i => (h.frozen (p := ⟨w.heap.size + 1 + 1, i, none⟩) (by simp)).trans (by simp [go_sem])⟩))
    have HSO := Frame.hid (fun x y z x' y' z' ok (ho : ok = (fin3 r s t && fin3 r' s' t')) (h1 : ok = true → x = r ∧ y = s ∧ z = t ∧ x' = r' ∧ y' = s' ∧ z' = t') (h2 : ok = false → x = 0 ∧ y = 0 ∧ z = 0 ∧ x' = 0 ∧ y' = 0 ∧ z' = 0) => (show ∃ zs zs' r s t r' s' t', zs.length = (p : Int).toNat ∧ RowsL (q : Int).toNat v (flipL (p : Int).toNat (q : Int).toNat xs) zs ∧ SlopeR u (p : Int).toNat zs r s t ∧ zs'.length = (q : Int).toNat ∧ RowsL (p : Int).toNat u xs zs' ∧ SlopeR v (q : Int).toNat zs' r' s' t' ∧ ok = (fin3 r s t && fin3 r' s' t') ∧ (ok = true → x = r ∧ y = s ∧ z = t ∧ x' = r' ∧ y' = s' ∧ z' = t') ∧ (ok = false → x = 0 ∧ y = 0 ∧ z = 0 ∧ x' = 0 ∧ y' = 0 ∧ z' = 0) from by
      simp only [Int.toNat_natCast]
      exact ⟨zs, zs', r, s, t, r', s', t', HZL.out, HZ.out, HSL.out, HZL'.out, HZ'.out, HSL'.out, ho, h1, h2⟩))
    have hsz0 : w.heap.size + 3 ≤ w7.heap.size := by have := h07.size; simp at this; omega
    clear h67 hB7 hA7 hw7 hgb h07 a0 a1 a2 hga4 hga6
    refine (isSpot_calls r s t w7).mono ?_
    rintro e w8 ⟨rfl, m8, hw8⟩
    have hB8 : Below w7.heap.size w7 w8 := by rw [hw8]; exact below_drewN ((Below.refl _ _).alloc (Nat.le_refl _) _) _
    have hB08 := HB7.out.trans (hB8.mono HB7.out.size)
    obtain ⟨k0, k1, k2, k3, k4, k5, kf, kg⟩ := HKK.out w8 hB08
    obtain ⟨⟨a0, a1, a2⟩, c0, c1, c2⟩ := HAB.out w8 hB8
    have hga8 : ga < w8.heap.size := Nat.lt_of_lt_of_le hga7 hB8.size
    have hgb8 : gb < w8.heap.size := Nat.lt_of_lt_of_le hgb7 hB8.size
    have HB8 := Frame.hid hB8
    have HB08 := Frame.hid hB08
    clear hw8 hB8 hB08
    cases hf : fin3 r s t
    · obtain ⟨⟨e0, e1, e2⟩, e3, e4, e5⟩ := two_read (w := w8) (.float .f32 0) (.float .f32 0) (.float .f32 0) (.float .f32 0) (.float .f32 0) (.float .f32 0) k0 k1 k2 k3 k4 k5
      go_wp2_with fail
      refine bodyPost_ret (v := .tuple #[.agg #[.float .f32 0, .float .f32 0, .float .f32 0], .agg #[.float .f32 0, .float .f32 0, .float .f32 0], .bool false]) (by simp [results, Try.results18, go_sem, e0, e1, e2, e3, e4, e5]) rfl ⟨_, _, _, _, _, _, _, rfl, .inl ⟨H1.out, HSO.out _ _ _ _ _ _ false (by simp [hf]) (fun h => (by cases h)) (fun _ => ⟨rfl, rfl, rfl, rfl, rfl, rfl⟩)⟩, ?_⟩
      exact six_below (hw.trans (HB08.out.mono hw.size)) (by simp)
    · clear k0 k1 k2 k3 k4 k5 kf kg
      go_wp2_with fail
      refine (isSpot_calls r' s' t' w8).mono ?_
      rintro e w9 ⟨rfl, m9, hw9⟩
      have hB9 : Below w8.heap.size w8 w9 := by rw [hw9]; exact below_drewN ((Below.refl _ _).alloc (Nat.le_refl _) _) _
      have hB79 := HB8.out.trans (hB9.mono HB8.out.size)
      have hB09 := HB08.out.trans (hB9.mono HB08.out.size)
      clear a0 a1 a2 c0 c1 c2
      obtain ⟨k0, k1, k2, k3, k4, k5, kf, kg⟩ := HKK.out w9 hB09
      obtain ⟨⟨a0, a1, a2⟩, c0, c1, c2⟩ := HAB.out w9 hB79
      have hga9 : ga < w9.heap.size := Nat.lt_of_lt_of_le hga8 hB9.size
      have hgb9 : gb < w9.heap.size := Nat.lt_of_lt_of_le hgb8 hB9.size
      have hsz9 : w.heap.size + 3 ≤ w9.heap.size := Nat.le_trans hsz0 hB79.size
      have HB09 := Frame.hid hB09
      clear hw9 hB9 hB79 hB09
      cases hf' : fin3 r' s' t'
      · obtain ⟨⟨e0, e1, e2⟩, e3, e4, e5⟩ := two_read (w := w9) (.float .f32 0) (.float .f32 0) (.float .f32 0) (.float .f32 0) (.float .f32 0) (.float .f32 0) k0 k1 k2 k3 k4 k5
        go_wp2_with fail
        refine bodyPost_ret (v := .tuple #[.agg #[.float .f32 0, .float .f32 0, .float .f32 0], .agg #[.float .f32 0, .float .f32 0, .float .f32 0], .bool false]) (by simp [results, Try.results18, go_sem, e0, e1, e2, e3, e4, e5]) rfl ⟨_, _, _, _, _, _, _, rfl, .inl ⟨H1.out, HSO.out _ _ _ _ _ _ false (by simp [hf, hf']) (fun h => (by cases h)) (fun _ => ⟨rfl, rfl, rfl, rfl, rfl, rfl⟩)⟩, ?_⟩
        exact six_below (hw.trans (HB09.out.mono hw.size)) (by simp)
      · clear k0 k1 k2 k3 k4 k5 kf kg
        go_wp2_with fail
        have hS0 : At3 w9.drew ga r s t ∧ At3 w9.drew gb r' s' t' := ⟨⟨a0, a1, a2⟩, ⟨c0, c1, c2⟩⟩
        have hn1 : w.heap.size + 1 ≠ ga := by omega
        have hn2 : w.heap.size + 1 ≠ gb := by omega
        have hn3 : w.heap.size + 1 + 1 ≠ ga := by omega
        have hn4 : w.heap.size + 1 + 1 ≠ gb := by omega
        refine region_hand 4 (fun W => At3 W ga r s t ∧ At3 W gb r' s' t') (by kernel_rfl) ?_
        refine' wpEnd_take 0 rfl (by kernel_rfl) hS0 (Or.inl ⟨by rfl, fun wq hSq => _⟩) _
        rotate_left
        · (have q0 := hSq.1.c0; have q1 := hSq.1.c1; have q2 := hSq.1.c2; have q3 := hSq.2.c0; have q4 := hSq.2.c1; have q5 := hSq.2.c2; go_simp; (try with_reducible rfl))
        simp only [Act.put, List.setIfInBounds_toArray, List.set_cons_zero, List.set_cons_succ]
        refine' wpEnd_take 1 rfl (by kernel_rfl) hS0 (Or.inl ⟨by rfl, fun wq hSq => _⟩) _
        rotate_left
        · (have q0 := hSq.1.c0; have q1 := hSq.1.c1; have q2 := hSq.1.c2; have q3 := hSq.2.c0; have q4 := hSq.2.c1; have q5 := hSq.2.c2; go_simp; (try with_reducible rfl))
        simp only [Act.put, List.setIfInBounds_toArray, List.set_cons_zero, List.set_cons_succ]
        have hBd : Below w.heap.size w w9.drew := (hw.trans (HB09.out.mono hw.size)).drew
        obtain ⟨k0, k1, k2, k3, k4, k5, kf, kg⟩ := HKK.out w9.drew HB09.out.drew
        obtain ⟨⟨e0, e1, e2⟩, e3, e4, e5⟩ := two_read (w := w9.drew) (.float .f32 r) (.float .f32 s) (.float .f32 t) (.float .f32 r') (.float .f32 s') (.float .f32 t') k0 k1 k2 k3 k4 k5
        generalize w9.drew = wd at hS0 hBd k0 k1 k2 k3 k4 k5 kf kg e0 e1 e2 e3 e4 e5 ⊢
        refine wpEnd_ready [2] (by kernel_rfl) rfl (AllE.cons rfl (fun K hK => ?_) AllE.nil)
        go_simp
        refine hK.out _ _ (.inr ⟨((hS0.1.putOther hn1).putOther hn1).putOther hn1, ((hS0.2.putOther hn2).putOther hn2).putOther hn2⟩) ?_
        clear hK K
        (try simp only [Act.put, List.setIfInBounds_toArray, List.set_cons_zero, List.set_cons_succ])
        have hS1 : At3 (((wd.setCell ⟨w.heap.size + 1, 0, none⟩ (.float .f32 r)).setCell ⟨w.heap.size + 1, 1, none⟩ (.float .f32 s)).setCell ⟨w.heap.size + 1, 2, none⟩ (.float .f32 t)) ga r s t ∧ At3 (((wd.setCell ⟨w.heap.size + 1, 0, none⟩ (.float .f32 r)).setCell ⟨w.heap.size + 1, 1, none⟩ (.float .f32 s)).setCell ⟨w.heap.size + 1, 2, none⟩ (.float .f32 t)) gb r' s' t' := ⟨((hS0.1.putOther hn1).putOther hn1).putOther hn1, ((hS0.2.putOther hn2).putOther hn2).putOther hn2⟩
        refine wpEnd_ready [3] (by kernel_rfl) rfl (AllE.cons rfl (fun K hK => ?_) AllE.nil)
        go_simp
        refine hK.out _ _ (.inr ⟨((hS1.1.putOther hn3).putOther hn3).putOther hn3, ((hS1.2.putOther hn4).putOther hn4).putOther hn4⟩) ?_
        clear hK K
        (try simp only [Act.put, List.setIfInBounds_toArray, List.set_cons_zero, List.set_cons_succ])
        refine wpEnd_ready [4] (by kernel_rfl) rfl (AllE.cons rfl (fun K hK => ?_) AllE.nil)
        go_simp
        refine hK.out _ _ (.inl rfl) ?_
        clear hK K
        refine wpEnd_done (by kernel_rfl) ?_
        go_wp2_with fail
        refine bodyPost_ret (v := .tuple #[.agg #[.float .f32 r, .float .f32 s, .float .f32 t], .agg #[.float .f32 r', .float .f32 s', .float .f32 t'], .bool true]) (by simp [results, Try.results18, go_sem, e0, e1, e2, e3, e4, e5]) rfl ⟨_, _, _, _, _, _, _, rfl, .inl ⟨H1.out, HSO.out _ _ _ _ _ _ true (by simp [hf, hf']) (fun _ => ⟨rfl, rfl, rfl, rfl, rfl, rfl⟩) (fun h => (by cases h))⟩, ?_⟩
        exact six_below hBd (by simp)

end Go.Proofs.Ytohbanchaggnmaa
