/-
  The law of cross products, walked.
-/
import Derived.Test.YtoldefcajampcaaKs
import Derived.Deep.RegionHeld3
import Derived.Deep.DeepCutAuto
namespace Go.Proofs.Ytoldefcajampcaa
open Go.RowKit Fl
attribute [local go_sem] kstore_f kalloc_drewN kset_drewN

theorem SK_of6 {n : Nat} {wc W : World} {p0 p1 p2 p3 p4 p5 : Addr} {v0 v1 v2 v3 v4 v5 : Value} (h : W.cell? p0 = some v0 ∧ W.cell? p1 = some v1 ∧ W.cell? p2 = some v2 ∧ W.cell? p3 = some v3 ∧ W.cell? p4 = some v4 ∧ W.cell? p5 = some v5 ∧ n ≤ W.heap.size ∧ SK n wc [(p0, v0), (p1, v1), (p2, v2), (p3, v3), (p4, v4), (p5, v5)] W) : SK n wc [(p0, v0), (p1, v1), (p2, v2), (p3, v3), (p4, v4), (p5, v5)] W := h.2.2.2.2.2.2.2
theorem SK_all6 {n : Nat} {wc W : World} {p0 p1 p2 p3 p4 p5 : Addr} {v0 v1 v2 v3 v4 v5 : Value} (h : SK n wc [(p0, v0), (p1, v1), (p2, v2), (p3, v3), (p4, v4), (p5, v5)] W) : W.cell? p0 = some v0 ∧ W.cell? p1 = some v1 ∧ W.cell? p2 = some v2 ∧ W.cell? p3 = some v3 ∧ W.cell? p4 = some v4 ∧ W.cell? p5 = some v5 ∧ n ≤ W.heap.size ∧ SK n wc [(p0, v0), (p1, v1), (p2, v2), (p3, v3), (p4, v4), (p5, v5)] W :=
  ⟨h.c (p0, v0) (by simp), h.c (p1, v1) (by simp), h.c (p2, v2) (by simp), h.c (p3, v3) (by simp), h.c (p4, v4) (by simp), h.c (p5, v5) (by simp), h.s, h⟩

set_option maxRecDepth 100000 in
set_option maxHeartbeats 4000000 in
theorem fnExactCrossSpots_walk (x y z x' y' z' : Nat) (w : World) : Calls Try.prog 5 #[.agg #[.float .f32 x, .float .f32 y, .float .f32 z], .agg #[.float .f32 x', .float .f32 y', .float .f32 z']] w fun e w' => e = .returned (.bool true) ∧ Below w.heap.size w w' := by
  have hST : SK (w.heap.size + 1 + 1) ((w.alloc (.cells #[.float .f32 x, .float .f32 y, .float .f32 z] 24)).alloc (.cells #[.float .f32 x', .float .f32 y', .float .f32 z'] 24)) [(⟨w.heap.size, 0, none⟩, .float .f32 x), (⟨w.heap.size, 1, none⟩, .float .f32 y), (⟨w.heap.size, 2, none⟩, .float .f32 z), (⟨w.heap.size + 1, 0, none⟩, .float .f32 x'), (⟨w.heap.size + 1, 1, none⟩, .float .f32 y'), (⟨w.heap.size + 1, 2, none⟩, .float .f32 z')] ((w.alloc (.cells #[.float .f32 x, .float .f32 y, .float .f32 z] 24)).alloc (.cells #[.float .f32 x', .float .f32 y', .float .f32 z'] 24)) := SK.start (by simp) (by intro p hp; simp at hp; rcases hp with rfl | rfl | rfl | rfl | rfl | rfl <;> simp [go_sem]) (by intro p hp; simp at hp; rcases hp with rfl | rfl | rfl | rfl | rfl | rfl <;> (simp; try omega))
  go_enter Try.func5, Try.ntmps5
  go_wp2
  go_cut [5, 6] (fun s5 s6 wx => ∃ g a b c ok, s5 = .pointer (some ⟨g, 0, none⟩) ∧ s6 = .bool ok ∧ CrossO x y z x' y' z' a b c ok ∧ SK (w.heap.size + 1 + 1) ((w.alloc (.cells #[.float .f32 x, .float .f32 y, .float .f32 z] 24)).alloc (.cells #[.float .f32 x', .float .f32 y', .float .f32 z'] 24)) [(⟨w.heap.size, 0, none⟩, .float .f32 x), (⟨w.heap.size, 1, none⟩, .float .f32 y), (⟨w.heap.size, 2, none⟩, .float .f32 z), (⟨w.heap.size + 1, 0, none⟩, .float .f32 x'), (⟨w.heap.size + 1, 1, none⟩, .float .f32 y'), (⟨w.heap.size + 1, 2, none⟩, .float .f32 z')] wx ∧ At3 wx g a b c ∧ w.heap.size + 1 + 1 ≤ g ∧ g < wx.heap.size)
  case first =>
    go_region_held3 (fun W => W.cell? ⟨w.heap.size, 0, none⟩ = some (.float .f32 x) ∧ W.cell? ⟨w.heap.size, 1, none⟩ = some (.float .f32 y) ∧ W.cell? ⟨w.heap.size, 2, none⟩ = some (.float .f32 z) ∧ W.cell? ⟨w.heap.size + 1, 0, none⟩ = some (.float .f32 x') ∧ W.cell? ⟨w.heap.size + 1, 1, none⟩ = some (.float .f32 y') ∧ W.cell? ⟨w.heap.size + 1, 2, none⟩ = some (.float .f32 z') ∧ w.heap.size + 1 + 1 ≤ W.heap.size ∧ SK (w.heap.size + 1 + 1) (((w.alloc (.cells #[.float .f32 x, .float .f32 y, .float .f32 z] 24)).alloc (.cells #[.float .f32 x', .float .f32 y', .float .f32 z'] 24))) [(⟨w.heap.size, 0, none⟩, .float .f32 x), (⟨w.heap.size, 1, none⟩, .float .f32 y), (⟨w.heap.size, 2, none⟩, .float .f32 z), (⟨w.heap.size + 1, 0, none⟩, .float .f32 x'), (⟨w.heap.size + 1, 1, none⟩, .float .f32 y'), (⟨w.heap.size + 1, 2, none⟩, .float .f32 z')] W) ((refine SK_all6 ?_; (repeat' first | with_reducible assumption | exact SK_of6 (by with_reducible assumption) | exact hST | apply SK.drew | apply SK.drewN | apply SK.alloc | (refine SK.call ?_ (by with_reducible assumption)) | (refine SK.set ?_ _ _ _ (by omega))))) (first | (go_at_call 16; refine (toSpot_calls _ _ _ _).mono ?_; rintro e w' ⟨rfl, hB⟩; have hge := SK.ge (n := w.heap.size + 1 + 1) (wc := ((w.alloc (.cells #[.float .f32 x, .float .f32 y, .float .f32 z] 24)).alloc (.cells #[.float .f32 x', .float .f32 y', .float .f32 z'] 24))) (L := [(⟨w.heap.size, 0, none⟩, .float .f32 x), (⟨w.heap.size, 1, none⟩, .float .f32 y), (⟨w.heap.size, 2, none⟩, .float .f32 z), (⟨w.heap.size + 1, 0, none⟩, .float .f32 x'), (⟨w.heap.size + 1, 1, none⟩, .float .f32 y'), (⟨w.heap.size + 1, 2, none⟩, .float .f32 z')]) (by repeat' first | with_reducible assumption | exact SK_of6 (by with_reducible assumption) | exact hST | apply SK.drew | apply SK.drewN | apply SK.alloc) hB; (try (first | have hN := New.born2 hB | have hN := New.born1 hB | have hN := New.bornD hB | have hN := New.born hB | have hN := New.go (by with_reducible assumption) hB)); (try (have hF := hN.f; have hC0 := hN.a.c0; have hC1 := hN.a.c1; have hC2 := hN.a.c2))) | (go_at_call 20; refine (specCrossSpots_calls _ _ _ _ _ _ _).mono ?_; rintro e w' ⟨a, b, c, ok, rfl, hs, hB⟩; have hge := SK.ge (n := w.heap.size + 1 + 1) (wc := ((w.alloc (.cells #[.float .f32 x, .float .f32 y, .float .f32 z] 24)).alloc (.cells #[.float .f32 x', .float .f32 y', .float .f32 z'] 24))) (L := [(⟨w.heap.size, 0, none⟩, .float .f32 x), (⟨w.heap.size, 1, none⟩, .float .f32 y), (⟨w.heap.size, 2, none⟩, .float .f32 z), (⟨w.heap.size + 1, 0, none⟩, .float .f32 x'), (⟨w.heap.size + 1, 1, none⟩, .float .f32 y'), (⟨w.heap.size + 1, 2, none⟩, .float .f32 z')]) (by repeat' first | with_reducible assumption | exact SK_of6 (by with_reducible assumption) | exact hST | apply SK.drew | apply SK.drewN | apply SK.alloc) hB; (try (first | have hN := New.born2 hB | have hN := New.born1 hB | have hN := New.bornD hB | have hN := New.born hB | have hN := New.go (by with_reducible assumption) hB)); (try (have hF := hN.f; have hC0 := hN.a.c0; have hC1 := hN.a.c1; have hC2 := hN.a.c2))))
    all_goals
      have hSK : SK (w.heap.size + 1 + 1) ((w.alloc (.cells #[.float .f32 x, .float .f32 y, .float .f32 z] 24)).alloc (.cells #[.float .f32 x', .float .f32 y', .float .f32 z'] 24)) [(⟨w.heap.size, 0, none⟩, .float .f32 x), (⟨w.heap.size, 1, none⟩, .float .f32 y), (⟨w.heap.size, 2, none⟩, .float .f32 z), (⟨w.heap.size + 1, 0, none⟩, .float .f32 x'), (⟨w.heap.size + 1, 1, none⟩, .float .f32 y'), (⟨w.heap.size + 1, 2, none⟩, .float .f32 z')] _ := SK_of6 (by with_reducible assumption)
      go_wp2_with fail
      go_meet
      refine ⟨_, a, b, c, ok, rfl, rfl, hs, hSK, ?_, ?_, ?_⟩
      · first | exact At3.here _ _ _ _ _ | exact At3.set hN _ _ _
      · omega
      · first | exact New.lt3 hN _ _ _ | (simp; done)
  case rest =>
    obtain ⟨g, a, b, c, ok, rfl, rfl, hs, hSK, hA, hg1, hg2⟩ := hcut
    obtain ⟨w1, hw1⟩ : ∃ w1, w1 = wc := ⟨_, rfl⟩
    subst hw1
    have hst2 : SK w1.heap.size w1 [(⟨w.heap.size, 0, none⟩, .float .f32 x), (⟨w.heap.size, 1, none⟩, .float .f32 y), (⟨w.heap.size, 2, none⟩, .float .f32 z), (⟨w.heap.size + 1, 0, none⟩, .float .f32 x'), (⟨w.heap.size + 1, 1, none⟩, .float .f32 y'), (⟨w.heap.size + 1, 2, none⟩, .float .f32 z')] w1 := SK.start (Nat.le_refl _) hSK.c (fun p hp => Nat.lt_of_lt_of_le (hSK.k p hp) hSK.s)
    clear hST
    go_wp2
    go_cut [7, 8] (fun s7 s8 wx => ∃ g' a' b' c' ok', s7 = .pointer (some ⟨g', 0, none⟩) ∧ s8 = .bool ok' ∧ CrossO x y z x' y' z' a' b' c' ok' ∧ SK w1.heap.size w1 [(⟨w.heap.size, 0, none⟩, .float .f32 x), (⟨w.heap.size, 1, none⟩, .float .f32 y), (⟨w.heap.size, 2, none⟩, .float .f32 z), (⟨w.heap.size + 1, 0, none⟩, .float .f32 x'), (⟨w.heap.size + 1, 1, none⟩, .float .f32 y'), (⟨w.heap.size + 1, 2, none⟩, .float .f32 z')] wx ∧ At3 wx g' a' b' c' ∧ w1.heap.size ≤ g' ∧ g' < wx.heap.size)
    case first =>
      go_region_held3 (fun W => W.cell? ⟨w.heap.size, 0, none⟩ = some (.float .f32 x) ∧ W.cell? ⟨w.heap.size, 1, none⟩ = some (.float .f32 y) ∧ W.cell? ⟨w.heap.size, 2, none⟩ = some (.float .f32 z) ∧ W.cell? ⟨w.heap.size + 1, 0, none⟩ = some (.float .f32 x') ∧ W.cell? ⟨w.heap.size + 1, 1, none⟩ = some (.float .f32 y') ∧ W.cell? ⟨w.heap.size + 1, 2, none⟩ = some (.float .f32 z') ∧ w1.heap.size ≤ W.heap.size ∧ SK (w1.heap.size) (w1) [(⟨w.heap.size, 0, none⟩, .float .f32 x), (⟨w.heap.size, 1, none⟩, .float .f32 y), (⟨w.heap.size, 2, none⟩, .float .f32 z), (⟨w.heap.size + 1, 0, none⟩, .float .f32 x'), (⟨w.heap.size + 1, 1, none⟩, .float .f32 y'), (⟨w.heap.size + 1, 2, none⟩, .float .f32 z')] W) ((refine SK_all6 ?_; (repeat' first | with_reducible assumption | exact SK_of6 (by with_reducible assumption) | exact hst2 | apply SK.drew | apply SK.drewN | apply SK.alloc | (refine SK.call ?_ (by with_reducible assumption)) | (refine SK.set ?_ _ _ _ (by omega))))) (first | (go_at_call 16; refine (toSpot_calls _ _ _ _).mono ?_; rintro e w' ⟨rfl, hB⟩; have hge := SK.ge (n := w1.heap.size) (wc := w1) (L := [(⟨w.heap.size, 0, none⟩, .float .f32 x), (⟨w.heap.size, 1, none⟩, .float .f32 y), (⟨w.heap.size, 2, none⟩, .float .f32 z), (⟨w.heap.size + 1, 0, none⟩, .float .f32 x'), (⟨w.heap.size + 1, 1, none⟩, .float .f32 y'), (⟨w.heap.size + 1, 2, none⟩, .float .f32 z')]) (by repeat' first | with_reducible assumption | exact SK_of6 (by with_reducible assumption) | exact hst2 | apply SK.drew | apply SK.drewN | apply SK.alloc) hB; (try (first | have hN := New.born2 hB | have hN := New.born1 hB | have hN := New.bornD hB | have hN := New.born hB | have hN := New.go (by with_reducible assumption) hB)); (try (have hF := hN.f; have hC0 := hN.a.c0; have hC1 := hN.a.c1; have hC2 := hN.a.c2))) | (go_at_call 21; refine (crossSpots_calls _ _ _ _ _ _ _).mono ?_; rintro e w' ⟨a', b', c', ok', rfl, hi, hB⟩; have hge := SK.ge (n := w1.heap.size) (wc := w1) (L := [(⟨w.heap.size, 0, none⟩, .float .f32 x), (⟨w.heap.size, 1, none⟩, .float .f32 y), (⟨w.heap.size, 2, none⟩, .float .f32 z), (⟨w.heap.size + 1, 0, none⟩, .float .f32 x'), (⟨w.heap.size + 1, 1, none⟩, .float .f32 y'), (⟨w.heap.size + 1, 2, none⟩, .float .f32 z')]) (by repeat' first | with_reducible assumption | exact SK_of6 (by with_reducible assumption) | exact hst2 | apply SK.drew | apply SK.drewN | apply SK.alloc) hB; (try (first | have hN := New.born2 hB | have hN := New.born1 hB | have hN := New.bornD hB | have hN := New.born hB | have hN := New.go (by with_reducible assumption) hB)); (try (have hF := hN.f; have hC0 := hN.a.c0; have hC1 := hN.a.c1; have hC2 := hN.a.c2))))
      all_goals
        have hSK2 : SK w1.heap.size w1 [(⟨w.heap.size, 0, none⟩, .float .f32 x), (⟨w.heap.size, 1, none⟩, .float .f32 y), (⟨w.heap.size, 2, none⟩, .float .f32 z), (⟨w.heap.size + 1, 0, none⟩, .float .f32 x'), (⟨w.heap.size + 1, 1, none⟩, .float .f32 y'), (⟨w.heap.size + 1, 2, none⟩, .float .f32 z')] _ := SK_of6 (by with_reducible assumption)
        go_wp2_with fail
        go_meet
        refine ⟨_, a', b', c', ok', rfl, rfl, hi, hSK2, ?_, ?_, ?_⟩
        · first | exact At3.here _ _ _ _ _ | exact At3.set hN _ _ _
        · omega
        · first | exact New.lt3 hN _ _ _ | (simp; done)
    case rest =>
      obtain ⟨g', a', b', c', ok', rfl, rfl, hi, hSK2, hA', hg1', hg2'⟩ := hcut
      obtain ⟨hS, rfl⟩ := CrossO.same (S3.refl _ _ _) (S3.refl _ _ _) hi hs
      have hA2 := hA.keep hSK2.m hg2
      have k0 := hA2.c0
      have k1 := hA2.c1
      have k2 := hA2.c2
      have k3 := hA'.c0
      have k4 := hA'.c1
      have k5 := hA'.c2
      go_wp2_with (go_at_call 22; refine (eqSpot_calls _ _ _ _ _ _ hS _).mono ?_; rintro e w' ⟨rfl, hB⟩)
      go_ret
      have hw : Below w.heap.size w ((w.alloc (.cells #[.float .f32 x, .float .f32 y, .float .f32 z] 24)).alloc (.cells #[.float .f32 x', .float .f32 y', .float .f32 z'] 24)) := by (apply bel_of; (repeat (first | apply below_dn | apply below_al)); exact below_st _)
      exact ⟨rfl, ((hw.trans (hSK.m.mono (by omega))).trans (hSK2.m.mono (by have := hSK.s; omega))).trans (hB.mono (by have := hSK.s; have := hSK2.s; omega))⟩

end Go.Proofs.Ytoldefcajampcaa
