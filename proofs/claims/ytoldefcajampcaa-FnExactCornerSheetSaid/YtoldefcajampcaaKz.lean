/-
  CornerSheet, walked on both sides.
-/
import Derived.Test.YtoldefcajampcaaKy
namespace Go.Proofs.Ytoldefcajampcaa
open Go.RowKit Fl Go.WideShapes Go.Deep
attribute [local go_sem] kstore_f kalloc_drewN kset_drewN hstore_i hstore_s

theorem four_rd (W : World) (g : Nat) (hg : g = W.heap.size) (x0 y0 z0 x1 y1 z1 x2 y2 z2 x3 y3 z3 : Nat) : RdS (W.alloc (.cells #[.float .f32 x0, .float .f32 y0, .float .f32 z0, .float .f32 x1, .float .f32 y1, .float .f32 z1, .float .f32 x2, .float .f32 y2, .float .f32 z2, .float .f32 x3, .float .f32 y3, .float .f32 z3] 26)) (some ⟨g, 0, none⟩) [(x0, y0, z0), (x1, y1, z1), (x2, y2, z2), (x3, y3, z3)] ∧ OwS (W.alloc (.cells #[.float .f32 x0, .float .f32 y0, .float .f32 z0, .float .f32 x1, .float .f32 y1, .float .f32 z1, .float .f32 x2, .float .f32 y2, .float .f32 z2, .float .f32 x3, .float .f32 y3, .float .f32 z3] 26)) g (.slice (some ⟨g, 0, none⟩) 4 4) 4 := by
  subst hg
  refine ⟨⟨fun _ => ⟨W.heap.size, 0, rfl, by simp, fun j hj => ?_⟩⟩, ⟨.inr ⟨W.heap.size, 4, #[.float .f32 x0, .float .f32 y0, .float .f32 z0, .float .f32 x1, .float .f32 y1, .float .f32 z1, .float .f32 x2, .float .f32 y2, .float .f32 z2, .float .f32 x3, .float .f32 y3, .float .f32 z3], rfl, Nat.le_refl _, by show (W.heap.push _)[W.heap.size]? = _; simp, by simp⟩⟩⟩
  have hj4 : j < 4 := hj
  rcases (by omega : j = 0 ∨ j = 1 ∨ j = 2 ∨ j = 3) with rfl | rfl | rfl | rfl <;> refine ⟨?_, ?_, ?_⟩ <;> (rw [World.cell?_alloc_new]; rfl)

set_option maxRecDepth 100000 in
set_option maxHeartbeats 4000000 in
theorem cornerSheet_calls (x0 y0 z0 x1 y1 z1 x2 y2 z2 x3 y3 z3 : Nat) (w : World) : Calls Try.prog 38 #[.agg #[.float .f32 x0, .float .f32 y0, .float .f32 z0], .agg #[.float .f32 x1, .float .f32 y1, .float .f32 z1], .agg #[.float .f32 x2, .float .f32 y2, .float .f32 z2], .agg #[.float .f32 x3, .float .f32 y3, .float .f32 z3]] w fun e w' => ∃ a' b' v ok, e = .returned (.tuple #[.agg #[.int .i64 a', .int .i64 b', v], .bool ok]) ∧ ShO w' w.heap.size 2 2 [(x0, y0, z0), (x1, y1, z1), (x2, y2, z2), (x3, y3, z3)] a' b' v ok ∧ Below w.heap.size w w' := by
  have h4 := four_rd (((((w.alloc (.cells #[.float .f32 x0, .float .f32 y0, .float .f32 z0] 26)).alloc (.cells #[.float .f32 x1, .float .f32 y1, .float .f32 z1] 26)).alloc (.cells #[.float .f32 x2, .float .f32 y2, .float .f32 z2] 26)).alloc (.cells #[.float .f32 x3, .float .f32 y3, .float .f32 z3] 26)).alloc (.cells #[.int .i64 0, .int .i64 0, .slice none 0 0] 44)) (w.heap.size + 1 + 1 + 1 + 1 + 1) (by simp) x0 y0 z0 x1 y1 z1 x2 y2 z2 x3 y3 z3
  have HC := Frame.hid (sheetIfValid_calls (some ⟨w.heap.size + 1 + 1 + 1 + 1 + 1, 0, none⟩) [(x0, y0, z0), (x1, y1, z1), (x2, y2, z2), (x3, y3, z3)] 4 4 rfl 2 2 _ (by omega) h4.1)
  go_enter Try.func38, Try.ntmps38
  go_wp2_with fail
  refine HC.out.mono ?_
  rintro e w' ⟨a', b', v, ok, rfl, ⟨hk, ht, hf⟩, hB⟩
  have hc := rd_of hB
  have hz := fz_of hB
  have HK := Frame.hid hk
  clear hk
  cases ok
  · obtain ⟨rfl, rfl, rfl⟩ := hf rfl
    clear ht hf
    go_wp2_with fail
    have k0 : w'.cell? ⟨w.heap.size + 1 + 1 + 1 + 1, 0, none⟩ = some (.int .i64 0) := by rw [hc _ _ (by simp)]; simp [go_sem]
    have k1 : w'.cell? ⟨w.heap.size + 1 + 1 + 1 + 1, 1, none⟩ = some (.int .i64 0) := by rw [hc _ _ (by simp)]; simp [go_sem]
    have k2 : w'.cell? ⟨w.heap.size + 1 + 1 + 1 + 1, 2, none⟩ = some (.slice none 0 0) := by rw [hc _ _ (by simp)]; simp [go_sem]
    obtain ⟨e0, e1, e2⟩ := set3_read (w := w') (v0 := .int .i64 0) (v1 := .int .i64 0) (v2 := .slice none 0 0) k0 k1 k2
    refine bodyPost_ret (v := .tuple #[.agg #[.int .i64 0, .int .i64 0, .slice none 0 0], .bool false]) (by simp [results, Try.results38, go_sem, e0, e1, e2]) rfl ⟨0, 0, .slice none 0 0, false, rfl, ⟨HK.out, fun h => (by cases h), fun _ => ⟨rfl, rfl, rfl⟩⟩, ?_⟩
    exact (below_sc (by simp; omega) (below_sc (by simp; omega) (below_sc (by simp; omega) (below_ch (below_al _ (below_al _ (below_al _ (below_al _ (below_al _ (below_al _ (below_st _))))))) hB rfl) _) _) _).2
  · obtain ⟨rfl, rfl, rfl⟩ := ht rfl
    clear ht hf
    go_wp2_with fail
    have k0 : w'.cell? ⟨w.heap.size + 1 + 1 + 1 + 1, 0, none⟩ = some (.int .i64 0) := by rw [hc _ _ (by simp)]; simp [go_sem]
    have k1 : w'.cell? ⟨w.heap.size + 1 + 1 + 1 + 1, 1, none⟩ = some (.int .i64 0) := by rw [hc _ _ (by simp)]; simp [go_sem]
    have k2 : w'.cell? ⟨w.heap.size + 1 + 1 + 1 + 1, 2, none⟩ = some (.slice none 0 0) := by rw [hc _ _ (by simp)]; simp [go_sem]
    obtain ⟨e0, e1, e2⟩ := set3_read (w := w') (v0 := .int .i64 2) (v1 := .int .i64 2) (v2 := .slice (some ⟨w.heap.size + 1 + 1 + 1 + 1 + 1, 0, none⟩) 4 4) k0 k1 k2
    refine bodyPost_ret (v := .tuple #[.agg #[.int .i64 2, .int .i64 2, .slice (some ⟨w.heap.size + 1 + 1 + 1 + 1 + 1, 0, none⟩) 4 4], .bool true]) (by simp [results, Try.results38, go_sem, e0, e1, e2]) rfl ⟨2, 2, .slice (some ⟨w.heap.size + 1 + 1 + 1 + 1 + 1, 0, none⟩) 4 4, true, rfl, ⟨HK.out, fun _ => ⟨rfl, rfl, ((((h4.2.below hB).set (by omega)).set (by omega)).set (by omega)).mono (by omega), _, _, rfl, (((h4.1.below hB).set (by omega)).set (by omega)).set (by omega)⟩, fun h => (by cases h)⟩, ?_⟩
    exact (below_sc (by simp; omega) (below_sc (by simp; omega) (below_sc (by simp; omega) (below_ch (below_al _ (below_al _ (below_al _ (below_al _ (below_al _ (below_al _ (below_st _))))))) hB rfl) _) _) _).2

set_option maxRecDepth 100000 in
set_option maxHeartbeats 4000000 in
theorem specCornerSheet_calls (x0 y0 z0 x1 y1 z1 x2 y2 z2 x3 y3 z3 : Nat) (w : World) : Calls Try.prog 37 #[.agg #[.float .f32 x0, .float .f32 y0, .float .f32 z0], .agg #[.float .f32 x1, .float .f32 y1, .float .f32 z1], .agg #[.float .f32 x2, .float .f32 y2, .float .f32 z2], .agg #[.float .f32 x3, .float .f32 y3, .float .f32 z3]] w fun e w' => ∃ a' b' v ok, e = .returned (.tuple #[.agg #[.int .i64 a', .int .i64 b', v], .bool ok]) ∧ ShO w' w.heap.size 2 2 [(x0, y0, z0), (x1, y1, z1), (x2, y2, z2), (x3, y3, z3)] a' b' v ok ∧ Below w.heap.size w w' := by
  have h4 := four_rd (((((w.alloc (.cells #[.float .f32 x0, .float .f32 y0, .float .f32 z0] 26)).alloc (.cells #[.float .f32 x1, .float .f32 y1, .float .f32 z1] 26)).alloc (.cells #[.float .f32 x2, .float .f32 y2, .float .f32 z2] 26)).alloc (.cells #[.float .f32 x3, .float .f32 y3, .float .f32 z3] 26)).alloc (.cells #[.int .i64 0, .int .i64 0, .slice none 0 0] 44)) (w.heap.size + 1 + 1 + 1 + 1 + 1) (by simp) x0 y0 z0 x1 y1 z1 x2 y2 z2 x3 y3 z3
  have HC := Frame.hid (l04Give_calls (some ⟨w.heap.size + 1 + 1 + 1 + 1 + 1, 0, none⟩) [(x0, y0, z0), (x1, y1, z1), (x2, y2, z2), (x3, y3, z3)] 4 4 rfl 2 2 _ (by omega) h4.1)
  go_enter Try.func37, Try.ntmps37
  go_wp2_with fail
  refine HC.out.mono ?_
  rintro e w' ⟨a', b', v, ok, rfl, ⟨hk, ht, hf⟩, hB⟩
  have hc := rd_of hB
  have hz := fz_of hB
  have HK := Frame.hid hk
  clear hk
  cases ok
  · obtain ⟨rfl, rfl, rfl⟩ := hf rfl
    clear ht hf
    go_wp2_with fail
    have k0 : w'.cell? ⟨w.heap.size + 1 + 1 + 1 + 1, 0, none⟩ = some (.int .i64 0) := by rw [hc _ _ (by simp)]; simp [go_sem]
    have k1 : w'.cell? ⟨w.heap.size + 1 + 1 + 1 + 1, 1, none⟩ = some (.int .i64 0) := by rw [hc _ _ (by simp)]; simp [go_sem]
    have k2 : w'.cell? ⟨w.heap.size + 1 + 1 + 1 + 1, 2, none⟩ = some (.slice none 0 0) := by rw [hc _ _ (by simp)]; simp [go_sem]
    obtain ⟨e0, e1, e2⟩ := set3_read (w := w') (v0 := .int .i64 0) (v1 := .int .i64 0) (v2 := .slice none 0 0) k0 k1 k2
    refine bodyPost_ret (v := .tuple #[.agg #[.int .i64 0, .int .i64 0, .slice none 0 0], .bool false]) (by simp [results, Try.results37, go_sem, e0, e1, e2]) rfl ⟨0, 0, .slice none 0 0, false, rfl, ⟨HK.out, fun h => (by cases h), fun _ => ⟨rfl, rfl, rfl⟩⟩, ?_⟩
    exact (below_sc (by simp; omega) (below_sc (by simp; omega) (below_sc (by simp; omega) (below_ch (below_al _ (below_al _ (below_al _ (below_al _ (below_al _ (below_al _ (below_st _))))))) hB rfl) _) _) _).2
  · obtain ⟨rfl, rfl, rfl⟩ := ht rfl
    clear ht hf
    go_wp2_with fail
    have k0 : w'.cell? ⟨w.heap.size + 1 + 1 + 1 + 1, 0, none⟩ = some (.int .i64 0) := by rw [hc _ _ (by simp)]; simp [go_sem]
    have k1 : w'.cell? ⟨w.heap.size + 1 + 1 + 1 + 1, 1, none⟩ = some (.int .i64 0) := by rw [hc _ _ (by simp)]; simp [go_sem]
    have k2 : w'.cell? ⟨w.heap.size + 1 + 1 + 1 + 1, 2, none⟩ = some (.slice none 0 0) := by rw [hc _ _ (by simp)]; simp [go_sem]
    obtain ⟨e0, e1, e2⟩ := set3_read (w := w') (v0 := .int .i64 2) (v1 := .int .i64 2) (v2 := .slice (some ⟨w.heap.size + 1 + 1 + 1 + 1 + 1, 0, none⟩) 4 4) k0 k1 k2
    refine bodyPost_ret (v := .tuple #[.agg #[.int .i64 2, .int .i64 2, .slice (some ⟨w.heap.size + 1 + 1 + 1 + 1 + 1, 0, none⟩) 4 4], .bool true]) (by simp [results, Try.results37, go_sem, e0, e1, e2]) rfl ⟨2, 2, .slice (some ⟨w.heap.size + 1 + 1 + 1 + 1 + 1, 0, none⟩) 4 4, true, rfl, ⟨HK.out, fun _ => ⟨rfl, rfl, ((((h4.2.below hB).set (by omega)).set (by omega)).set (by omega)).mono (by omega), _, _, rfl, (((h4.1.below hB).set (by omega)).set (by omega)).set (by omega)⟩, fun h => (by cases h)⟩, ?_⟩
    exact (below_sc (by simp; omega) (below_sc (by simp; omega) (below_sc (by simp; omega) (below_ch (below_al _ (below_al _ (below_al _ (below_al _ (below_al _ (below_al _ (below_st _))))))) hB rfl) _) _) _).2

end Go.Proofs.Ytoldefcajampcaa
