/-
  FlipSheet, the program's side: the spot at a place of a sheet, the closure that exchanges rows and columns.
-/
import Derived.Test.YtddbojpkmgmjmaaK6
namespace Go.Proofs.Ytddbojpkmgmjmaa
open Go.RowKit Fl Go.WideShapes Go.Deep
attribute [local go_sem] kstore_f kalloc_drewN kset_drewN hstore_i hstore_s

set_option maxRecDepth 100000 in
set_option maxHeartbeats 2000000 in
theorem spotAt_calls (bk off c n : Nat) (xs : List (Nat × Nat × Nat)) (hxn : n = xs.length) (a b i j m : Int) (k : Nat) (hk : k < n) (hm : IntKind.i64.wrap (j * a) = m) (ha : IntKind.i64.wrap (m + i) = (k : Int)) (w : World) (hr : RdS w (some ⟨bk, off, none⟩) xs) :
    Calls Try.prog 65 #[.agg #[.int .i64 a, .int .i64 b, .slice (some ⟨bk, off, none⟩) n c], .int .i64 i, .int .i64 j] w fun e w' => e = .returned (.agg #[.float .f32 (sx xs k), .float .f32 (sy xs k), .float .f32 (sz xs k)]) ∧ Below w.heap.size w w' := by
  obtain ⟨b', off', e, hlt, hc⟩ := hr.h (by omega)
  injection e with e
  injection e with e1 e2
  subst e1 e2
  obtain ⟨c0, c1, c2⟩ := hc k (by omega)
  have hne : ¬ (bk = w.heap.size) := by omega
  have hne1 : ¬ (bk = w.heap.size + 1) := by omega
  obtain ⟨x, hx⟩ : ∃ x, x = sx xs k := ⟨_, rfl⟩
  obtain ⟨y, hy⟩ : ∃ y, y = sy xs k := ⟨_, rfl⟩
  obtain ⟨z, hz⟩ : ∃ z, z = sz xs k := ⟨_, rfl⟩
  rw [← hx] at c0 ⊢
  rw [← hy] at c1 ⊢
  rw [← hz] at c2 ⊢
  clear hc hr hx hy hz hxn
  go_enter Try.func65, Try.ntmps65
  go_wp2_with fail
  refine bodyPost_ret (v := .agg #[.float .f32 x, .float .f32 y, .float .f32 z]) (by simp [results, Try.results65, go_sem]) rfl ⟨rfl, ?_⟩
  (apply bel_of; (repeat (first | apply below_dn | apply below_al)); exact below_st _)

set_option maxRecDepth 100000 in
set_option maxHeartbeats 2000000 in
theorem flipSpot_calls (g bk off c n : Nat) (xs : List (Nat × Nat × Nat)) (hxn : n = xs.length) (a b i j m : Int) (k : Nat) (hk : k < n) (hm : IntKind.i64.wrap (i * a) = m) (ha : IntKind.i64.wrap (m + j) = (k : Int)) (w : World) (hS : Sh3 w g a b (.slice (some ⟨bk, off, none⟩) n c)) (hr : RdS w (some ⟨bk, off, none⟩) xs) :
    Calls Try.prog 64 #[.int .i64 i, .int .i64 j, .pointer (some ⟨g, 0, none⟩)] w fun e w' => e = .returned (.agg #[.float .f32 (sx xs k), .float .f32 (sy xs k), .float .f32 (sz xs k)]) ∧ Below w.heap.size w w' := by
  have h1 : Below w.heap.size w (w.alloc (.cells #[.float .f32 0, .float .f32 0, .float .f32 0] 44)) := (Below.refl _ _).alloc (Nat.le_refl _) _
  have HC := Frame.hid (spotAt_calls bk off c n xs hxn a b j i m k hk hm ha _ (hr.below h1))
  have HW := Frame.hid h1
  obtain ⟨x, hx⟩ : ∃ x, x = sx xs k := ⟨_, rfl⟩
  obtain ⟨y, hy⟩ : ∃ y, y = sy xs k := ⟨_, rfl⟩
  obtain ⟨z, hz⟩ : ∃ z, z = sz xs k := ⟨_, rfl⟩
  rw [← hx, ← hy, ← hz] at HC ⊢
  have c0 := hS.c0
  have c1 := hS.c1
  have c2 := hS.c2
  have gl := hS.l
  have hne : ¬ (g = w.heap.size) := by omega
  clear hr hx hy hz hxn hS h1 hm ha
  go_enter Try.func64, Try.ntmps64
  go_wp2_with (go_at_call 65; refine (HC.out).mono ?_; rintro e w' ⟨rfl, hB⟩; have hc := rd_of hB; have hz := fz_of hB; have hs := sz_of hB)
  have k0 : w'.cell? ⟨w.heap.size, 0, none⟩ = some (.float .f32 0) := by rw [hc _ _ (by simp)]; simp [go_sem]
  have k1 : w'.cell? ⟨w.heap.size, 1, none⟩ = some (.float .f32 0) := by rw [hc _ _ (by simp)]; simp [go_sem]
  have k2 : w'.cell? ⟨w.heap.size, 2, none⟩ = some (.float .f32 0) := by rw [hc _ _ (by simp)]; simp [go_sem]
  obtain ⟨e0, e1, e2⟩ := set3_read (w := w') (v0 := .float .f32 x) (v1 := .float .f32 y) (v2 := .float .f32 z) k0 k1 k2
  refine bodyPost_ret (v := .agg #[.float .f32 x, .float .f32 y, .float .f32 z]) (by simp [results, Try.results64, go_sem, e0, e1, e2]) rfl ⟨rfl, ?_⟩
  exact (((HW.out.trans (hB.mono HW.out.size)).setCell (p := ⟨w.heap.size, 0, none⟩) (Nat.le_refl _) _).setCell (p := ⟨w.heap.size, 1, none⟩) (Nat.le_refl _) _).setCell (p := ⟨w.heap.size, 2, none⟩) (Nat.le_refl _) _

end Go.Proofs.Ytddbojpkmgmjmaa
