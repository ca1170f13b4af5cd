/-
  FlipSheet, the program's side: the spot at a place of a sheet, the closure that exchanges rows and columns.
-/
import Derived.Test.YtohbanchaggnmaaK6
namespace Go.Proofs.Ytohbanchaggnmaa
open Go.RowKit Fl Go.WideShapes Go.Deep
attribute [local go_sem] kstore_f kalloc_drewN kset_drewN hstore_i hstore_s

set_option maxRecDepth 100000 in
set_option maxHeartbeats 2000000 in
theorem spotAt_calls (bk off c n : Nat) (xs : List (Nat × Nat × Nat)) (hxn : n = xs.length) (a b i j m : Int) (k : Nat) (hk : k < n) (hm : IntKind.i64.wrap (j * a) = m) (ha : IntKind.i64.wrap (m + i) = (k : Int)) (w : World) (hr : RdS w (some ⟨bk, off, none⟩) xs) :
    Calls Try.prog 135 #[.agg #[.int .i64 a, .int .i64 b, .slice (some ⟨bk, off, none⟩) n c], .int .i64 i, .int .i64 j] w fun e w' => e = .returned (.agg #[.float .f32 (sx xs k), .float .f32 (sy xs k), .float .f32 (sz xs k)]) ∧ Below w.heap.size w w' := by
  obtain ⟨b', off', e, hlt, hc⟩ := hr.h (by omega)
  injection e with e
  injection e with e1 e2
  subst e1 e2
  obtain ⟨c0, c1, c2⟩ := hc k (by omega)
  have hne : ¬ (bk = w.heap.size) := by omega
  have hne1 : ¬ (bk = w.heap.size + 1) := by omega
  obtain ⟨x, hx⟩ : ∃ x, x = sx xs k := ⟨_, rfl⟩
  obtain ⟨y, hy⟩ : ∃ y, y = sy xs k := ⟨_, rfl⟩
  obtain ⟨z, hz⟩ : ∃ z, z = sz xs k := ⟨_, rfl⟩
  rw [← hx] at c0 ⊢
  rw [← hy] at c1 ⊢
  rw [← hz] at c2 ⊢
  clear hc hr hx hy hz hxn
  go_enter Try.func135, Try.ntmps135
  go_wp2_with fail
  refine bodyPost_ret (v := .agg #[.float .f32 x, .float .f32 y, .float .f32 z]) (by simp [results, Try.results135, go_sem]) rfl ⟨rfl, ?_⟩
  (apply bel_of; (repeat (first | apply below_dn | apply below_al)); exact below_st _)

end Go.Proofs.Ytohbanchaggnmaa
