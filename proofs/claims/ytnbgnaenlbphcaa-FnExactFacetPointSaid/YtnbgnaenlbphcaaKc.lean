/-
  The laws of single spots, walked: finiteness, lengths, sameness.
-/
import Derived.Test.YtnbgnaenlbphcaaKs
import Derived.Laws.StructEq
import Derived.Deep.RegionHeld3
namespace Go.Proofs.Ytnbgnaenlbphcaa
open Go.RowKit Fl
attribute [local go_sem] kstore_f kalloc_drewN kset_drewN

set_option maxRecDepth 100000 in
set_option maxHeartbeats 400000 in
theorem isSpotB_calls (x y z : Nat) (w : World) : Calls Try.prog 132 #[.agg #[.float .f32 x, .float .f32 y, .float .f32 z]] w fun e w' => e = .returned (.bool (fin3 x y z)) ∧ Below w.heap.size w w' := by
  refine (isSpot_calls _ _ _ _).mono ?_
  rintro e w' ⟨rfl, n, rfl⟩
  exact ⟨rfl, b1 _ _ _⟩

theorem kstore_i (P : Program) (w : World) (a : Addr) (m : Mode) (k : IntKind) (b : Int) : (store a (.int k b) m).run P w = stored P w a (.int k b) m := run_store P w a _ m rfl
attribute [local go_sem] kstore_i

set_option maxRecDepth 100000 in
set_option maxHeartbeats 400000 in
theorem bitsOfSpot_calls (x y z : Nat) (hx : (x : Int) < 4294967296) (hy : (y : Int) < 4294967296) (hz : (z : Int) < 4294967296) (w : World) : Calls Try.prog 125 #[.agg #[.float .f32 x, .float .f32 y, .float .f32 z]] w fun e w' => e = .returned (.agg #[.int .i64 (bitsV x), .int .i64 (bitsV y), .int .i64 (bitsV z)]) ∧ Below w.heap.size w w' := by
  go_enter Try.func125, Try.ntmps125
  go_wp2
  go_region_held3 (fun W => W.cell? ⟨w.heap.size, 0, none⟩ = some (.float .f32 x) ∧ W.cell? ⟨w.heap.size, 1, none⟩ = some (.float .f32 y) ∧ W.cell? ⟨w.heap.size, 2, none⟩ = some (.float .f32 z)) (go_keep) (first | (go_at_call 159; refine (bitsOf_calls _ (by with_reducible assumption) _).mono ?_; rintro e w' ⟨rfl, n, rfl⟩))
  go_wp2
  refine bodyPost_ret (v := .agg #[.int .i64 (bitsV x), .int .i64 (bitsV y), .int .i64 (bitsV z)]) (by simp [results, Try.results125, go_sem]) rfl ⟨rfl, ?_⟩
  (apply bel_of; (repeat (first | apply below_dn | apply below_al)); exact below_st _)

theorem bits_struct : Try.prog.underlying 159 = some (.struct (Try.prog.fieldsOf 159)) := by kernel_rfl
theorem bits_held : Try.prog.stoodInHeld 159 = false := by kernel_rfl
theorem bits_guard : Try.prog.eqGuardType Try.prog.depth 159 = false := by kernel_rfl
theorem bits_eq (a b c a' b' c' : Int) (W : World) : (binOp .eql 159 (.agg #[.int .i64 a, .int .i64 b, .int .i64 c]) (.agg #[.int .i64 a', .int .i64 b', .int .i64 c'])).run Try.prog W = .ok (.bool (a == a' && (b == b' && c == c'))) W := by
  have hi := Try.underlying2
  rw [run_eql_struct, run_equalIn_struct W _ _ _ _ bits_struct bits_held]
  unfold Program.fieldsOf
  rw [Try.underlying159]
  simp [go_sem, Op.eqFields]
  by_cases h1 : a = a' <;> by_cases h2 : b = b' <;> by_cases h3 : c = c' <;> simp [h1, h2, h3]

set_option maxRecDepth 100000 in
set_option maxHeartbeats 400000 in
theorem sameSpot_calls (x y z x' y' z' : Nat) (hx : (x : Int) < 4294967296) (hy : (y : Int) < 4294967296) (hz : (z : Int) < 4294967296)(hx' : (x' : Int) < 4294967296) (hy' : (y' : Int) < 4294967296) (hz' : (z' : Int) < 4294967296) (w : World) : Calls Try.prog 71 #[.agg #[.float .f32 x, .float .f32 y, .float .f32 z], .agg #[.float .f32 x', .float .f32 y', .float .f32 z']] w fun e w' => e = .returned (.bool (bitsV x == bitsV x' && (bitsV y == bitsV y' && bitsV z == bitsV z'))) ∧ Below w.heap.size w w' := by
  have hST : SK (w.heap.size + 1 + 1) ((w.alloc (.cells #[.float .f32 x, .float .f32 y, .float .f32 z] 57)).alloc (.cells #[.float .f32 x', .float .f32 y', .float .f32 z'] 57)) [((⟨w.heap.size, 0, none⟩ : Addr), Value.float .f32 x), ((⟨w.heap.size, 1, none⟩ : Addr), Value.float .f32 y), ((⟨w.heap.size, 2, none⟩ : Addr), Value.float .f32 z), ((⟨w.heap.size + 1, 0, none⟩ : Addr), Value.float .f32 x'), ((⟨w.heap.size + 1, 1, none⟩ : Addr), Value.float .f32 y'), ((⟨w.heap.size + 1, 2, none⟩ : Addr), Value.float .f32 z')] ((w.alloc (.cells #[.float .f32 x, .float .f32 y, .float .f32 z] 57)).alloc (.cells #[.float .f32 x', .float .f32 y', .float .f32 z'] 57)) := SK.start (by simp) (by intro p hp; simp at hp; rcases hp with rfl | rfl | rfl | rfl | rfl | rfl <;> simp [go_sem]) (by intro p hp; simp at hp; rcases hp with rfl | rfl | rfl | rfl | rfl | rfl <;> (simp; try omega))
  go_enter Try.func71, Try.ntmps71
  go_wp2
  have hE := bits_eq (bitsV x) (bitsV y) (bitsV z) (bitsV x') (bitsV y') (bitsV z')
  have hG : ∀ W o1 o2 u v, (eqGuard .eql 159 o1 o2 (.agg u) (.agg v)).run Try.prog W = .ok () W := fun W o1 o2 u v => run_eqGuard_agg W .eql _ o1 o2 u v bits_guard
  go_region_held3 (fun W => W.cell? ⟨w.heap.size, 0, none⟩ = some (.float .f32 x) ∧ W.cell? ⟨w.heap.size, 1, none⟩ = some (.float .f32 y) ∧ W.cell? ⟨w.heap.size, 2, none⟩ = some (.float .f32 z) ∧ W.cell? ⟨w.heap.size + 1, 0, none⟩ = some (.float .f32 x') ∧ W.cell? ⟨w.heap.size + 1, 1, none⟩ = some (.float .f32 y') ∧ W.cell? ⟨w.heap.size + 1, 2, none⟩ = some (.float .f32 z') ∧ w.heap.size + 1 + 1 ≤ W.heap.size ∧ SK (w.heap.size + 1 + 1) ((w.alloc (.cells #[.float .f32 x, .float .f32 y, .float .f32 z] 57)).alloc (.cells #[.float .f32 x', .float .f32 y', .float .f32 z'] 57)) [((⟨w.heap.size, 0, none⟩ : Addr), Value.float .f32 x), ((⟨w.heap.size, 1, none⟩ : Addr), Value.float .f32 y), ((⟨w.heap.size, 2, none⟩ : Addr), Value.float .f32 z), ((⟨w.heap.size + 1, 0, none⟩ : Addr), Value.float .f32 x'), ((⟨w.heap.size + 1, 1, none⟩ : Addr), Value.float .f32 y'), ((⟨w.heap.size + 1, 2, none⟩ : Addr), Value.float .f32 z')] W) ((refine SK_all6 ?_; (repeat' first | with_reducible assumption | exact SK_of6 (by with_reducible assumption) | exact hST | apply SK.drew | apply SK.drewN | apply SK.alloc | (refine SK.call ?_ (by with_reducible assumption)) | (refine SK.set ?_ _ _ _ (by omega))))) (first | (go_at_call 125; refine (bitsOfSpot_calls _ _ _ (by with_reducible assumption) (by with_reducible assumption) (by with_reducible assumption) _).mono ?_; rintro e w' ⟨rfl, hB⟩))
  have hSK : SK (w.heap.size + 1 + 1) ((w.alloc (.cells #[.float .f32 x, .float .f32 y, .float .f32 z] 57)).alloc (.cells #[.float .f32 x', .float .f32 y', .float .f32 z'] 57)) [((⟨w.heap.size, 0, none⟩ : Addr), Value.float .f32 x), ((⟨w.heap.size, 1, none⟩ : Addr), Value.float .f32 y), ((⟨w.heap.size, 2, none⟩ : Addr), Value.float .f32 z), ((⟨w.heap.size + 1, 0, none⟩ : Addr), Value.float .f32 x'), ((⟨w.heap.size + 1, 1, none⟩ : Addr), Value.float .f32 y'), ((⟨w.heap.size + 1, 2, none⟩ : Addr), Value.float .f32 z')] _ := SK_of6 (by with_reducible assumption)
  have hw : Below w.heap.size w ((w.alloc (.cells #[.float .f32 x, .float .f32 y, .float .f32 z] 57)).alloc (.cells #[.float .f32 x', .float .f32 y', .float .f32 z'] 57)) := by (apply bel_of; (repeat (first | apply below_dn | apply below_al)); exact below_st _)
  clear hST
  go_wp2
  go_ret
  exact ⟨rfl, hw.trans (hSK.m.mono (by omega))⟩

set_option maxRecDepth 100000 in
set_option maxHeartbeats 400000 in
theorem l04SameSpot_calls (x y z x' y' z' : Nat) (hx : (x : Int) < 4294967296) (hy : (y : Int) < 4294967296) (hz : (z : Int) < 4294967296)(hx' : (x' : Int) < 4294967296) (hy' : (y' : Int) < 4294967296) (hz' : (z' : Int) < 4294967296) (w : World) : Calls Try.prog 123 #[.agg #[.float .f32 x, .float .f32 y, .float .f32 z], .agg #[.float .f32 x', .float .f32 y', .float .f32 z']] w fun e w' => e = .returned (.bool (bitsV x == bitsV x' && (bitsV y == bitsV y' && bitsV z == bitsV z'))) ∧ Below w.heap.size w w' := by
  cases h1 : (bitsV x == bitsV x') <;> cases h2 : (bitsV y == bitsV y')
  all_goals
    go_enter Try.func123, Try.ntmps123
    go_wp2_with (go_at_call 157; refine (l01Same_calls _ _ (by with_reducible assumption) (by with_reducible assumption) _).mono ?_; rintro e w' ⟨rfl, rfl⟩)
    go_ret
    exact ⟨ret_bool (by simp), by (apply bel_of; (repeat (first | apply below_dn | apply below_al)); exact below_st _)⟩

end Go.Proofs.Ytnbgnaenlbphcaa
