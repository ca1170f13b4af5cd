/-
  FlatSheet: the closure that tells a spot.
-/
import Derived.Test.YtddbojpkmgmjmaaK2
import Derived.Test.YtddbojpkmgmjmaaG1
import Derived.Test.YtddbojpkmgmjmaaG5
namespace Go.Proofs.Ytddbojpkmgmjmaa
open Go.RowKit Fl Go.WideShapes Go.Deep
attribute [local go_sem] kstore_f kalloc_drewN kset_drewN hstore_i hstore_s

set_option maxRecDepth 100000 in
set_option maxHeartbeats 4000000 in
theorem flatSpot_calls (p q wide long gw ga gl gn : Nat) (hp : 2 ≤ p ∧ p ≤ 6) (hq : 2 ≤ q ∧ q ≤ 6) (i j : Int) (w : World) (cw : w.cell? ⟨gw, 0, none⟩ = some (.float .f32 wide)) (ca : w.cell? ⟨ga, 0, none⟩ = some (.int .i64 p)) (cl : w.cell? ⟨gl, 0, none⟩ = some (.float .f32 long)) (cn : w.cell? ⟨gn, 0, none⟩ = some (.int .i64 q))
    (lw : gw < w.heap.size) (la : ga < w.heap.size) (ll : gl < w.heap.size) (ln : gn < w.heap.size) :
    Calls Try.prog 59 #[.int .i64 i, .int .i64 j, .pointer (some ⟨gw, 0, none⟩), .pointer (some ⟨ga, 0, none⟩), .pointer (some ⟨gl, 0, none⟩), .pointer (some ⟨gn, 0, none⟩)] w fun e w' => ∃ x y, e = .returned (.agg #[.float .f32 x, .float .f32 y, .float .f32 0]) ∧ FlatR p q wide long i j x y ∧ Below w.heap.size w w' := by
  have hpw : IntKind.i64.wrap ((p : Int) - 1) = (p : Int) - 1 := by rw [IntKind.wrap_i64]; omega
  have hqw : IntKind.i64.wrap ((q : Int) - 1) = (q : Int) - 1 := by rw [IntKind.wrap_i64]; omega
  have hw : Below w.heap.size w (w.alloc (.cells #[.float .f32 0, .float .f32 0, .float .f32 0] 44)) := (Below.refl _ _).alloc (Nat.le_refl _) _
  have hk : ∀ W, Below w.heap.size w W → (W.cell? ⟨gw, 0, none⟩ = some (.float .f32 wide) ∧ W.cell? ⟨ga, 0, none⟩ = some (.int .i64 p) ∧ W.cell? ⟨gl, 0, none⟩ = some (.float .f32 long) ∧ W.cell? ⟨gn, 0, none⟩ = some (.int .i64 q) ∧ Below w.heap.size w W) := fun W h => ⟨(h.cell (p := ⟨gw, 0, none⟩) lw).trans cw, (h.cell (p := ⟨ga, 0, none⟩) la).trans ca, (h.cell (p := ⟨gl, 0, none⟩) ll).trans cl, (h.cell (p := ⟨gn, 0, none⟩) ln).trans cn, h⟩
  go_enter Try.func59, Try.ntmps59
  go_wp2_with fail
  have hS0 : Below w.heap.size w (w.alloc (.cells #[.float .f32 0, .float .f32 0, .float .f32 0] 44)).drew := hw.drew
  refine region_hand 13 (fun W => Below w.heap.size w W) (by kernel_rfl) ?_
  refine' wpEnd_take 0 rfl (by kernel_rfl) hS0 (Or.inl ⟨by rfl, fun wq hSq => _⟩) _
  rotate_left
  · (obtain ⟨q0, q1, q2, q3, q4⟩ := hk _ hSq; go_simp; (try with_reducible rfl))
  simp only [Act.put, List.setIfInBounds_toArray, List.set_cons_zero, List.set_cons_succ]
  refine' wpEnd_take 1 rfl (by kernel_rfl) hS0 (Or.inl ⟨by rfl, fun wq hSq => _⟩) _
  rotate_left
  · (obtain ⟨q0, q1, q2, q3, q4⟩ := hk _ hSq; go_simp; (try with_reducible rfl))
  simp only [Act.put, List.setIfInBounds_toArray, List.set_cons_zero, List.set_cons_succ]
  refine' wpEnd_take 2 rfl (by kernel_rfl) hS0 (Or.inl ⟨by rfl, fun wq hSq => _⟩) _
  rotate_left
  · (obtain ⟨q0, q1, q2, q3, q4⟩ := hk _ hSq; go_simp; (try with_reducible rfl))
  simp only [Act.put, List.setIfInBounds_toArray, List.set_cons_zero, List.set_cons_succ]
  refine' wpEnd_take 3 rfl (by kernel_rfl) hS0 (Or.inl ⟨by rfl, fun wq hSq => _⟩) _
  rotate_left
  · (obtain ⟨q0, q1, q2, q3, q4⟩ := hk _ hSq; go_simp; (try with_reducible rfl))
  simp only [Act.put, List.setIfInBounds_toArray, List.set_cons_zero, List.set_cons_succ]
  refine' wpEnd_take 6 rfl (by kernel_rfl) hS0 (Or.inl ⟨by rfl, fun wq hSq => _⟩) _
  rotate_left
  · (obtain ⟨q0, q1, q2, q3, q4⟩ := hk _ hSq; go_simp; (try with_reducible rfl))
  simp only [Act.put, List.setIfInBounds_toArray, List.set_cons_zero, List.set_cons_succ]
  refine' wpEnd_take 7 rfl (by kernel_rfl) hS0 (Or.inl ⟨by rfl, fun wq hSq => _⟩) _
  rotate_left
  · (obtain ⟨q0, q1, q2, q3, q4⟩ := hk _ hSq; go_simp; (try with_reducible rfl))
  simp only [Act.put, List.setIfInBounds_toArray, List.set_cons_zero, List.set_cons_succ]
  refine' wpEnd_take 8 rfl (by kernel_rfl) hS0 (Or.inl ⟨by rfl, fun wq hSq => _⟩) _
  rotate_left
  · (obtain ⟨q0, q1, q2, q3, q4⟩ := hk _ hSq; go_simp; (try with_reducible rfl))
  simp only [Act.put, List.setIfInBounds_toArray, List.set_cons_zero, List.set_cons_succ]
  refine' wpEnd_take 9 rfl (by kernel_rfl) hS0 (Or.inl ⟨by rfl, fun wq hSq => _⟩) _
  rotate_left
  · (obtain ⟨q0, q1, q2, q3, q4⟩ := hk _ hSq; go_simp; (try with_reducible rfl))
  simp only [Act.put, List.setIfInBounds_toArray, List.set_cons_zero, List.set_cons_succ]
  refine wpEnd_ready [4] (by kernel_rfl) rfl (AllE.cons rfl (fun K hK => ?_) AllE.nil)
  go_simp
  go_at_call 60
  refine (quotient_calls _ _ _).mono ?_
  rintro e w' ⟨r1, m1, rfl, hr1, rfl⟩
  refine hK.out _ _ (.inr (by repeat' first | with_reducible exact hw | with_reducible apply below_drewN | with_reducible apply Below.drew)) ?_
  clear hK K
  (try simp only [Act.put, List.setIfInBounds_toArray, List.set_cons_zero, List.set_cons_succ])
  refine wpEnd_ready [5, 10] (by kernel_rfl) rfl (AllE.cons rfl (fun K hK => ?_) (AllE.cons rfl (fun K hK => ?_) AllE.nil))
  · refine step_arith rfl _ _ _ _ _ rfl rfl _ _ _ rfl rfl ?_
    intro x n_ hx _
    refine hK.out _ _ (.inr (by repeat' first | with_reducible exact hw | with_reducible apply below_drewN | with_reducible apply Below.drew)) ?_
    clear hK K
    (try simp only [Act.put, List.setIfInBounds_toArray, List.set_cons_zero, List.set_cons_succ])
    refine wpEnd_ready [10] (by kernel_rfl) rfl (AllE.cons rfl (fun K hK => ?_) AllE.nil)
    go_simp
    go_at_call 60
    refine (quotient_calls _ _ _).mono ?_
    rintro e w' ⟨r2, m2, rfl, hr2, rfl⟩
    refine hK.out _ _ (.inr (by repeat' first | with_reducible exact hw | with_reducible apply below_drewN | with_reducible apply Below.drew)) ?_
    clear hK K
    (try simp only [Act.put, List.setIfInBounds_toArray, List.set_cons_zero, List.set_cons_succ])
    refine wpEnd_ready [11] (by kernel_rfl) rfl (AllE.cons rfl (fun K hK => ?_) AllE.nil)
    refine step_arith rfl _ _ _ _ _ rfl rfl _ _ _ rfl rfl ?_
    intro y n_ hy _
    refine hK.out _ _ (.inr (by repeat' first | with_reducible exact hw | with_reducible apply below_drewN | with_reducible apply Below.drew)) ?_
    clear hK K
    (try simp only [Act.put, List.setIfInBounds_toArray, List.set_cons_zero, List.set_cons_succ])
    refine wpEnd_ready [12] (by kernel_rfl) rfl (AllE.cons rfl (fun K hK => ?_) AllE.nil)
    go_simp
    refine hK.out _ _ (.inr (by repeat' first | with_reducible exact hw | with_reducible apply below_drewN | with_reducible apply Below.drew)) ?_
    clear hK K
    (try simp only [Act.put, List.setIfInBounds_toArray, List.set_cons_zero, List.set_cons_succ])
    refine wpEnd_ready [13] (by kernel_rfl) rfl (AllE.cons rfl (fun K hK => ?_) AllE.nil)
    go_simp
    refine hK.out _ _ (.inl rfl) ?_
    clear hK K
    refine wpEnd_done (by kernel_rfl) ?_
    go_wp2_with fail
    refine bodyPost_ret (v := .agg #[.float .f32 x, .float .f32 y, .float .f32 0]) (by simp [results, Try.results59, go_sem]) rfl ⟨_, _, rfl, ⟨⟨_, hr1, hx⟩, ⟨_, hr2, hy⟩⟩, ?_⟩
    repeat' first | with_reducible exact Below.refl _ _ | with_reducible apply below_drewN | with_reducible apply Below.drew | (with_reducible refine Below.alloc ?_ ?_ _) | (with_reducible refine Below.setCell ?_ ?_ _) | (simp; done)
  · go_simp
    go_at_call 60
    refine (quotient_calls _ _ _).mono ?_
    rintro e w' ⟨r2, m2, rfl, hr2, rfl⟩
    refine hK.out _ _ (.inr (by repeat' first | with_reducible exact hw | with_reducible apply below_drewN | with_reducible apply Below.drew)) ?_
    clear hK K
    (try simp only [Act.put, List.setIfInBounds_toArray, List.set_cons_zero, List.set_cons_succ])
    refine wpEnd_ready [5, 11] (by kernel_rfl) rfl (AllE.cons rfl (fun K hK => ?_) (AllE.cons rfl (fun K hK => ?_) AllE.nil))
    · refine step_arith rfl _ _ _ _ _ rfl rfl _ _ _ rfl rfl ?_
      intro x n_ hx _
      refine hK.out _ _ (.inr (by repeat' first | with_reducible exact hw | with_reducible apply below_drewN | with_reducible apply Below.drew)) ?_
      clear hK K
      (try simp only [Act.put, List.setIfInBounds_toArray, List.set_cons_zero, List.set_cons_succ])
      refine wpEnd_ready [11] (by kernel_rfl) rfl (AllE.cons rfl (fun K hK => ?_) AllE.nil)
      refine step_arith rfl _ _ _ _ _ rfl rfl _ _ _ rfl rfl ?_
      intro y n_ hy _
      refine hK.out _ _ (.inr (by repeat' first | with_reducible exact hw | with_reducible apply below_drewN | with_reducible apply Below.drew)) ?_
      clear hK K
      (try simp only [Act.put, List.setIfInBounds_toArray, List.set_cons_zero, List.set_cons_succ])
      refine wpEnd_ready [12] (by kernel_rfl) rfl (AllE.cons rfl (fun K hK => ?_) AllE.nil)
      go_simp
      refine hK.out _ _ (.inr (by repeat' first | with_reducible exact hw | with_reducible apply below_drewN | with_reducible apply Below.drew)) ?_
      clear hK K
      (try simp only [Act.put, List.setIfInBounds_toArray, List.set_cons_zero, List.set_cons_succ])
      refine wpEnd_ready [13] (by kernel_rfl) rfl (AllE.cons rfl (fun K hK => ?_) AllE.nil)
      go_simp
      refine hK.out _ _ (.inl rfl) ?_
      clear hK K
      refine wpEnd_done (by kernel_rfl) ?_
      go_wp2_with fail
      refine bodyPost_ret (v := .agg #[.float .f32 x, .float .f32 y, .float .f32 0]) (by simp [results, Try.results59, go_sem]) rfl ⟨_, _, rfl, ⟨⟨_, hr1, hx⟩, ⟨_, hr2, hy⟩⟩, ?_⟩
      repeat' first | with_reducible exact Below.refl _ _ | with_reducible apply below_drewN | with_reducible apply Below.drew | (with_reducible refine Below.alloc ?_ ?_ _) | (with_reducible refine Below.setCell ?_ ?_ _) | (simp; done)
    · refine step_arith rfl _ _ _ _ _ rfl rfl _ _ _ rfl rfl ?_
      intro y n_ hy _
      refine hK.out _ _ (.inr (by repeat' first | with_reducible exact hw | with_reducible apply below_drewN | with_reducible apply Below.drew)) ?_
      clear hK K
      (try simp only [Act.put, List.setIfInBounds_toArray, List.set_cons_zero, List.set_cons_succ])
      refine wpEnd_ready [5] (by kernel_rfl) rfl (AllE.cons rfl (fun K hK => ?_) AllE.nil)
      refine step_arith rfl _ _ _ _ _ rfl rfl _ _ _ rfl rfl ?_
      intro x n_ hx _
      refine hK.out _ _ (.inr (by repeat' first | with_reducible exact hw | with_reducible apply below_drewN | with_reducible apply Below.drew)) ?_
      clear hK K
      (try simp only [Act.put, List.setIfInBounds_toArray, List.set_cons_zero, List.set_cons_succ])
      refine wpEnd_ready [12] (by kernel_rfl) rfl (AllE.cons rfl (fun K hK => ?_) AllE.nil)
      go_simp
      refine hK.out _ _ (.inr (by repeat' first | with_reducible exact hw | with_reducible apply below_drewN | with_reducible apply Below.drew)) ?_
      clear hK K
      (try simp only [Act.put, List.setIfInBounds_toArray, List.set_cons_zero, List.set_cons_succ])
      refine wpEnd_ready [13] (by kernel_rfl) rfl (AllE.cons rfl (fun K hK => ?_) AllE.nil)
      go_simp
      refine hK.out _ _ (.inl rfl) ?_
      clear hK K
      refine wpEnd_done (by kernel_rfl) ?_
      go_wp2_with fail
      refine bodyPost_ret (v := .agg #[.float .f32 x, .float .f32 y, .float .f32 0]) (by simp [results, Try.results59, go_sem]) rfl ⟨_, _, rfl, ⟨⟨_, hr1, hx⟩, ⟨_, hr2, hy⟩⟩, ?_⟩
      repeat' first | with_reducible exact Below.refl _ _ | with_reducible apply below_drewN | with_reducible apply Below.drew | (with_reducible refine Below.alloc ?_ ?_ _) | (with_reducible refine Below.setCell ?_ ?_ _) | (simp; done)

end Go.Proofs.Ytddbojpkmgmjmaa
