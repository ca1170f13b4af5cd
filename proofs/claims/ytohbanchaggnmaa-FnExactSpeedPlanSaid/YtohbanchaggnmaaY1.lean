/-
  Plans: whether one is valid, both sides.
-/
import Derived.Test.YtohbanchaggnmaaJa
namespace Go.Proofs.Ytohbanchaggnmaa
open Go.RowKit Fl Ieee

def aboveB (x : Nat) : Bool := fin .f32 x && (FloatKind.f32.format.order x 0 == some Ordering.gt)
def leastB (x : Nat) : Bool := fin .f32 x && (FloatKind.f32.format.order x 0 == some Ordering.gt || FloatKind.f32.format.order x 0 == some Ordering.eq)
def planB (j r h c : Nat) : Bool := aboveB j && leastB r && leastB h && leastB c

set_option maxRecDepth 100000 in
set_option maxHeartbeats 1000000 in
theorem l02Above_calls (x : Nat) (w : World) : Calls Try.prog 109 #[.float .f32 x] w fun e w' => e = .returned (.bool (aboveB x)) ∧ ∃ n, w' = w.drewN n := by
  unfold aboveB
  cases hf : fin .f32 x
  all_goals
    go_enter Try.func109, Try.ntmps109
    go_wp2_with (go_at_call 94; refine (l01Finite_calls _ _).mono ?_; rintro e w' ⟨rfl, n, rfl⟩; rw [hf])
    go_ret
    exact ⟨ret_bool (by simp), _, rfl⟩

set_option maxRecDepth 100000 in
set_option maxHeartbeats 1000000 in
theorem l02Least_calls (x : Nat) (w : World) : Calls Try.prog 102 #[.float .f32 x] w fun e w' => e = .returned (.bool (leastB x)) ∧ ∃ n, w' = w.drewN n := by
  unfold leastB
  cases hf : fin .f32 x
  all_goals
    go_enter Try.func102, Try.ntmps102
    go_wp2_with (go_at_call 94; refine (l01Finite_calls _ _).mono ?_; rintro e w' ⟨rfl, n, rfl⟩; rw [hf])
    go_ret
    exact ⟨ret_bool (by simp), _, rfl⟩

theorem finL_four (j r h c : Nat) : finL [j, r, h, c] = (fin .f32 j && (fin .f32 r && (fin .f32 h && fin .f32 c))) := by
  unfold finL
  simp [List.all_cons]
theorem RdF.four (w : World) (j r h c : Nat) (t : TypeId) : RdF (w.alloc (.cells #[.float .f32 j, .float .f32 r, .float .f32 h, .float .f32 c] t)) (some ⟨w.heap.size, 0, none⟩) [j, r, h, c] := fun _ => by
  refine ⟨_, 0, rfl, by simp, fun k hk => ?_⟩
  have hk4 : k < 4 := hk
  match k, hk4 with
  | 0, _ => simp [go_sem]
  | 1, _ => simp [go_sem]
  | 2, _ => simp [go_sem]
  | 3, _ => simp [go_sem]

theorem areFin_four (g j r h c : Nat) (W : World) (hr : RdF W (some ⟨g, 0, none⟩) [j, r, h, c]) : Calls Try.prog 157 #[.slice (some ⟨g, 0, none⟩) 4 4] W fun e w' => e = .returned (.bool (finL [j, r, h, c])) ∧ ∃ m, w' = W.drewN m := by
  have e : [j, r, h, c].length = 4 := rfl
  have h := areFin_calls (some ⟨g, 0, none⟩) [j, r, h, c] 4 W (by rw [e]; decide) hr
  rw [e] at h
  exact h

theorem planB_eq (j r h c : Nat) : planB j r h c = (finL [j, r, h, c] && ((FloatKind.f32.format.order j 0 == some Ordering.gt) && ((FloatKind.f32.format.order r 0 == some Ordering.gt || FloatKind.f32.format.order r 0 == some Ordering.eq) && ((FloatKind.f32.format.order h 0 == some Ordering.gt || FloatKind.f32.format.order h 0 == some Ordering.eq) && (FloatKind.f32.format.order c 0 == some Ordering.gt || FloatKind.f32.format.order c 0 == some Ordering.eq))))) := by
  unfold planB aboveB leastB
  rw [finL_four]
  generalize (FloatKind.f32.format.order j 0 == some Ordering.gt) = b1
  generalize (FloatKind.f32.format.order r 0 == some Ordering.gt || FloatKind.f32.format.order r 0 == some Ordering.eq) = b2
  generalize (FloatKind.f32.format.order h 0 == some Ordering.gt || FloatKind.f32.format.order h 0 == some Ordering.eq) = b3
  generalize (FloatKind.f32.format.order c 0 == some Ordering.gt || FloatKind.f32.format.order c 0 == some Ordering.eq) = b4
  generalize fin .f32 j = f1
  generalize fin .f32 r = f2
  generalize fin .f32 h = f3
  generalize fin .f32 c = f4
  revert b1 b2 b3 b4 f1 f2 f3 f4
  decide

set_option maxRecDepth 100000 in
set_option maxHeartbeats 1000000 in
theorem isPlan_calls (j r h c : Nat) (w : World) : Calls Try.prog 123 #[.agg #[.float .f32 j, .float .f32 r, .float .f32 h, .float .f32 c]] w fun e w' => e = .returned (.bool (planB j r h c)) ∧ Below w.heap.size w w' := by
  have HA := Frame.hid (fun W g (hr : RdF W (some ⟨g, 0, none⟩) [j, r, h, c]) => areFin_four g j r h c W hr)
  have hp := planB_eq j r h c
  have HP := Frame.hid hp
  generalize planB j r h c = P at HP ⊢
  clear hp
  have hL : RdF ((w.alloc (.cells #[.float .f32 j, .float .f32 r, .float .f32 h, .float .f32 c] 72)).alloc (.cells #[.float .f32 j, .float .f32 r, .float .f32 h, .float .f32 c] 25)) (some ⟨w.heap.size + 1, 0, none⟩) [j, r, h, c] := by
    have e : w.heap.size + 1 = (w.alloc (.cells #[.float .f32 j, .float .f32 r, .float .f32 h, .float .f32 c] 72)).heap.size := by simp
    rw [e]
    exact RdF.four _ j r h c 25
  have HL := Frame.hid hL
  have hB := ((Below.refl w.heap.size w).alloc (Nat.le_refl _) (.cells #[.float .f32 j, .float .f32 r, .float .f32 h, .float .f32 c] 72)).alloc (by simp) (.cells #[.float .f32 j, .float .f32 r, .float .f32 h, .float .f32 c] 25)
  have HB := Frame.hid hB
  clear hL hB
  go_enter Try.func123, Try.ntmps123
  go_wp2_with fail
  refine (HA.out _ _ HL.out).mono ?_
  rintro e w1 ⟨rfl, n1, rfl⟩
  cases h0 : finL [j, r, h, c]
  · go_wp2_with fail
    go_ret
    exact ⟨ret_bool (by rw [HP.out]; simp [*]), below_drewN HB.out _⟩
  cases h1 : (FloatKind.f32.format.order j 0 == some Ordering.gt)
  · go_wp2_with fail
    go_ret
    exact ⟨ret_bool (by rw [HP.out]; simp [*]), below_drewN HB.out _⟩
  cases h2 : (FloatKind.f32.format.order r 0 == some Ordering.gt || FloatKind.f32.format.order r 0 == some Ordering.eq)
  · go_wp2_with fail
    go_ret
    exact ⟨ret_bool (by rw [HP.out]; simp [*]), below_drewN HB.out _⟩
  cases h3 : (FloatKind.f32.format.order h 0 == some Ordering.gt || FloatKind.f32.format.order h 0 == some Ordering.eq)
  · go_wp2_with fail
    go_ret
    exact ⟨ret_bool (by rw [HP.out]; simp [*]), below_drewN HB.out _⟩
  · go_wp2_with fail
    go_ret
    exact ⟨ret_bool (by rw [HP.out]; simp [*]), below_drewN HB.out _⟩

set_option maxRecDepth 100000 in
set_option maxHeartbeats 1000000 in
theorem l07Plan_calls (g j r h c : Nat) (w : World) (hc : w.cell? ⟨g, 0, none⟩ = some (.float .f32 j) ∧ w.cell? ⟨g, 1, none⟩ = some (.float .f32 r) ∧ w.cell? ⟨g, 2, none⟩ = some (.float .f32 h) ∧ w.cell? ⟨g, 3, none⟩ = some (.float .f32 c)) : Calls Try.prog 118 #[.pointer (some ⟨g, 0, none⟩)] w fun e w' => e = .returned (.bool (planB j r h c)) ∧ ∃ n, w' = w.drewN n := by
  obtain ⟨c0, c1, c2, c3⟩ := hc
  unfold planB
  cases h1 : aboveB j
  · go_enter Try.func118, Try.ntmps118
    go_wp2_with (go_at_call 109; refine (l02Above_calls _ _).mono ?_; rintro e w' ⟨rfl, n, rfl⟩; rw [h1])
    go_ret
    exact ⟨ret_bool rfl, _, rfl⟩
  cases h2 : leastB r
  · go_enter Try.func118, Try.ntmps118
    go_wp2_with (first | (go_at_call 109; refine (l02Above_calls _ _).mono ?_; rintro e w' ⟨rfl, n, rfl⟩; rw [h1]) | (go_at_call 102; refine (l02Least_calls _ _).mono ?_; rintro e w' ⟨rfl, n, rfl⟩; first | rw [h2]))
    go_ret
    exact ⟨ret_bool rfl, _, rfl⟩
  cases h3 : leastB h
  · go_enter Try.func118, Try.ntmps118
    go_wp2_with (first | (go_at_call 109; refine (l02Above_calls _ _).mono ?_; rintro e w' ⟨rfl, n, rfl⟩; rw [h1]) | (go_at_call 102; refine (l02Least_calls _ _).mono ?_; rintro e w' ⟨rfl, n, rfl⟩; first | rw [h2] | rw [h3]))
    go_ret
    exact ⟨ret_bool rfl, _, rfl⟩
  cases h4 : leastB c
  all_goals
    go_enter Try.func118, Try.ntmps118
    go_wp2_with (first | (go_at_call 109; refine (l02Above_calls _ _).mono ?_; rintro e w' ⟨rfl, n, rfl⟩; rw [h1]) | (go_at_call 102; refine (l02Least_calls _ _).mono ?_; rintro e w' ⟨rfl, n, rfl⟩; first | rw [h2] | rw [h3] | rw [h4]))
    go_ret
    exact ⟨ret_bool rfl, _, rfl⟩

end Go.Proofs.Ytohbanchaggnmaa
