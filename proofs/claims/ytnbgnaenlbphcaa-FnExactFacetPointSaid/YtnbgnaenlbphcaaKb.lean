/-
  Cross products and lengths of spots, walked on both sides; the laws of single spots.
-/
import Derived.Test.YtnbgnaenlbphcaaKa
namespace Go.Proofs.Ytnbgnaenlbphcaa
open Go.RowKit Fl
attribute [local go_sem] kstore_f kalloc_drewN kset_drewN

set_option maxRecDepth 100000 in
set_option maxHeartbeats 400000 in
theorem numO_calls (x : Nat) (w : World) : Calls Try.prog 102 #[.float .f32 x] w fun e w' => ∃ r ok, e = .returned (.tuple #[.float .f32 r, .bool ok]) ∧ NumR x r ok ∧ ∃ n, w' = w.drewN n := by
  cases hf : fin .f32 x
  all_goals
    go_enter Try.func102, Try.ntmps102
    go_wp2_with (go_at_call 148; refine (isFinite_calls _ _).mono ?_; rintro e w' ⟨rfl, n, rfl⟩; rw [hf])
    go_ret2
  · exact ⟨_, _, rfl, ⟨hf.symm, fun h => (by cases h), fun _ => rfl⟩, _, rfl⟩
  · exact ⟨_, _, rfl, ⟨hf.symm, fun _ => rfl, fun h => (by cases h)⟩, _, rfl⟩

set_option maxRecDepth 100000 in
set_option maxHeartbeats 400000 in
theorem l02NumO_calls (x : Nat) (w : World) : Calls Try.prog 99 #[.float .f32 x] w fun e w' => ∃ r ok, e = .returned (.tuple #[.float .f32 r, .bool ok]) ∧ NumR x r ok ∧ ∃ n, w' = w.drewN n := by
  cases hf : fin .f32 x
  all_goals
    go_enter Try.func99, Try.ntmps99
    go_wp2_with (go_at_call 144; refine (l01Finite_calls _ _).mono ?_; rintro e w' ⟨rfl, n, rfl⟩; rw [hf])
    go_ret2
  · exact ⟨_, _, rfl, ⟨hf.symm, fun h => (by cases h), fun _ => rfl⟩, _, rfl⟩
  · exact ⟨_, _, rfl, ⟨hf.symm, fun _ => rfl, fun h => (by cases h)⟩, _, rfl⟩

set_option maxRecDepth 100000 in
set_option maxHeartbeats 400000 in
theorem l04Cross_calls (x y z x' y' z' : Nat) (w : World) : Calls Try.prog 143 #[.agg #[.float .f32 x, .float .f32 y, .float .f32 z], .agg #[.float .f32 x', .float .f32 y', .float .f32 z']] w fun e w' => ∃ a b c n, e = .returned (.agg #[.float .f32 a, .float .f32 b, .float .f32 c]) ∧ CrossR x y z x' y' z' a b c ∧ w' = (((w.alloc (.cells #[.float .f32 x, .float .f32 y, .float .f32 z] 57)).alloc (.cells #[.float .f32 x', .float .f32 y', .float .f32 z'] 57)).alloc (.cells #[.float .f32 a, .float .f32 b, .float .f32 c] 57)).drewN n := by
  go_enter Try.func143, Try.ntmps143
  go_wp2_with (refine wpList_arith rfl _ _ _ _ _ rfl rfl _ _ _ rfl rfl ?_; intro r n hr hl)
  rename_i r1 n1 hr1 hl1 r2 n2 hr2 hl2 r3 n3 hr3 hl3 r4 n4 hr4 hl4 r5 n5 hr5 hl5 r6 n6 hr6 hl6 r7 n7 hr7 hl7 r8 n8 hr8 hl8
  refine bodyPost_ret (v := .agg #[.float .f32 r3, .float .f32 r6, .float .f32 r]) (by simp [results, Try.results143, go_sem]) rfl ⟨_, _, _, _, rfl, ⟨⟨_, _, hr1, hr2, hr3⟩, ⟨_, _, hr4, hr5, hr6⟩, ⟨_, _, hr7, hr8, hr⟩⟩, rfl⟩

set_option maxRecDepth 100000 in
set_option maxHeartbeats 400000 in
theorem crossSpots_calls (x y z x' y' z' : Nat) (w : World) : Calls Try.prog 146 #[.agg #[.float .f32 x, .float .f32 y, .float .f32 z], .agg #[.float .f32 x', .float .f32 y', .float .f32 z']] w fun e w' => ∃ a b c ok, e = .returned (.tuple #[.agg #[.float .f32 a, .float .f32 b, .float .f32 c], .bool ok]) ∧ CrossO x y z x' y' z' a b c ok ∧ Below w.heap.size w w' := by
  cases h1 : fin3 x y z <;> cases h2 : fin3 x' y' z'
  all_goals
    go_enter Try.func146, Try.ntmps146
    go_wp2_with (first | (refine wpList_arith rfl _ _ _ _ _ rfl rfl _ _ _ rfl rfl ?_; intro r n hr hl) | (go_at_call 132; refine (isSpot_calls _ _ _ _).mono ?_; rintro e w' ⟨rfl, n, rfl⟩; first | rw [h1] | rw [h2]) | (go_at_call 90; refine (spotIfFinite_calls _ _ _ _).mono ?_; rintro e w' ⟨a, b, c, ok, n, rfl, hg, rfl⟩))
  · refine bodyPost_ret (v := .tuple #[.agg #[.float .f32 0, .float .f32 0, .float .f32 0], .bool false]) (by simp [results, Try.results146, go_sem]) rfl ⟨_, _, _, _, rfl, .inr ⟨by rw [h1, h2]; rfl, rfl, rfl, rfl, rfl⟩, ?_⟩
    (apply bel_of; (repeat (first | apply below_dn | apply below_al)); exact below_st _)
  · refine bodyPost_ret (v := .tuple #[.agg #[.float .f32 0, .float .f32 0, .float .f32 0], .bool false]) (by simp [results, Try.results146, go_sem]) rfl ⟨_, _, _, _, rfl, .inr ⟨by rw [h1, h2]; rfl, rfl, rfl, rfl, rfl⟩, ?_⟩
    (apply bel_of; (repeat (first | apply below_dn | apply below_al)); exact below_st _)
  · refine bodyPost_ret (v := .tuple #[.agg #[.float .f32 0, .float .f32 0, .float .f32 0], .bool false]) (by simp [results, Try.results146, go_sem]) rfl ⟨_, _, _, _, rfl, .inr ⟨by rw [h1, h2]; rfl, rfl, rfl, rfl, rfl⟩, ?_⟩
    (apply bel_of; (repeat (first | apply below_dn | apply below_al)); exact below_st _)
  · rename_i r1 n1 hr1 hl1 r2 n2 hr2 hl2 r3 n3 hr3 hl3 r4 n4 hr4 hl4 r5 n5 hr5 hl5 r6 n6 hr6 hl6 r7 n7 hr7 hl7 r8 n8 hr8 hl8 n9
    have hcr : CrossR x y z x' y' z' _ _ _ := ⟨⟨_, _, hr1, hr2, hr3⟩, ⟨_, _, hr4, hr5, hr6⟩, ⟨_, _, hr7, hr8, hr⟩⟩
    refine bodyPost_ret (v := .tuple #[.agg #[.float .f32 a, .float .f32 b, .float .f32 c], .bool ok]) (by simp [results, Try.results146, go_sem]) rfl ⟨_, _, _, _, rfl, .inl ⟨by rw [h1, h2]; rfl, _, _, _, hcr, hg⟩, ?_⟩
    (apply bel_of; (repeat (first | apply below_dn | apply below_al)); exact below_st _)

set_option maxRecDepth 100000 in
set_option maxHeartbeats 400000 in
theorem specCrossSpots_calls (x y z x' y' z' : Nat) (w : World) : Calls Try.prog 97 #[.agg #[.float .f32 x, .float .f32 y, .float .f32 z], .agg #[.float .f32 x', .float .f32 y', .float .f32 z']] w fun e w' => ∃ a b c ok, e = .returned (.tuple #[.agg #[.float .f32 a, .float .f32 b, .float .f32 c], .bool ok]) ∧ CrossO x y z x' y' z' a b c ok ∧ Below w.heap.size w w' := by
  cases h1 : fin3 x y z <;> cases h2 : fin3 x' y' z'
  all_goals
    go_enter Try.func97, Try.ntmps97
    go_wp2_with (first | (go_at_call 138; refine (l04Spot_calls _ _ _ _).mono ?_; rintro e w' ⟨rfl, n, rfl⟩; first | rw [h1] | rw [h2]) | (go_at_call 143; refine (l04Cross_calls _ _ _ _ _ _ _).mono ?_; rintro e w' ⟨a', b', c', n, rfl, hcr, rfl⟩) | (go_at_call 87; refine (l04Given_calls _ _ _ _).mono ?_; rintro e w' ⟨a, b, c, ok, n, rfl, hg, rfl⟩))
  · refine bodyPost_ret (v := .tuple #[.agg #[.float .f32 0, .float .f32 0, .float .f32 0], .bool false]) (by simp [results, Try.results97, go_sem]) rfl ⟨_, _, _, _, rfl, .inr ⟨by rw [h1, h2]; rfl, rfl, rfl, rfl, rfl⟩, ?_⟩
    (apply bel_of; (repeat (first | apply below_dn | apply below_al)); exact below_st _)
  · refine bodyPost_ret (v := .tuple #[.agg #[.float .f32 0, .float .f32 0, .float .f32 0], .bool false]) (by simp [results, Try.results97, go_sem]) rfl ⟨_, _, _, _, rfl, .inr ⟨by rw [h1, h2]; rfl, rfl, rfl, rfl, rfl⟩, ?_⟩
    (apply bel_of; (repeat (first | apply below_dn | apply below_al)); exact below_st _)
  · refine bodyPost_ret (v := .tuple #[.agg #[.float .f32 0, .float .f32 0, .float .f32 0], .bool false]) (by simp [results, Try.results97, go_sem]) rfl ⟨_, _, _, _, rfl, .inr ⟨by rw [h1, h2]; rfl, rfl, rfl, rfl, rfl⟩, ?_⟩
    (apply bel_of; (repeat (first | apply below_dn | apply below_al)); exact below_st _)
  · skip
    refine bodyPost_ret (v := .tuple #[.agg #[.float .f32 a, .float .f32 b, .float .f32 c], .bool ok]) (by simp [results, Try.results97, go_sem]) rfl ⟨_, _, _, _, rfl, .inl ⟨by rw [h1, h2]; rfl, _, _, _, hcr, hg⟩, ?_⟩
    (apply bel_of; (repeat (first | apply below_dn | apply below_al)); exact below_st _)

set_option maxRecDepth 100000 in
set_option maxHeartbeats 400000 in
theorem l04Long_calls (x y z : Nat) (w : World) : Calls Try.prog 149 #[.agg #[.float .f32 x, .float .f32 y, .float .f32 z]] w fun e w' => ∃ q, e = .returned (.float .f32 q) ∧ (∃ d, DotR x y z x y z d ∧ RootR d q) ∧ Below w.heap.size w w' := by
  go_enter Try.func149, Try.ntmps149
  go_wp2_with (first | (go_at_call 98; refine (l04Dot_calls _ _ _ _ _ _ _).mono ?_; rintro e w' ⟨d, rfl, hd, hdl, hB⟩) | (go_at_call 163; refine (l01Sqrt_calls _ _).mono ?_; rintro e w' ⟨q, n, rfl, hq, hql, rfl⟩))
  go_ret
  refine ⟨_, rfl, ⟨_, hd, hq⟩, ?_⟩
  exact (below_dn _ (below_ch (below_al _ (below_st _)) hB rfl)).2

set_option maxRecDepth 100000 in
set_option maxHeartbeats 400000 in
theorem longOfSpot_calls (x y z : Nat) (w : World) : Calls Try.prog 151 #[.agg #[.float .f32 x, .float .f32 y, .float .f32 z]] w fun e w' => ∃ r ok, e = .returned (.tuple #[.float .f32 r, .bool ok]) ∧ LongO x y z r ok ∧ Below w.heap.size w w' := by
  cases h1 : fin3 x y z
  all_goals
    go_enter Try.func151, Try.ntmps151
    go_wp2_with (first | (go_at_call 132; refine (isSpot_calls _ _ _ _).mono ?_; rintro e w' ⟨rfl, n, rfl⟩; rw [h1]) | (go_at_call 147; refine (dotOfSpots_calls _ _ _ _ _ _ _).mono ?_; rintro e w' ⟨d, rfl, hd, hdl, hB⟩) | (go_at_call 164; refine (rootNumber_calls _ _).mono ?_; rintro e w' ⟨q, n, rfl, hq, hql, rfl⟩) | (go_at_call 102; refine (numO_calls _ _).mono ?_; rintro e w' ⟨r, ok, rfl, hn, n, rfl⟩))
  · go_ret2
    exact ⟨_, _, rfl, .inr ⟨h1, rfl, rfl⟩, by (apply bel_of; (repeat (first | apply below_dn | apply below_al)); exact below_st _)⟩
  · go_ret2
    exact ⟨_, _, rfl, .inl ⟨h1, _, _, hd, hq, hn⟩, (below_dn _ (below_ch (below_dn _ (below_al _ (below_al _ (below_st _)))) hB rfl)).2⟩

set_option maxRecDepth 100000 in
set_option maxHeartbeats 400000 in
theorem specLongOfSpot_calls (x y z : Nat) (w : World) : Calls Try.prog 104 #[.agg #[.float .f32 x, .float .f32 y, .float .f32 z]] w fun e w' => ∃ r ok, e = .returned (.tuple #[.float .f32 r, .bool ok]) ∧ LongO x y z r ok ∧ Below w.heap.size w w' := by
  cases h1 : fin3 x y z
  all_goals
    go_enter Try.func104, Try.ntmps104
    go_wp2_with (first | (go_at_call 138; refine (l04Spot_calls _ _ _ _).mono ?_; rintro e w' ⟨rfl, n, rfl⟩; rw [h1]) | (go_at_call 149; refine (l04Long_calls _ _ _ _).mono ?_; rintro e w' ⟨q, rfl, ⟨d, hd, hq⟩, hB⟩) | (go_at_call 99; refine (l02NumO_calls _ _).mono ?_; rintro e w' ⟨r, ok, rfl, hn, n, rfl⟩))
  · go_ret2
    exact ⟨_, _, rfl, .inr ⟨h1, rfl, rfl⟩, by (apply bel_of; (repeat (first | apply below_dn | apply below_al)); exact below_st _)⟩
  · go_ret2
    exact ⟨_, _, rfl, .inl ⟨h1, _, _, hd, hq, hn⟩, (below_dn _ (below_ch (below_dn _ (below_al _ (below_al _ (below_st _)))) hB rfl)).2⟩

end Go.Proofs.Ytnbgnaenlbphcaa
