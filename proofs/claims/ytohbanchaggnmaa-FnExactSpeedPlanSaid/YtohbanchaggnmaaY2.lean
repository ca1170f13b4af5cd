/-
  PlanTime, both sides; its law.
-/
import Derived.Test.YtohbanchaggnmaaY1
import Derived.Test.YtohbanchaggnmaaKa
namespace Go.Proofs.Ytohbanchaggnmaa
open Go.RowKit Fl Ieee
attribute [local go_sem] kstore_f kalloc_drewN kset_drewN

/-- How long a plan takes. -/
def TimeR (r h c x : Nat) : Prop := ∃ a b s, FOp .mul .f32 1082130432 r a ∧ FOp .mul .f32 1073741824 h b ∧ FOp .add .f32 a b s ∧ FOp .add .f32 s c x
theorem TimeR.same {r h c x x' : Nat} (k : TimeR r h c x) (g : TimeR r h c x') : FSame .f32 x x' := by
  obtain ⟨a, b, s, h1, h2, h3, h4⟩ := k
  obtain ⟨a', b', s', g1, g2, g3, g4⟩ := g
  have e1 := FOp.same (FSame.refl _ _) (FSame.refl _ _) h1 g1
  have e2 := FOp.same (FSame.refl _ _) (FSame.refl _ _) h2 g2
  exact FOp.same (FOp.same e1 e2 h3 g3) (FSame.refl _ _) h4 g4
def PtO (j r h c t : Nat) (ok : Bool) : Prop := (planB j r h c = true ∧ ∃ x, TimeR r h c x ∧ NumA x t ok) ∨ (planB j r h c = false ∧ t = 0 ∧ ok = false)
theorem PtO.same {j r h c t t' : Nat} {ok ok' : Bool} (k : PtO j r h c t ok) (g : PtO j r h c t' ok') : FSame .f32 t t' ∧ ok = ok' := by
  rcases k with ⟨k1, x, k2, k3⟩ | ⟨k1, rfl, rfl⟩ <;> rcases g with ⟨g1, y, g2, g3⟩ | ⟨g1, rfl, rfl⟩
  · exact NumA.same (TimeR.same k2 g2) k3 g3
  · rw [k1] at g1; cases g1
  · rw [k1] at g1; cases g1
  · exact ⟨FSame.refl _ _, rfl⟩

set_option maxRecDepth 100000 in
set_option maxHeartbeats 1000000 in
theorem toPlan_calls (j r h c : Nat) (w : World) : Calls Try.prog 54 #[.agg #[.float .f32 j, .float .f32 r, .float .f32 h, .float .f32 c]] w fun e w' => e = .returned (.agg #[.float .f32 j, .float .f32 r, .float .f32 h, .float .f32 c]) ∧ Below w.heap.size w w' := by
  go_enter Try.func54, Try.ntmps54
  go_wp2
  refine bodyPost_ret (v := .agg #[.float .f32 j, .float .f32 r, .float .f32 h, .float .f32 c]) (by simp [results, Try.results54, go_sem]) rfl ⟨rfl, ?_⟩
  exact b3 _ _ _ _ 0

set_option maxRecDepth 100000 in
set_option maxHeartbeats 1000000 in
theorem planTime_calls (j s h c : Nat) (w : World) : Calls Try.prog 55 #[.agg #[.float .f32 j, .float .f32 s, .float .f32 h, .float .f32 c]] w fun e w' => ∃ t ok, e = .returned (.tuple #[.float .f32 t, .bool ok]) ∧ PtO j s h c t ok ∧ Below w.heap.size w w' := by
  cases h1 : planB j s h c
  all_goals
    go_enter Try.func55, Try.ntmps55
    go_wp2_with (first | (go_at_call 123; refine (isPlan_calls _ _ _ _ _).mono ?_; rintro e w' ⟨rfl, hB⟩; rw [h1]; have hc := rd_of hB; have hz := fz_of hB; have hs := sz_of hB; have HB := below_ch (B := w.heap.size) (a := w) (by repeat' first | exact below_st _ | assumption | apply below_dn | apply below_al | (refine below_sc ?_ ?_ _; · simp only [World.size_alloc]; omega)) hB rfl; (try have hl0 : w.heap.size < w'.heap.size := (by have := hB.size; (try simp at this); omega))) | (refine wpList_arith rfl _ _ _ _ _ rfl rfl _ _ _ rfl rfl ?_; intro r n hr hl) | (go_at_call 93; refine (numA_calls _ _).mono ?_; rintro e w' ⟨t, ok, rfl, hn, m, rfl⟩))
  · go_ret2
    exact ⟨_, _, rfl, .inr ⟨h1, rfl, rfl⟩, HB.2⟩
  · rename_i r1 n1 hr1 hl1 r2 n2 hr2 hl2 r3 n3 hr3 hl3
    go_ret2
    exact ⟨_, _, rfl, .inl ⟨h1, _, ⟨_, _, _, hr1, hr2, hr3, hr⟩, hn⟩, below_drewN HB.2 _⟩

set_option maxRecDepth 100000 in
set_option maxHeartbeats 1000000 in
theorem specPlanTime_calls (j s h c : Nat) (w : World) : Calls Try.prog 53 #[.agg #[.float .f32 j, .float .f32 s, .float .f32 h, .float .f32 c]] w fun e w' => ∃ t ok, e = .returned (.tuple #[.float .f32 t, .bool ok]) ∧ PtO j s h c t ok ∧ Below w.heap.size w w' := by
  cases h1 : planB j s h c
  all_goals
    go_enter Try.func53, Try.ntmps53
    go_wp2_with (first | (go_at_call 118; refine (l07Plan_calls w.heap.size j s h c _ (by simp [go_sem])).mono ?_; rintro e w' ⟨rfl, n0, rfl⟩; rw [h1]) | (refine wpList_arith rfl _ _ _ _ _ rfl rfl _ _ _ rfl rfl ?_; intro r n hr hl) | (go_at_call 90; refine (l02NumA_calls _ _).mono ?_; rintro e w' ⟨t, ok, rfl, hn, m, rfl⟩))
  · go_ret2
    exact ⟨_, _, rfl, .inr ⟨h1, rfl, rfl⟩, by (apply bel_of; (repeat (first | apply below_dn | apply below_al)); exact below_st _)⟩
  · rename_i r1 n1 hr1 hl1 r2 n2 hr2 hl2 r3 n3 hr3 hl3
    go_ret2
    exact ⟨_, _, rfl, .inl ⟨h1, _, ⟨_, _, _, hr1, hr2, hr3, hr⟩, hn⟩, by (apply bel_of; (repeat (first | apply below_dn | apply below_al)); exact below_st _)⟩

set_option maxRecDepth 100000 in
set_option maxHeartbeats 1000000 in
theorem fnExactPlanTime_walk (j s h c : Nat) (w : World) : Calls Try.prog 13 #[.agg #[.float .f32 j, .float .f32 s, .float .f32 h, .float .f32 c]] w fun e w' => e = .returned (.bool true) ∧ Below w.heap.size w w' := by
  go_enter Try.func13, Try.ntmps13
  go_wp2_with (first | (go_at_call 54; refine (toPlan_calls _ _ _ _ _).mono ?_; rintro e w' ⟨rfl, hB⟩; have hc := rd_of hB; have hz := fz_of hB; have hs := sz_of hB; have HB := below_ch (B := w.heap.size) (a := w) (by repeat' first | exact below_st _ | assumption | apply below_dn | apply below_al | (refine below_sc ?_ ?_ _; · simp only [World.size_alloc]; omega)) hB rfl; (try have hl0 : w.heap.size < w'.heap.size := (by have := hB.size; (try simp at this); omega))) | (go_at_call 53; refine (specPlanTime_calls _ _ _ _ _).mono ?_; rintro e w' ⟨r0, k0, rfl, hs0, hB⟩; have hc := rd_of hB; have hz := fz_of hB; have hs := sz_of hB; have HB := below_ch (B := w.heap.size) (a := w) (by repeat' first | exact below_st _ | assumption | apply below_dn | apply below_al | (refine below_sc ?_ ?_ _; · simp only [World.size_alloc]; omega)) hB rfl; (try have hl0 : w.heap.size < w'.heap.size := (by have := hB.size; (try simp at this); omega))) | (go_at_call 55; refine (planTime_calls _ _ _ _ _).mono ?_; rintro e w' ⟨r1, k1, rfl, hi0, hB⟩; obtain ⟨hS, rfl⟩ := PtO.same hi0 hs0; have hc := rd_of hB; have hz := fz_of hB; have hs := sz_of hB; have HB := below_ch (B := w.heap.size) (a := w) (by repeat' first | exact below_st _ | assumption | apply below_dn | apply below_al | (refine below_sc ?_ ?_ _; · simp only [World.size_alloc]; omega)) hB rfl; (try have hl0 : w.heap.size < w'.heap.size := (by have := hB.size; (try simp at this); omega))) | (refine wpList_conv rfl _ _ _ rfl .f32 .f64 (by decide) (.inl rfl) _ rfl (by kernel_rfl) (by kernel_rfl) ?_; intro r n hr hl) | (go_at_call 36; refine (sameFloat_calls _ _ (wide_pair hS (by with_reducible assumption) (by with_reducible assumption)) _).mono ?_; rintro e w' ⟨rfl, n, rfl⟩))
  go_ret
  exact ⟨rfl, below_drewN HB.2 _⟩

end Go.Proofs.Ytohbanchaggnmaa
