/-
  Plain curves are valid, on both sides.
-/
import Derived.Test.YtbdmmpkphiilkaaBn
namespace Go.Proofs.Ytbdmmpkphiilkaa
open Go.RowKit Fl Ieee
attribute [local go_sem] run_store_c run_store_f

theorem fv_fin {x : Nat} {q : Rat} (h : FV .f32 x q) : fin .f32 x = true := by
  obtain ⟨s, m, e, h1, _⟩ := h
  unfold fin
  rw [h1]

/-- Points with finite parts. -/
def FinP (ps : List (Nat × Nat)) : Prop := ∀ i, i < ps.length → fin .f32 (ps.getD i (0, 0)).1 = true ∧ fin .f32 (ps.getD i (0, 0)).2 = true

set_option maxHeartbeats 1000000 in
theorem finC_calls (x y : Nat) (hx : fin .f32 x = true) (hy : fin .f32 y = true) (w : World) :
    Calls Try.prog 40 #[.complex .f32 x y] w fun e w' => e = .returned (.bool true) ∧ ∃ n, w' = w.drewN n := by
  go_enter Try.func40, Try.ntmps40
  go_wp2_with fail
  refine (isFinite_calls _ _).mono ?_
  rintro e w1 ⟨rfl, n1, rfl⟩
  rw [hx]
  go_wp2_with fail
  refine (isFinite_calls _ _).mono ?_
  rintro e w1 ⟨rfl, n2, rfl⟩
  rw [hy]
  go_wp2_with fail
  go_ret
  exact ⟨rfl, _, rfl⟩

set_option maxRecDepth 100000 in
set_option maxHeartbeats 4000000 in
theorem areFinitePoints_calls (A : Option Addr) (ps : List (Nat × Nat)) (c1 : Nat) (hn : ps.length ≤ 1000) (hf : FinP ps) (w : World) (hA : RdC w A ps) :
    Calls Try.prog 79 #[.slice A ps.length c1] w fun e w' => e = .returned (.bool true) ∧ ∃ n, w' = w.drewN n := by
  have HA := Frame.hid hA
  have HF := Frame.hid hf
  clear hA hf
  obtain ⟨n, hn'⟩ : ∃ n, n = ps.length := ⟨_, rfl⟩
  have HN := Frame.hid hn'
  rw [← hn'] at hn ⊢
  clear hn'
  go_enter Try.func79, Try.ntmps79
  go_wp2_with fail
  go_loopw [7] (fun i wr => ∃ k : Nat, k ≤ n ∧ i = .int .i64 k ∧ ∃ m, wr = w.drewN m) (fun i _ => n - (intOf i).toNat)
  case atStart => exact ⟨0, Nat.zero_le _, rfl, 0, rfl⟩
  case round =>
    obtain ⟨k, hk, rfl, m, rfl⟩ := hrel
    by_cases hlt : k < n
    · obtain ⟨b, off, rfl, hltb, hc⟩ := HA.out (by rw [← HN.out]; omega)
      have k1 : (w.drewN m).cell? ⟨b, off + k, none⟩ = some (.complex .f32 (ps.getD k (0, 0)).1 (ps.getD k (0, 0)).2) := hc k (by rw [← HN.out]; exact hlt)
      have hff := HF.out k (by rw [← HN.out]; exact hlt)
      have hlt' : (k : Int) < (n : Int) := by omega
      clear hc
      go_wp2_with fail
      refine (finC_calls _ _ hff.1 hff.2 _).mono ?_
      rintro e w1 ⟨rfl, m2, rfl⟩
      go_wp2_with fail
      go_roundw
      case rel => exact ⟨k + 1, by omega, by go_num, m + m2, rfl⟩
      case measure => simp [intOf]; omega
    · have hkn : k = n := by omega
      subst hkn
      go_wp2_with fail
      go_ret
      exact ⟨rfl, m, rfl⟩

set_option maxRecDepth 100000 in
set_option maxHeartbeats 4000000 in
theorem validCurve_calls (A B : Option Addr) (ps : List (Nat × Nat)) (c1 c2 : Nat) (h2 : 2 ≤ ps.length) (hn : ps.length ≤ 8) (hf : FinP ps) (w : World) (hA : RdC w A ps) (hB : RdOne w B ps.length) :
    Calls Try.prog 59 #[.agg #[.slice A ps.length c1, .slice B ps.length c2]] w fun e w' => e = .returned (.bool true) ∧ Below w.heap.size w w' := by
  obtain ⟨W, hW⟩ : ∃ W, W = w.alloc (Obj.cells #[Value.slice A ps.length c1, Value.slice B ps.length c2] 37) := ⟨_, rfl⟩
  have hBW : Below w.heap.size w W := by rw [hW]; exact (Below.refl _ w).alloc (Nat.le_refl _) _
  have d1 : ∀ m, (W.drewN m).cell? ⟨w.heap.size, 0, none⟩ = some (.slice A ps.length c1) := fun m => by
    show W.cell? _ = _
    rw [hW, World.cell?_alloc_at _ _ _ _ rfl]; rfl
  have d2 : W.cell? ⟨w.heap.size, 1, none⟩ = some (.slice B ps.length c2) := by
    rw [hW, World.cell?_alloc_at _ _ _ _ rfl]; rfl
  have HA := Frame.hid (fun m : Nat => show RdC (W.drewN m) A ps from fun h0 => (RdC.below hA hBW) h0)
  have HB := Frame.hid (hB.below hBW)
  have HP := Frame.hid (areFinitePoints_calls A ps c1 (by omega) hf)
  have h2' : 2 ≤ (ps.length : Int) := by omega
  have hn' : (ps.length : Int) ≤ 8 := by omega
  have HBW := Frame.hid hBW
  clear hA hB hf hBW
  obtain ⟨n, hn0⟩ : ∃ n, n = ps.length := ⟨_, rfl⟩
  have HN := Frame.hid hn0
  rw [← hn0] at h2 hn h2' hn' d1 d2 hW ⊢
  clear hn0
  go_enter Try.func59, Try.ntmps59
  go_wp2_with fail
  rw [← hW]
  go_loopw [27] (fun i wr => ∃ k : Nat, k ≤ n ∧ i = .int .i64 k ∧ ∃ m, wr = W.drewN m) (fun i _ => n - (intOf i).toNat)
  case atStart => exact ⟨0, Nat.zero_le _, rfl, 0, rfl⟩
  case round =>
    obtain ⟨k, hk, rfl, m, rfl⟩ := hrel
    by_cases hlt : k < n
    · obtain ⟨b, off, rfl, hltb, hc⟩ := HB.out (by rw [← HN.out]; omega)
      have k1 : (W.drewN m).cell? ⟨b, off + k, none⟩ = some (.float .f32 1065353216) := hc k (by rw [← HN.out]; exact hlt)
      have ho : FloatKind.f32.format.order 1065353216 0 = some .gt := by decide +kernel
      have hlt' : (k : Int) < (n : Int) := by omega
      clear hc d1 d2 hW
      go_wp2_with fail
      refine (isFinite_calls _ _).mono ?_
      rintro e w1 ⟨rfl, m2, rfl⟩
      rw [show fin .f32 1065353216 = true by decide +kernel]
      go_wp2_with fail
      go_roundw
      case rel => exact ⟨k + 1, by omega, by go_num, m + m2, rfl⟩
      case measure => simp [intOf]; omega
    · have hkn : k = n := by omega
      subst hkn
      have d1' := d1 m
      clear d1 d2 hW
      go_wp2_with fail
      have hp := HP.out _ (HA.out m)
      rw [← HN.out] at hp
      refine hp.mono ?_
      clear hp
      rintro e w1 ⟨rfl, m2, rfl⟩
      go_wp2_with fail
      go_ret
      exact ⟨rfl, below_drewN HBW.out _⟩

end Go.Proofs.Ytbdmmpkphiilkaa
