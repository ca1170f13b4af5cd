/-
  Slices of complex numbers: marks, what is held.
-/
import Derived.Test.YtnflmdlhcjjfdacDoorGo
namespace Go.Proofs.YtnflmdlhcjjfdacDoor
open Go.RowKit Fl Ieee
attribute [local go_sem] run_store_c

def MarkCAt (B : Nat) (g m cap : Nat) (w : World) (k i : Value) (wr : World) : Prop :=
  ∃ q : Nat, q ≤ m ∧ k = .int .i64 (1 + (q : Int)) ∧ i = .int .i64 q ∧ ∃ zs, zs.length = m ∧ OwnC wr B (.slice (some ⟨g, 0, none⟩) m cap) zs ∧ (∀ p, p < q → zs.getD p (0, 0) = mkC p) ∧ Below B w wr

set_option maxRecDepth 100000 in
set_option maxHeartbeats 1000000 in
theorem markC_some (B g m cap : Nat) (ys : List (Nat × Nat)) (hl : ys.length = m) (hm : m ≤ 256) (w : World) (hO : OwnC w B (.slice (some ⟨g, 0, none⟩) m cap) ys) (hg : B ≤ g) :
    Calls Tryd.prog 25 #[.slice (some ⟨g, 0, none⟩) m cap, .int .i64 1] w fun e w' => e = .returned (.int .i64 (1 + (m : Int))) ∧ OwnC w' B (.slice (some ⟨g, 0, none⟩) m cap) (marksC m) ∧ Below B w w' := by
  have HL := Frame.hid hl
  have HO := Frame.hid hO
  have HG := Frame.hid hg
  clear hl hO hg
  go_enter Tryd.func25, Tryd.ntmps25
  go_wp2
  go_loopw [1, 5] (fun k i wr => MarkCAt B g m cap w k i wr) (fun _ i _ => m - (intOf i).toNat)
  case atStart => exact ⟨0, Nat.zero_le _, rfl, rfl, ys, HL.out, HO.out, fun p hp => by omega, Below.refl _ _⟩
  case round =>
    obtain ⟨q, hq, rfl, rfl, zs, hzl, hO, hz, hB⟩ := hrel
    by_cases hlt : q < m
    · have c1 := hO.cell hzl.symm (j := q) (by omega)
      have fz := hO.froz hzl.symm q
      have HZL := Frame.hid hzl
      have HO := Frame.hid hO
      have HZ := Frame.hid hz
      have HB := Frame.hid hB
      generalize zs.getD q (0, 0) = a at c1
      clear hzl hO hz hB
      go_wp2_with (refine wpList_cconv rfl _ _ _ rfl .f64 .f32 (by decide) (.inr rfl) _ _ rfl (by kernel_rfl) (by kernel_rfl) ?_; intro re im n k1 k2 _ _; obtain ⟨rfl, rfl⟩ := mkC_of (p := q) (by omega) k1 k2)
      go_roundw
      case rel =>
        refine ⟨q + 1, by omega, by go_num, by go_num, _, by rw [List.length_set]; exact HZL.out, OwnC.put HO.out HZL.out.symm q (mkC q), fun p hp => ?_, (below_drewN HB.out _).setCell (p := ⟨g, _, none⟩) HG.out _⟩
        rw [List.getD_eq_getElem?_getD]
        by_cases he : p = q
        · subst he
          rw [List.getElem?_set_self (by have := HZL.out; omega)]
          rfl
        · rw [List.getElem?_set_ne (by omega), ← List.getD_eq_getElem?_getD]
          exact HZ.out p (by omega)
      case measure => simp [intOf]; omega
    · have hqm : q = m := by omega
      subst hqm
      have HO := Frame.hid (show OwnC wr B (.slice (some ⟨g, 0, none⟩) q cap) (marksC q) by rw [← marksC_of hzl hz]; exact hO)
      have HB := Frame.hid hB
      clear hzl hO hz hB
      go_wp2
      go_ret
      exact ⟨rfl, HO.out, HB.out⟩

theorem one_num : isNan .f32 1065353216 = false := by decide +kernel
set_option maxRecDepth 100000 in
set_option maxHeartbeats 1000000 in
theorem heldC_some (B g m cap : Nat) (hm : m ≤ 256) (w : World) (hO : OwnC w B (.slice (some ⟨g, 0, none⟩) m cap) (marksC m)) :
    Calls Tryd.prog 26 #[.slice (some ⟨g, 0, none⟩) m cap, .int .i64 1] w fun e w' => e = .returned (.int .i64 (1 + (m : Int))) ∧ ∃ n, w' = w.drewN n := by
  have HO := Frame.hid hO
  clear hO
  go_enter Tryd.func26, Tryd.ntmps26
  go_wp2
  go_loopw [1, 5] (fun k i wr => ∃ q : Nat, q ≤ m ∧ k = .int .i64 (1 + (q : Int)) ∧ i = .int .i64 q ∧ ∃ n, wr = w.drewN n) (fun _ i _ => m - (intOf i).toNat)
  case atStart => exact ⟨0, Nat.zero_le _, rfl, rfl, 0, rfl⟩
  case round =>
    obtain ⟨q, hq, rfl, rfl, n0, rfl⟩ := hrel
    by_cases hlt : q < m
    · have c1 := HO.out.cell (marksC_len m).symm (j := q) (by rw [marksC_len]; omega)
      rw [marksC_get hlt] at c1
      unfold cx at c1
      have heq := eql_self .f32 (mkC q).1
      rw [show isNan .f32 (mkC q).1 = false from mkC_num ⟨q, by omega⟩] at heq
      have heq2 := eql_self .f32 (mkC q).2
      rw [show isNan .f32 (mkC q).2 = false from one_num] at heq2
      go_wp2_with (refine wpList_cconv rfl _ _ _ rfl .f64 .f32 (by decide) (.inr rfl) _ _ rfl (by kernel_rfl) (by kernel_rfl) ?_; intro re im n k1 k2 _ _; obtain ⟨rfl, rfl⟩ := mkC_of (p := q) (by omega) k1 k2)
      go_roundw
      case rel => exact ⟨q + 1, by omega, by go_num, by go_num, _, rfl⟩
      case measure => simp [intOf]; omega
    · have hqm : q = m := by omega
      subst hqm
      go_wp2
      go_ret
      exact ⟨rfl, _, rfl⟩

theorem markC_nil (w : World) : Calls Tryd.prog 25 #[.slice none 0 0, .int .i64 1] w fun e w' => e = .returned (.int .i64 1) ∧ w = w' := by
  go_enter Tryd.func25, Tryd.ntmps25
  go_wp2
  go_loopw [1, 5] (fun k i wr => k = .int .i64 1 ∧ i = .int .i64 0 ∧ wr = w) (fun _ _ _ => 0)
  case atStart => exact ⟨rfl, rfl, rfl⟩
  case round =>
    obtain ⟨rfl, rfl, rfl⟩ := hrel
    go_wp2
    go_ret
    exact ⟨rfl, rfl⟩
theorem heldC_nil (w : World) : Calls Tryd.prog 26 #[.slice none 0 0, .int .i64 1] w fun e w' => e = .returned (.int .i64 1) ∧ w = w' := by
  go_enter Tryd.func26, Tryd.ntmps26
  go_wp2
  go_loopw [1, 5] (fun k i wr => k = .int .i64 1 ∧ i = .int .i64 0 ∧ wr = w) (fun _ _ _ => 0)
  case atStart => exact ⟨rfl, rfl, rfl⟩
  case round =>
    obtain ⟨rfl, rfl, rfl⟩ := hrel
    go_wp2
    go_ret
    exact ⟨rfl, rfl⟩
theorem markC_calls (B : Nat) (v : Value) (ys : List (Nat × Nat)) (hm : ys.length ≤ 256) (w : World) (hO : OwnC w B v ys) :
    Calls Tryd.prog 25 #[v, .int .i64 1] w fun e w' => e = .returned (.int .i64 (1 + (ys.length : Int))) ∧ OwnC w' B v (marksC ys.length) ∧ Below B w w' := by
  rcases hO.form with ⟨rfl, rfl⟩ | ⟨g, cap, rfl, hb, hlt⟩
  · refine (markC_nil w).mono ?_
    rintro e w' ⟨rfl, rfl⟩
    exact ⟨rfl, hO, Below.refl _ _⟩
  · exact markC_some B g _ cap ys rfl hm w hO hb
theorem heldC_calls (B : Nat) (v : Value) (m : Nat) (hm : m ≤ 256) (w : World) (hO : OwnC w B v (marksC m)) :
    Calls Tryd.prog 26 #[v, .int .i64 1] w fun e w' => e = .returned (.int .i64 (1 + (m : Int))) ∧ ∃ n, w' = w.drewN n := by
  rcases hO.form with ⟨rfl, h0⟩ | ⟨g, cap, rfl, hb, hlt⟩
  · have : m = 0 := by rw [← marksC_len m, h0]; rfl
    subst this
    refine (heldC_nil w).mono ?_
    rintro e w' ⟨rfl, rfl⟩
    exact ⟨rfl, 0, rfl⟩
  · rw [marksC_len] at hO ⊢
    exact heldC_some B g m cap hm w hO

end Go.Proofs.YtnflmdlhcjjfdacDoor
