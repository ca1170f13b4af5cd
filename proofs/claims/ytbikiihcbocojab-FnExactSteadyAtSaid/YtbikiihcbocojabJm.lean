/-
  The leg of a graph at a place, found by the program: slices.IndexFunc with its closure.
-/
import Derived.Test.YtbikiihcbocojabJk
namespace Go.Proofs.Ytbikiihcbocojab
open Go.RowKit Fl Ieee

set_option maxRecDepth 100000 in
set_option maxHeartbeats 1000000 in
theorem legLe_calls (y t g : Nat) (w : World) (hc : w.cell? ⟨g, 0, none⟩ = some (.float .f32 t)) :
    Calls Try.prog 113 #[.float .f32 y, .pointer (some ⟨g, 0, none⟩)] w fun e w' => e = .returned (.bool (leqF t y)) ∧ w = w' := by
  unfold leqF
  go_enter Try.func113, Try.ntmps113
  go_wp2_with fail
  go_ret
  exact ⟨rfl, rfl⟩

set_option maxRecDepth 100000 in
set_option maxHeartbeats 1000000 in
theorem indexLeg_calls (b off g c t N : Nat) (xs : List Nat) (hN : N + 1 = xs.length) (h1 : 1 ≤ N) (h48 : N ≤ 47) (w : World) (hg : w.cell? ⟨g, 0, none⟩ = some (.float .f32 t))
    (hc : ∀ j, j < N → w.cell? ⟨b, off + 1 + j, none⟩ = some (.float .f32 (xs.getD (j + 1) 0))) (hq : leqF t (xs.getD N 0) = true) :
    Calls Try.prog 112 #[.slice (some ⟨b, off + 1, none⟩) N c, .func (.func 113) #[] #[.pointer (some ⟨g, 0, none⟩)]] w (FindV xs t w) := by
  unfold FindV
  have HN := Frame.hid hN
  have HQ := Frame.hid hq
  have HC := Frame.hid hc
  clear hN hq hc
  go_enter Try.func112, Try.ntmps112
  go_wp2_with fail
  go_loopw [8] (fun i wr => ∃ k : Nat, k + 1 ≤ N ∧ i = .int .i64 k ∧ (∀ j, j < k → leqF t (xs.getD (j + 1) 0) = false) ∧ wr = w) (fun i _ => N - (intOf i).toNat)
  case atStart => exact ⟨0, by omega, rfl, fun j hj => absurd hj (by omega), rfl⟩
  case round =>
    obtain ⟨k, hk, rfl, hL, rfl⟩ := hrel
    have d1 := HC.out k (by omega)
    have HL := Frame.hid hL
    cases hq : leqF t (xs.getD (k + 1) 0)
    · have HQK := Frame.hid hq
      have hkN : k + 1 < N := by
        rcases Nat.lt_or_ge (k + 1) N with h | h
        · exact h
        · have e : k + 1 = N := by omega
          rw [e, HQ.out] at hq; cases hq
      generalize xs.getD (k + 1) 0 = y at d1 hq
      clear hL
      have HQY := Frame.hid hq
      clear hq
      go_wp2_with ((with_reducible refine (legLe_calls _ t g _ hg).mono ?_); rintro e w' ⟨rfl, rfl⟩; rw [HQY.out])
      go_roundw
      case rel =>
        refine ⟨k + 1, by omega, by go_num, fun j hj => ?_, by first | rfl | trivial⟩
        by_cases he : j = k
        · subst he; exact HQK.out
        · exact HL.out j (by omega)
      case measure => simp [intOf]; omega
    · have HQK := Frame.hid hq
      generalize xs.getD (k + 1) 0 = y at d1 hq
      clear hL
      have HQY := Frame.hid hq
      clear hq
      go_wp2_with ((with_reducible refine (legLe_calls _ t g _ hg).mono ?_); rintro e w' ⟨rfl, rfl⟩; rw [HQY.out])
      go_ret
      exact ⟨k, rfl, ⟨by have := HN.out; omega, HQK.out, HL.out⟩, by first | rfl | trivial⟩

end Go.Proofs.Ytbikiihcbocojab
