/-
  The laws of sums of 32-bit numbers, walked.
-/
import Derived.Test.YtpddjfajcpmdeacSl
namespace Go.Proofs.Ytpddjfajcpmdeac
open Go.RowKit Fl

theorem l01Few_calls (A : Option Addr) (n : Nat) (_ : n ≤ 1048576) (c : Nat) (w : World) : Calls Try.prog 12 #[.slice A n c] w fun e w' => e = .returned (.bool (decide ((n : Int) ≤ 256))) ∧ w = w' := by
  go_enter Try.func12, Try.ntmps12
  go_wp2
  go_ret
  exact ⟨rfl, rfl⟩

set_option maxHeartbeats 1000000 in
theorem specSum_calls (A : Option Addr) (xs : List Nat) (c : Nat) (w : World) (hn : xs.length ≤ 1048576) (hA : RdF w A xs) :
    Calls Try.prog 5 #[.slice A xs.length c] w (SumV xs w) := by
  have HA := Frame.hid hA
  clear hA
  by_cases hbig : 256 < xs.length
  · have HD := Frame.hid (p := decide ((xs.length : Int) ≤ 256) = false) (by rw [decide_eq_false_iff_not]; omega)
    go_enter Try.func5, Try.ntmps5
    go_wp2_with (go_at_call 12; refine (l01Few_calls _ _ (by with_reducible assumption) _ _).mono ?_; rintro e w' ⟨rfl, rfl⟩; rw [HD.out])
    go_ret2
    exact ⟨_, _, 0, rfl, .inr ⟨hbig, rfl, rfl⟩, rfl⟩
  · have hle : xs.length ≤ 256 := by omega
    have HD := Frame.hid (p := decide ((xs.length : Int) ≤ 256) = true) (by rw [decide_eq_true_eq]; omega)
    clear hbig
    go_enter Try.func5, Try.ntmps5
    go_wp2_with (first | (go_at_call 12; refine (l01Few_calls _ _ (by with_reducible assumption) _ _).mono ?_; rintro e w' ⟨rfl, rfl⟩; rw [HD.out]) | (go_at_call 13; refine (l01Sum_calls _ xs _ _ (by with_reducible assumption) HA.out).mono ?_; rintro e w' ⟨r, m, rfl, hs, rfl⟩))
    go_ret2
    exact ⟨_, _, _, rfl, .inl ⟨hle, rfl, hs⟩, rfl⟩

theorem SumV_same {xs : List Nat} {r r' : Nat} {t t' : Bool} (h : (xs.length ≤ 256 ∧ t = true ∧ SumTo xs xs.length r) ∨ (256 < xs.length ∧ t = false ∧ r = 0))
    (h' : (xs.length ≤ 256 ∧ t' = true ∧ SumTo xs xs.length r') ∨ (256 < xs.length ∧ t' = false ∧ r' = 0)) : t' = t ∧ FSame .f32 r' r := by
  rcases h with ⟨h1, h2, h3⟩ | ⟨h1, h2, h3⟩ <;> rcases h' with ⟨g1, g2, g3⟩ | ⟨g1, g2, g3⟩
  · exact ⟨by rw [h2, g2], SumTo.same g3 h3⟩
  · omega
  · omega
  · exact ⟨by rw [h2, g2], .inl (by rw [h3, g3])⟩

theorem below_step {w w1 w2 : World} {n : Nat} (h : Below w.heap.size w w1) (h2 : Below (w1.drewN n).heap.size (w1.drewN n) w2) : Below w.heap.size w w2 :=
  (below_drewN h n).trans (h2.mono h.size)

set_option maxHeartbeats 1000000 in
theorem fnExactSumNumbers_walk (A : Option Addr) (xs : List Nat) (c : Nat) (hmax : xs.length ≤ maxLen) (w : World) (hA : RdF w A xs) :
    Calls Try.prog 3 #[.slice A xs.length c] w fun e w' => e = .returned (.bool true) ∧ Below w.heap.size w w' := by
  unfold maxLen at hmax
  have HA := Frame.hid hA
  clear hA
  by_cases hbig : 1048576 < xs.length
  · go_enter Try.func3, Try.ntmps3
    go_wp2
    go_ret
    exact ⟨rfl, Below.refl _ _⟩
  · have hn : xs.length ≤ 1048576 := by omega
    clear hbig
    go_enter Try.func3, Try.ntmps3
    go_wp2_with fail
    refine (toFloat32S_calls _ xs _ _ hn HA.out).mono ?_
    rintro e w1 ⟨g1, rfl, hr1, hb1⟩
    go_wp2_with fail
    refine (specSum_calls _ xs _ _ hn hr1).mono ?_
    rintro e w2 ⟨r1, t1, m1, rfl, hv1, rfl⟩
    go_wp2_with fail
    refine (toFloat32S_calls _ xs _ _ hn ((HA.out.below hb1).drewN m1)).mono ?_
    rintro e w2 ⟨g2, rfl, hr2, hb2⟩
    go_wp2_with fail
    refine (sumNumbers_calls _ xs _ _ hn hr2).mono ?_
    rintro e w3 ⟨r2, t2, m2, rfl, hv2, rfl⟩
    obtain ⟨ht, hs⟩ := SumV_same hv1 hv2
    subst ht
    have HS := Frame.hid hs
    have HB := Frame.hid (below_step hb1 hb2)
    clear hv1 hv2 hs hb1 hb2
    have htt : (t2 != t2) = false := by cases t2 <;> rfl
    go_wp2_with (first | (refine wpList_conv rfl _ _ _ rfl .f32 .f64 (by decide) (.inl rfl) _ rfl (by kernel_rfl) (by kernel_rfl) ?_; intro r n hr hl) | (go_at_call 8; refine (sameFloat_calls _ _ (wide_pair HS.out (by with_reducible assumption) (by with_reducible assumption)) _).mono ?_; rintro e w' ⟨rfl, n, rfl⟩))
    refine (toFloat32S_calls _ xs _ _ hn ((HA.out.below HB.out).drewN _)).mono ?_
    rintro e w4 ⟨g3, rfl, hr3, hb3⟩
    go_wp2_with fail
    refine (eqFloat32S_calls _ _ xs _ _ _ hn ((hr2.drewN _).below hb3) hr3).mono ?_
    rintro e w5 ⟨rfl, m5, rfl⟩
    have HC := Frame.hid (below_step HB.out hb3)
    clear HB hb3
    go_wp2
    go_ret
    exact ⟨rfl, below_drewN HC.out _⟩

end Go.Proofs.Ytpddjfajcpmdeac
