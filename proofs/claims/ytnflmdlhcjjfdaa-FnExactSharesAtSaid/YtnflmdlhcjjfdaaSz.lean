/-
  The law of shares, walked.
-/
import Derived.Test.YtnflmdlhcjjfdaaSm
namespace Go.Proofs.Ytnflmdlhcjjfdaa
open Go.RowKit Fl Ieee

set_option maxHeartbeats 400000 in
theorem sharesLaw_yes (n : Nat) (hc1 : 1 ≤ n) (hc2 : n ≤ 7) (t : Nat) (hs : isShareB t = true) (w : World) : Calls Try.prog 3 #[.int .i64 n, .float .f32 t] w fun e w' => e = .returned (.bool true) ∧ Below w.heap.size w w' := by
  have HS := Frame.hid hs
  clear hs
  go_enter Try.func3, Try.ntmps3
  go_wp2_with fail
  refine (specShares_yes n hc1 hc2 t HS.out _).mono ?_
  rintro e w1 ⟨g1, c1, ws, rfl, hR1, hO1, hB1⟩
  have HR1 := Frame.hid hR1
  have HO1 := Frame.hid hO1
  have HB1 := Frame.hid hB1
  clear hR1 hO1 hB1
  go_wp2_with fail
  refine (sharesAt_yes n hc1 hc2 t HS.out _).mono ?_
  rintro e w2 ⟨g2, c2, is, rfl, hR2, hO2, hB2⟩
  have hW2 := HO1.out.below (w' := w2) (hB2.mono (Nat.le_refl _))
  have HR2 := Frame.hid hR2
  have HO2 := Frame.hid hO2
  have HW2 := Frame.hid hW2
  have HB2 := Frame.hid hB2
  clear hR2 hO2 hW2 hB2
  go_wp2_with fail
  have hlen : is.length ≤ 1048576 := by have := HR2.out.len; rw [Int.toNat_natCast] at this; omega
  have hsame := ShR.same HR2.out HR1.out
  have hr2 := HO2.out.rd rfl
  have hr1 := HW2.out.rd rfl
  refine (eqF_calls _ _ is ws _ _ _ hlen hsame hr2 hr1).mono ?_
  rintro e w3 ⟨rfl, m3, rfl⟩
  clear hlen hsame hr2 hr1
  go_wp2_with fail
  have hl2 : is.length = n + 1 := by have := HR2.out.len; rwa [Int.toNat_natCast] at this
  refine (mark_calls _ g2 _ c2 is rfl (by omega) _ (HO2.out.below (below_drewN (Below.refl _ _) m3))).mono ?_
  rintro e w4 ⟨rfl, hO4, hB4⟩
  have HB14 := Frame.hid ((below_drewN HB2.out m3).trans hB4)
  have HO4 := Frame.hid hO4
  have HL2 := Frame.hid hl2
  clear hO4 hB4 hl2
  go_wp2_with fail
  refine (held_calls _ g2 _ c2 (by have := HL2.out; omega) _ HO4.out).mono ?_
  rintro e w' ⟨rfl, rfl⟩
  go_wp2_with fail
  refine (sharesAt_yes n hc1 hc2 t HS.out _).mono ?_
  rintro e w5 ⟨g3, c3, hs, rfl, hR5, hO5, hB5⟩
  have HR5 := Frame.hid hR5
  have HO5 := Frame.hid hO5
  have HM5 := Frame.hid (HO4.out.below hB5)
  have HB15 := Frame.hid (HB14.out.trans (hB5.mono HB14.out.size))
  clear hR5 hO5 hB5
  go_wp2_with fail
  have hlen : hs.length ≤ 1048576 := by have := HR5.out.len; rw [Int.toNat_natCast] at this; omega
  have hsame := ShR.same HR5.out HR1.out
  have hr2 := HO5.out.rd rfl
  have hr1 := (HO1.out.below HB15.out).rd rfl
  refine (eqF_calls _ _ hs ws _ _ _ hlen hsame hr2 hr1).mono ?_
  rintro e w6 ⟨rfl, m6, rfl⟩
  clear hlen hsame hr2 hr1
  go_wp2_with fail
  refine (held_calls _ g2 _ c2 (by have := HL2.out; omega) _ (HM5.out.below (below_drewN (Below.refl _ _) m6))).mono ?_
  rintro e w' ⟨rfl, rfl⟩
  go_wp2_with fail
  go_ret
  exact ⟨rfl, below_drewN (HB1.out.trans (HB15.out.mono HB1.out.size)) _⟩

set_option maxHeartbeats 1000000 in
theorem sharesLaw_no (n : Int) (t : Nat) (hno : ¬ (1 ≤ n ∧ n ≤ 7 ∧ isShareB t = true)) (w : World) : Calls Try.prog 3 #[.int .i64 n, .float .f32 t] w fun e w' => e = .returned (.bool true) ∧ Below w.heap.size w w' := by
  have HN := Frame.hid hno
  clear hno
  go_enter Try.func3, Try.ntmps3
  go_wp2_with fail
  refine (specShares_no n t HN.out _).mono ?_
  rintro e w1 ⟨rfl, rfl⟩
  go_wp2_with fail
  refine (sharesAt_no n t HN.out _).mono ?_
  rintro e w2 ⟨rfl, rfl⟩
  go_wp2_with fail
  refine (eqF_calls none none [] [] 0 0 _ (Nat.zero_le _) (LSame.refl _) (fun h => absurd h (by simp)) (fun h => absurd h (by simp))).mono ?_
  rintro e w3 ⟨rfl, m3, rfl⟩
  go_wp2_with fail
  refine (mark_nil _).mono ?_
  rintro e w4 ⟨rfl, rfl⟩
  go_wp2_with fail
  refine (held_nil _).mono ?_
  rintro e w4 ⟨rfl, rfl⟩
  go_wp2_with fail
  refine (sharesAt_no n t HN.out _).mono ?_
  rintro e w2 ⟨rfl, rfl⟩
  go_wp2_with fail
  refine (eqF_calls none none [] [] 0 0 _ (Nat.zero_le _) (LSame.refl _) (fun h => absurd h (by simp)) (fun h => absurd h (by simp))).mono ?_
  rintro e w3 ⟨rfl, m4, rfl⟩
  go_wp2_with fail
  refine (held_nil _).mono ?_
  rintro e w4 ⟨rfl, rfl⟩
  go_wp2_with fail
  go_ret
  exact ⟨rfl, below_drewN (Below.refl _ _) _⟩

theorem fnExactSharesAt_walk (n : Int) (t : Nat) (h0 : -9223372036854775808 ≤ n) (h1 : n ≤ 9223372036854775807) (w : World) : Calls Try.prog 3 #[.int .i64 n, .float .f32 t] w fun e w' => e = .returned (.bool true) ∧ Below w.heap.size w w' := by
  by_cases h : 1 ≤ n ∧ n ≤ 7 ∧ isShareB t = true
  · obtain ⟨h2, h3, h4⟩ := h
    obtain ⟨N, rfl⟩ : ∃ N : Nat, n = N := ⟨n.toNat, by omega⟩
    exact sharesLaw_yes N (by omega) (by omega) t h4 w
  · exact sharesLaw_no n t h w

end Go.Proofs.Ytnflmdlhcjjfdaa
