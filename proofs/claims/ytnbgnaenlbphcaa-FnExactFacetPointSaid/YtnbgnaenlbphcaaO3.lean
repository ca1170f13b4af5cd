/-
  Nets are valid: the program's facets.
-/
import Derived.Test.YtnbgnaenlbphcaaO2
namespace Go.Proofs.Ytnbgnaenlbphcaa
open Go.RowKit Fl Go.WideShapes Go.Deep
attribute [local go_sem] kstore_f kalloc_drewN kset_drewN hstore_i hstore_s

set_option maxRecDepth 100000 in
theorem isIndexN_calls (x n : Int) (w : World) : Calls Try.prog 89 #[.int .i64 x, .int .i64 n] w fun e w' => e = .returned (.bool (decide (0 ≤ x) && decide (x < n))) ∧ w = w' := by
  by_cases h : 0 ≤ x
  · go_enter Try.func89, Try.ntmps89
    go_wp2
    go_ret
    exact ⟨ret_bool (by simp [h]), rfl⟩
  · go_enter Try.func89, Try.ntmps89
    go_wp2
    go_ret
    exact ⟨ret_bool (by simp; omega), rfl⟩

/-- The answer is an index if what is looked for is among the first. -/
def IdxIs (xs : List Int) (k : Nat) (x : Int) (e : Ending) : Prop := ∃ z : Int, e = .returned (.int .i64 z) ∧ (0 ≤ z ↔ ∃ j, j < k ∧ xs.getD j 0 = x)

set_option maxRecDepth 100000 in
set_option maxHeartbeats 4000000 in
theorem indexJ_calls (A : Option Addr) (xs : List Int) (k c : Nat) (x : Int) (hk : k ≤ xs.length) (hm : k ≤ 1048576) (w : World) (hA : RdJ w A xs) :
    Calls Try.prog 161 #[.slice A k c, .int .i64 x] w fun e w' => IdxIs xs k x e ∧ w = w' := by
  have HA := Frame.hid hA
  have HK := Frame.hid hk
  clear hA hk
  go_enter Try.func161, Try.ntmps161
  go_wp2
  go_loopw [8] (fun iv wr => ∃ i : Nat, i ≤ k ∧ iv = .int .i64 i ∧ (∀ j, j < i → xs.getD j 0 ≠ x) ∧ wr = w) (fun iv _ => k - (intOf iv).toNat)
  case atStart => exact ⟨0, Nat.zero_le _, rfl, fun j hj => absurd hj (by omega), rfl⟩
  case round =>
    obtain ⟨i, hi, rfl, hF, rfl⟩ := hrel
    have HF := Frame.hid hF
    clear hF
    by_cases hlt : i < k
    · obtain ⟨b, o, rfl, hb, hc⟩ := HA.out (by have := HK.out; omega)
      have c1 := hc i (by have := HK.out; omega)
      obtain ⟨u, hu⟩ : ∃ u, u = xs.getD i 0 := ⟨_, rfl⟩
      rw [← hu] at c1
      have HU := Frame.hid hu
      clear hc hu
      by_cases h1 : x = u
      · have t1 : (x == u) = true := by simpa using h1
        have H1 := Frame.hid h1
        clear h1
        go_wp2
        go_ret
        exact ⟨⟨_, rfl, ⟨fun _ => ⟨i, hlt, by rw [← HU.out, H1.out]⟩, fun _ => by omega⟩⟩, by first | rfl | trivial⟩
      · have t1 : (x == u) = false := by simpa using h1
        have H1 := Frame.hid h1
        clear h1
        go_wp2
        go_roundw
        case rel =>
          refine ⟨i + 1, by omega, by go_num, fun l hl => ?_, by first | rfl | trivial⟩
          rcases Nat.lt_or_ge l i with h3 | h3
          · exact HF.out l h3
          · obtain rfl : l = i := by omega
            rw [← HU.out]
            exact fun e => H1.out e.symm
        case measure => simp [intOf]; omega
    · go_wp2
      go_ret
      exact ⟨⟨_, rfl, ⟨fun h => absurd h (by omega), fun ⟨j, hj, e⟩ => absurd e (HF.out j (by omega))⟩⟩, by first | rfl | trivial⟩

set_option maxRecDepth 100000 in
theorem containsJ_calls (A : Option Addr) (xs : List Int) (k c : Nat) (x : Int) (hk : k ≤ xs.length) (hm : k ≤ 1048576) (w : World) (hA : RdJ w A xs) :
    Calls Try.prog 130 #[.slice A k c, .int .i64 x] w fun e w' => BoolIs (∃ j, j < k ∧ xs.getD j 0 = x) e ∧ w = w' := by
  have HC := Frame.hid (indexJ_calls A xs k c x hk hm w hA)
  clear hA hk
  go_enter Try.func130, Try.ntmps130
  go_wp2_with (go_at_call 161; refine HC.out.mono ?_; rintro e w' ⟨⟨z, rfl, hz⟩, rfl⟩; have HZ := Frame.hid hz; clear hz)
  go_ret
  exact ⟨⟨_, rfl, by rw [← HZ.out]; simp⟩, by first | rfl | trivial⟩

set_option maxRecDepth 100000 in
set_option maxHeartbeats 4000000 in
theorem isAmong_calls (A : Option Addr) (f : List Int) (p c n : Nat) (B : Option Addr) (d : Nat) (hp : p = f.length) (hpc : p ≤ c) (w : World) (hr : RdJ w A f) :
    Calls Try.prog 75 #[.agg #[.slice A p c], .slice B n d] w fun e w' => BoolIs (FacV n f) e ∧ Below w.heap.size w w' := by
  have HP := Frame.hid hp
  have HR := Frame.hid hr
  have HB := Frame.hid ((Below.refl w.heap.size w).alloc (Nat.le_refl _) (.cells #[.slice A p c] 94))
  clear hp hr
  by_cases h1 : p < 3
  · have HN := Frame.hid (show ¬ FacV n f by intro h; have := h.1; have := HP.out; omega)
    go_enter Try.func75, Try.ntmps75
    go_wp2
    go_ret
    exact ⟨BoolIs.no HN.out, HB.out⟩
  by_cases h2 : 8 < p
  · have HN := Frame.hid (show ¬ FacV n f by intro h; have := h.2.1; have := HP.out; omega)
    go_enter Try.func75, Try.ntmps75
    go_wp2
    go_ret
    exact ⟨BoolIs.no HN.out, HB.out⟩
  go_enter Try.func75, Try.ntmps75
  go_wp2
  go_loopw [20] (fun iv wr => ∃ i : Nat, i ≤ p ∧ iv = .int .i64 i ∧ ((∀ j, j < i → 0 ≤ f.getD j 0 ∧ f.getD j 0 < (n : Int)) ∧ ∀ j, j < i → ∀ k, k < j → f.getD k 0 ≠ f.getD j 0) ∧ wr = w.alloc (.cells #[.slice A p c] 94)) (fun iv _ => p - (intOf iv).toNat)
  case atStart => exact ⟨0, Nat.zero_le _, rfl, ⟨fun j hj => absurd hj (by omega), fun j hj => absurd hj (by omega)⟩, rfl⟩
  case round =>
    obtain ⟨i, hi, rfl, hF, rfl⟩ := hrel
    have HF := Frame.hid hF
    clear hF
    by_cases hlt : i < p
    · obtain ⟨b1, o1, rfl, hb1, hc1⟩ := HR.out (by have := HP.out; omega)
      have c1 := (HB.out.cell (p := ⟨b1, o1 + i, none⟩) hb1).trans (hc1 i (by have := HP.out; omega))
      obtain ⟨x, hx⟩ : ∃ x, x = f.getD i 0 := ⟨_, rfl⟩
      rw [← hx] at c1
      have HX := Frame.hid hx
      have HCC := Frame.hid (containsJ_calls (some ⟨b1, o1, none⟩) f i c x (by have := HP.out; omega) (by omega) _ (HR.out.below HB.out))
      have hic : (i : Int) ≤ (c : Int) := by omega
      have hi00 : (0 : Int) ≤ (i : Int) := by omega
      clear hc1 hx
      cases hin : (decide ((0 : Int) ≤ x) && decide (x < (n : Int)))
      · have HIN := Frame.hid hin
        go_wp2_with (go_at_call 89; refine (isIndexN_calls _ _ _).mono ?_; rintro e w' ⟨rfl, rfl⟩; rw [HIN.out])
        go_ret
        refine ⟨BoolIs.no fun h => ?_, HB.out⟩
        have h3 := h.2.2.1 i (by rw [← HP.out]; exact hlt)
        rw [← HX.out] at h3
        have h4 := HIN.out
        simp only [Bool.and_eq_false_iff, decide_eq_false_iff_not] at h4
        omega
      · have HIN := Frame.hid hin
        by_cases hdup : ∃ j, j < i ∧ f.getD j 0 = x
        · have HD := Frame.hid hdup
          clear hdup
          go_wp2_with (first | (go_at_call 89; refine (isIndexN_calls _ _ _).mono ?_; rintro e w' ⟨rfl, rfl⟩; rw [HIN.out]) | (go_at_call 130; refine HCC.out.mono ?_; rintro e w' ⟨⟨r, rfl, hr⟩, rfl⟩; have hr1 : r = true := hr.2 HD.out; subst hr1; clear hr))
          go_ret
          refine ⟨BoolIs.no fun h => ?_, HB.out⟩
          obtain ⟨j, hj, e⟩ := HD.out
          exact h.2.2.2 i (by rw [← HP.out]; exact hlt) j hj (e.trans HX.out)
        · have HD := Frame.hid hdup
          clear hdup
          go_wp2_with (first | (go_at_call 89; refine (isIndexN_calls _ _ _).mono ?_; rintro e w' ⟨rfl, rfl⟩; rw [HIN.out]) | (go_at_call 130; refine HCC.out.mono ?_; rintro e w' ⟨⟨r, rfl, hr⟩, rfl⟩; have hr1 : r = false := Bool.eq_false_iff.2 fun h => HD.out (hr.1 h); subst hr1; clear hr))
          go_roundw
          case rel =>
            have hi0 := HIN.out
            simp only [Bool.and_eq_true, decide_eq_true_eq] at hi0
            refine ⟨i + 1, by omega, by go_num, ⟨fun j hj => ?_, fun j hj k' hk' => ?_⟩, by first | rfl | trivial⟩
            · rcases Nat.lt_or_ge j i with h3 | h3
              · exact HF.out.1 j h3
              · obtain rfl : j = i := by omega
                rw [← HX.out]; exact hi0
            · rcases Nat.lt_or_ge j i with h3 | h3
              · exact HF.out.2 j h3 k' hk'
              · obtain rfl : j = i := by omega
                rw [← HX.out]
                exact fun e => HD.out ⟨k', hk', e⟩
          case measure => simp [intOf]; omega
    · have hip : i = p := by omega
      have HIP := Frame.hid hip
      clear hip
      go_wp2
      go_ret
      refine ⟨BoolIs.yes ?_, HB.out⟩
      have h5 := HP.out
      have h6 := HIP.out
      exact ⟨by omega, by omega, fun j hj => HF.out.1 j (by omega), fun j hj => HF.out.2 j (by omega)⟩
end Go.Proofs.Ytnbgnaenlbphcaa
