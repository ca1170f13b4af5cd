/-
  The text of a list: the law, walked.
-/
import Derived.Test.YtnflmdlhcjjfdacDoorLp
namespace Go.Proofs.YtnflmdlhcjjfdacDoor
open Go.RowKit Go.Lib Rd Go.WideShapes

set_option maxHeartbeats 1000000 in
theorem specListText_calls (A : Option Addr) (xs : List Int) (c : Nat) (w : World) (hn : xs.length ≤ 1048576) (hA : RdI w A xs) :
    Calls Tryd.prog 27 #[.slice A xs.length c] w (LtV xs w) := by
  have HA := Frame.hid hA
  have HN := Frame.hid hn
  clear hA hn
  cases hf : okLB xs
  · have HF := Frame.hid hf
    clear hf
    go_enter Tryd.func27, Tryd.ntmps27
    go_wp2_with fail
    refine (l01List_calls A xs c w HN.out HA.out).mono ?_
    rintro e w1 ⟨rfl, m, rfl⟩
    rw [HF.out]
    go_wp2_with fail
    go_ret2
    exact ⟨.inr ⟨HF.out, rfl⟩, below_drewN (Below.refl _ _) _⟩
  · have HF := Frame.hid hf
    clear hf
    go_enter Tryd.func27, Tryd.ntmps27
    go_wp2_with fail
    refine (l01List_calls A xs c w HN.out HA.out).mono ?_
    rintro e w1 ⟨rfl, m, rfl⟩
    rw [HF.out]
    go_wp2_with fail
    refine (l01Text_calls A xs c _ ((okLB_iff xs).1 HF.out).1 ((okLB_iff xs).1 HF.out).2 (HA.out.below (below_drewN (Below.refl _ _) m))).mono ?_
    rintro e w2 ⟨rfl, hB⟩
    have HB := Frame.hid hB
    clear hB
    go_wp2_with fail
    go_ret2
    exact ⟨.inl ⟨HF.out, rfl⟩, (below_drewN (Below.refl _ _) m).trans HB.out⟩

set_option maxHeartbeats 2000000 in
theorem listText_law (A : Option Addr) (xs : List Int) (c : Nat) (w : World) (hn : xs.length ≤ 1048576) (hb : ∀ j, j < xs.length → -9223372036854775808 ≤ xs.getD j 0 ∧ xs.getD j 0 ≤ 9223372036854775807) (hA : RdI w A xs) (htab : TabIs Tryd.prog w "internal/strconv.uint64pow10" .u64 pow10Tab) :
    Calls Tryd.prog 8 #[.slice A xs.length c] w fun e w' => e = .returned (.bool true) ∧ Below w.heap.size w w' := by
  have HA := Frame.hid hA
  have HT := Frame.hid (tabBelow_of_tabIs htab)
  have HBD := Frame.hid hb
  clear hA htab hb
  go_enter Tryd.func8, Tryd.ntmps8
  go_wp2_with fail
  refine (toInt64S_calls _ xs _ _ hn HA.out).mono ?_
  rintro e w1 ⟨g1, rfl, hr1, hB1⟩
  have HR1 := Frame.hid hr1
  have HB1 := Frame.hid hB1
  clear hr1 hB1
  go_wp2_with fail
  refine (specListText_calls _ xs _ _ hn HR1.out).mono ?_
  rintro e w2 ⟨hc1, hB2⟩
  have HB2 := Frame.hid (HB1.out.trans (hB2.mono HB1.out.size))
  clear hB2
  rcases hc1 with ⟨hf, rfl⟩ | ⟨hf, rfl⟩
  all_goals
    have HF := Frame.hid hf
    clear hf
    go_wp2_with fail
    refine (toInt64S_calls _ xs _ _ hn (HA.out.below HB2.out)).mono ?_
    rintro e w3 ⟨g3, rfl, hr3, hB3⟩
    have HR3 := Frame.hid hr3
    have HB3 := Frame.hid (HB2.out.trans (hB3.mono HB2.out.size))
    clear hr3 hB3
    go_wp2_with fail
    refine (listText_calls _ xs _ _ hn HBD.out HR3.out (HT.out.on HB3.out).here).mono ?_
    rintro e w4 ⟨hc2, hB4⟩
    have HR4 := Frame.hid (HR3.out.below hB4)
    have HB4 := Frame.hid (HB3.out.trans (hB4.mono HB3.out.size))
    clear hB4
    rcases hc2 with ⟨hf2, rfl⟩ | ⟨hf2, rfl⟩
    all_goals first
      | (exfalso
         have h1 := HF.out
         rw [hf2] at h1
         cases h1; done)
      | (clear hf2
         go_wp2_with fail
         refine (toInt64S_calls _ xs _ _ hn (HA.out.below HB4.out)).mono ?_
         rintro e w5 ⟨g5, rfl, hr5, hB5⟩
         have HR5 := Frame.hid hr5
         have HR45 := Frame.hid (HR4.out.below hB5)
         have HB5 := Frame.hid (HB4.out.trans (hB5.mono HB4.out.size))
         clear hr5 hB5
         go_wp2_with fail
         refine (eqInt64S_calls _ _ xs _ _ _ hn HR45.out HR5.out).mono ?_
         rintro e w6 ⟨rfl, m6, rfl⟩
         go_wp2_with fail
         go_ret
         exact ⟨rfl, below_drewN HB5.out _⟩)

theorem fnExactListText_walk (A : Option Addr) (xs : List Int) (c : Nat) (hm : xs.length ≤ maxLen) (w : World) (hb : ∀ x ∈ xs, -9223372036854775808 ≤ x ∧ x ≤ 9223372036854775807) (hA : RdI w A xs) (htab : TabIs Tryd.prog w "internal/strconv.uint64pow10" .u64 pow10Tab) :
    Calls Tryd.prog 8 #[.slice A xs.length c] w fun e w' => e = .returned (.bool true) ∧ Below w.heap.size w w' := by
  by_cases h : xs.length ≤ 1048576
  · refine listText_law A xs c w h (fun j hj => ?_) hA htab
    have e : xs.getD j 0 = xs[j] := by rw [List.getD_eq_getElem?_getD, List.getElem?_eq_getElem hj]; rfl
    rw [e]
    exact hb _ (List.getElem_mem hj)
  · unfold maxLen at hm
    have h2 : 1048576 < xs.length := by omega
    clear h hA htab hb
    go_enter Tryd.func8, Tryd.ntmps8
    go_wp2_with fail
    go_ret
    exact ⟨rfl, Below.refl _ _⟩

end Go.Proofs.YtnflmdlhcjjfdacDoor
