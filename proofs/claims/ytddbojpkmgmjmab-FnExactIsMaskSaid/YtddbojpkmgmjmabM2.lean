/-
  IsMask, walked on both sides; its law.
-/
import Derived.Test.YtddbojpkmgmjmabM1
import Derived.Test.YtddbojpkmgmjmabOp
import Derived.Test.YtddbojpkmgmjmabJ0
import Derived.Test.YtddbojpkmgmjmabSc
namespace Go.Proofs.Ytddbojpkmgmjmab
open Go.RowKit Fl Ieee

set_option maxRecDepth 100000 in
set_option maxHeartbeats 1000000 in
theorem distance_calls (s : Nat) (hn : isNan .f32 s = false) (w : World) :
    Calls Try.prog 56 #[.float .f32 s, .float .f32 1065353216] w fun e w' => ∃ v m, e = .returned (.float .f32 v) ∧ leqF v 981668463 = okSum s ∧ w' = w.drewN m := by
  have HD := Frame.hid (fun a b h1 h2 => dist_mask Try.prog (s := s) (a := a) (b := b) hn h1 h2)
  clear hn
  go_enter Try.func56, Try.ntmps56
  go_wp2_with (first | (refine wpList_arith rfl _ _ _ _ _ rfl rfl _ s 1065353216 rfl rfl ?_; intro r1 n1 hr1 hl1; have HR0 := Frame.hid (okSum_of hr1); have HR1 := Frame.hid hr1; clear hr1) | (refine wpList_arith rfl _ _ _ _ _ rfl rfl _ 1065353216 s rfl rfl ?_; intro r n hr hl; obtain ⟨v, hmx, hv⟩ := HD.out _ _ HR1.out hr; have HV := Frame.hid hv; clear hv hr))
  go_ret
  exact ⟨_, _, rfl, by rw [HV.out, HR0.out], rfl⟩

/-- What both sides give. -/
def MaskE (xs : List Nat) (w : World) (e : Ending) (w' : World) : Prop := ∃ b m, e = .returned (.bool b) ∧ MaskV xs b ∧ w' = w.drewN m

set_option maxRecDepth 100000 in
set_option maxHeartbeats 1000000 in
theorem isMask_calls (A : Option Addr) (xs : List Nat) (c : Nat) (w : World) (hn : xs.length ≤ 1048576) (hA : RdF w A xs) :
    Calls Try.prog 17 #[.slice A xs.length c] w (MaskE xs w) := by
  have HSN := Frame.hid (sumNumbers_calls A xs c w hn hA)
  have HAF := Frame.hid (fun m => areFin_calls A xs c (w.drewN m) hn (hA.drewN m))
  have hfin : ∀ s b, finL xs = true → SumTo xs xs.length s → b = okSum s → lenM xs.length = true → MaskV xs b := fun s b h1 h2 h3 h4 => .inr ⟨h4, s, h2, by rw [h1, h3]; rfl⟩
  have hinf : ∀ s, finL xs = false → SumTo xs xs.length s → lenM xs.length = true → MaskV xs false := fun s h1 h2 h4 => .inr ⟨h4, s, h2, by rw [h1]; rfl⟩
  have hbad : lenM xs.length = false → MaskV xs false := fun h => .inl ⟨h, rfl⟩
  have HF := Frame.hid hfin
  have HI := Frame.hid hinf
  have HBD := Frame.hid hbad
  have HNUM := Frame.hid (fun s (h1 : finL xs = true) (h2 : SumTo xs xs.length s) => SumTo.num (Nat.le_refl _) h1 h2)
  obtain ⟨n, hxn⟩ : ∃ n, n = xs.length := ⟨_, rfl⟩
  rw [← hxn] at HSN HAF HF HI HBD HNUM hn ⊢
  clear hfin hinf hbad hA
  have HX := Frame.hid hxn
  clear hxn
  by_cases hl : lenM n = true
  · have hle : n ≤ 256 := by unfold lenM at hl; simp at hl; omega
    have HL := Frame.hid hl
    have h3 : n = 1 ∨ n = 3 ∨ n = 5 := by unfold lenM at hl; simp at hl; omega
    clear hl
    cases hf : finL xs
    · have HFI := Frame.hid hf
      clear hf
      rcases h3 with rfl | rfl | rfl
      all_goals
        go_enter Try.func17, Try.ntmps17
        go_wp2_with (first | (go_at_call 54; refine HSN.out.mono ?_; rintro e w' ⟨r, t, m, rfl, hv, rfl⟩; have HV := Frame.hid hv; clear hv) | (go_at_call 55; refine (HAF.out _).mono ?_; rintro e w' ⟨rfl, m2, rfl⟩; rw [HFI.out]))
        go_ret
        refine ⟨_, _, rfl, ?_, rfl⟩
        rcases HV.out with ⟨-, -, h⟩ | ⟨h, -, -⟩
        · exact HI.out _ HFI.out (by rw [HX.out] at *; exact h) HL.out
        · exfalso; have := HX.out; omega
    · have HFI := Frame.hid hf
      have HDC := Frame.hid (fun s (h2 : SumTo xs xs.length s) m => distance_calls s (HNUM.out s hf (by have := HX.out; rw [this]; exact h2)) (w.drewN m))
      clear hf
      rcases h3 with rfl | rfl | rfl
      all_goals
        go_enter Try.func17, Try.ntmps17
        go_wp2_with (first | (go_at_call 54; refine HSN.out.mono ?_; rintro e w' ⟨r, t, m, rfl, hv, rfl⟩; have hs : SumTo xs xs.length r := (by rcases hv with ⟨-, -, h⟩ | ⟨h, -, -⟩; (· exact h); (· exfalso; have := HX.out; omega)); have HS := Frame.hid hs; clear hv hs) | (go_at_call 55; refine (HAF.out _).mono ?_; rintro e w' ⟨rfl, m2, rfl⟩; rw [HFI.out]) | (go_at_call 56; refine (HDC.out _ HS.out _).mono ?_; rintro e w' ⟨v, m3, rfl, hk, rfl⟩; have HK := Frame.hid hk; clear hk))
        all_goals
          go_ret
          refine ⟨_, _, rfl, ?_, rfl⟩
          refine HF.out _ _ HFI.out (by rw [HX.out]; exact HS.out) ?_ HL.out
          rw [← HK.out]
          simp [leqF, *]
  · have hl' : lenM n = false := by simpa using hl
    have h1 : ¬ (n = 1) := fun e => hl (by rw [e]; rfl)
    have h2 : ¬ (n = 3) := fun e => hl (by rw [e]; rfl)
    have h3 : ¬ (n = 5) := fun e => hl (by rw [e]; rfl)
    have e1 : ¬ ((n : Int) = 1) := by omega
    have e2 : ¬ ((n : Int) = 3) := by omega
    have e3 : ¬ ((n : Int) = 5) := by omega
    have HBX := Frame.hid (HBD.out hl')
    clear hl hl' h1 h2 h3
    go_enter Try.func17, Try.ntmps17
    go_wp2
    go_ret
    exact ⟨_, 0, rfl, HBX.out, rfl⟩

set_option maxRecDepth 100000 in
set_option maxHeartbeats 1000000 in
theorem l06Mask_calls (A : Option Addr) (xs : List Nat) (c : Nat) (w : World) (hn : xs.length ≤ 1048576) (hA : RdF w A xs) :
    Calls Try.prog 53 #[.slice A xs.length c] w (MaskE xs w) := by
  have HAF := Frame.hid (fun m => l02Fin_calls A xs c (w.drewN m) hn (hA.drewN m))
  have hfx : ∀ s b, SumTo xs xs.length s → b = (finL xs && okSum s) → lenM xs.length = true → MaskV xs b := fun s b h2 h3 h4 => .inr ⟨h4, s, h2, h3⟩
  have hbx : lenM xs.length = false → MaskV xs false := fun h => .inl ⟨h, rfl⟩
  have HF := Frame.hid hfx
  have HBD := Frame.hid hbx
  obtain ⟨n, hxn⟩ : ∃ n, n = xs.length := ⟨_, rfl⟩
  rw [← hxn] at HAF HF HBD hn ⊢
  have HX := Frame.hid hxn
  have HA := Frame.hid hA
  clear hxn hA hfx hbx
  go_enter Try.func53, Try.ntmps53
  go_wp2
  go_loopw [4, 5] (fun s i wr => SumAt xs w n s i wr) (fun _ i _ => n - (intOf i).toNat)
  case atStart => exact ⟨0, 0, Nat.zero_le _, rfl, rfl, rfl, 0, rfl⟩
  case round =>
    obtain ⟨k, s, hk, rfl, rfl, hs, m, rfl⟩ := hrel
    by_cases hlt : k < n
    · obtain ⟨b, off, rfl, hb, hc⟩ := HA.out (by have := HX.out; omega)
      have hc1 := hc k (by have := HX.out; omega)
      have hst : ∀ r, FOp .add .f32 s (xs.getD k 0) r → SumTo xs (k + 1) r := fun r h => ⟨s, hs, h⟩
      have HST := Frame.hid hst
      obtain ⟨x, hx⟩ : ∃ x, x = xs.getD k 0 := ⟨_, rfl⟩
      rw [← hx] at hc1 HST
      clear hc hst hs HA HX hx HAF HF HBD
      go_wp2_with (refine wpList_arith rfl _ _ _ _ _ rfl rfl _ _ _ rfl rfl ?_; intro r n hr hl)
      go_roundw
      case rel => exact ⟨k + 1, _, by omega, by go_num, rfl, HST.out _ hr, _, rfl⟩
      case measure => simp [intOf]; omega
    · have hkn : k = n := by omega
      subst hkn
      have HS := Frame.hid hs
      clear hs HA
      by_cases hl : lenM k = true
      · have HL := Frame.hid hl
        have h3 : k = 1 ∨ k = 3 ∨ k = 5 := by unfold lenM at hl; simp at hl; omega
        clear hl
        cases hf : finL xs
        · have HFI := Frame.hid hf
          clear hf
          rcases h3 with rfl | rfl | rfl
          all_goals
            go_wp2_with (first | (refine wpList_arith rfl _ _ _ _ _ rfl rfl _ _ _ rfl rfl ?_; intro r n hr hl) | (go_at_call 96; refine (HAF.out _).mono ?_; rintro e w' ⟨rfl, m2, rfl⟩; rw [HFI.out]))
            go_ret
            exact ⟨_, _, rfl, HF.out s _ (by rw [HX.out] at *; exact HS.out) (by rw [HFI.out]; rfl) HL.out, rfl⟩
        · have HFI := Frame.hid hf
          clear hf
          rcases h3 with rfl | rfl | rfl
          all_goals
            go_wp2_with (first | (refine wpList_arith rfl _ _ _ _ _ rfl rfl _ s 1065353216 rfl rfl ?_; intro r1 n1 hr1 hl1; have HR0 := Frame.hid (okSum_of hr1); clear hr1) | (go_at_call 96; refine (HAF.out _).mono ?_; rintro e w' ⟨rfl, m2, rfl⟩; rw [HFI.out]))
            all_goals
              go_ret
              refine ⟨_, _, rfl, HF.out s _ (by rw [HX.out] at *; exact HS.out) ?_ HL.out, rfl⟩
              rw [HFI.out, HR0.out]
              simp [leqF, geqF, *]
      · have hl' : lenM k = false := by simpa using hl
        have h1 : ¬ (k = 1) := fun e => hl (by rw [e]; rfl)
        have h2 : ¬ (k = 3) := fun e => hl (by rw [e]; rfl)
        have h3 : ¬ (k = 5) := fun e => hl (by rw [e]; rfl)
        have e1 : ¬ ((k : Int) = 1) := by omega
        have e2 : ¬ ((k : Int) = 3) := by omega
        have e3 : ¬ ((k : Int) = 5) := by omega
        have HBX := Frame.hid (HBD.out hl')
        clear hl hl' h1 h2 h3
        go_wp2_with (refine wpList_arith rfl _ _ _ _ _ rfl rfl _ _ _ rfl rfl ?_; intro r n hr hl)
        go_ret
        exact ⟨_, _, rfl, HBX.out, rfl⟩

theorem specIsMask_calls (A : Option Addr) (xs : List Nat) (c : Nat) (w : World) (hn : xs.length ≤ 1048576) (hA : RdF w A xs) :
    Calls Try.prog 15 #[.slice A xs.length c] w (MaskE xs w) := by
  have HC := Frame.hid (l06Mask_calls A xs c w hn hA)
  clear hA
  go_enter Try.func15, Try.ntmps15
  go_wp2_with fail
  refine HC.out.mono ?_
  rintro e w' ⟨b, m, rfl, hm, rfl⟩
  have HM := Frame.hid hm
  clear hm
  go_wp2_with fail
  go_ret
  exact ⟨_, _, rfl, HM.out, rfl⟩

set_option maxRecDepth 100000 in
set_option maxHeartbeats 1000000 in
theorem fnExactIsMask_walk (A : Option Addr) (xs : List Nat) (c : Nat) (hmax : xs.length ≤ maxLen) (w : World) (hA : RdF w A xs) :
    Calls Try.prog 3 #[.slice A xs.length c] w fun e w' => e = .returned (.bool true) ∧ Below w.heap.size w w' := by
  unfold maxLen at hmax
  have HA := Frame.hid hA
  clear hA
  by_cases hbig : 1048576 < xs.length
  · go_enter Try.func3, Try.ntmps3
    go_wp2
    go_ret
    exact ⟨rfl, Below.refl _ _⟩
  · have hn : xs.length ≤ 1048576 := by omega
    clear hbig
    go_enter Try.func3, Try.ntmps3
    go_wp2_with fail
    refine (toFloat32S_calls _ xs _ _ hn HA.out).mono ?_
    rintro e w1 ⟨g1, rfl, hr1, hb1⟩
    go_wp2_with fail
    refine (specIsMask_calls _ xs _ _ hn hr1).mono ?_
    rintro e w2 ⟨b1, m1, rfl, hv1, rfl⟩
    go_wp2_with fail
    refine (toFloat32S_calls _ xs _ _ hn ((HA.out.below hb1).drewN m1)).mono ?_
    rintro e w2 ⟨g2, rfl, hr2, hb2⟩
    go_wp2_with fail
    refine (isMask_calls _ xs _ _ hn hr2).mono ?_
    rintro e w3 ⟨b2, m2, rfl, hv2, rfl⟩
    have hbb := MaskV.one hv1 hv2
    subst hbb
    have HB := Frame.hid (below_stepJ hb1 hb2)
    clear hv1 hv2 hb1 hb2
    have htt : (b1 != b1) = false := by cases b1 <;> rfl
    go_wp2_with fail
    refine (toFloat32S_calls _ xs _ _ hn ((HA.out.below HB.out).drewN _)).mono ?_
    rintro e w4 ⟨g3, rfl, hr3, hb3⟩
    go_wp2_with fail
    refine (eqFloat32S_calls _ _ xs _ _ _ hn ((hr2.drewN _).below hb3) hr3).mono ?_
    rintro e w5 ⟨rfl, m5, rfl⟩
    have HC := Frame.hid (below_stepJ HB.out hb3)
    clear HB hb3
    go_wp2
    go_ret
    exact ⟨rfl, below_drewN HC.out _⟩

end Go.Proofs.Ytddbojpkmgmjmab
