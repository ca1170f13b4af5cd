/-
  FacetPoint of the specification.
-/
import Derived.Test.YtnbgnaenlbphcaaOc
namespace Go.Proofs.Ytnbgnaenlbphcaa
open Go.RowKit Fl Go.WideShapes Go.Deep
attribute [local go_sem] kstore_f kalloc_drewN kset_drewN hstore_i hstore_s

set_option maxRecDepth 100000 in
set_option maxHeartbeats 8000000 in
theorem specFacetPoint_calls (A B : Option Addr) (xs : List (Nat × Nat × Nat)) (fs : List (List Int)) (n m c d : Nat) (q : Int) (hx : n = xs.length) (hm : m = fs.length) (hml : m ≤ 1048576) (hn : n ≤ 1048576) (hfx : Fit xs) (hfl : ∀ k, k < m → (crn fs k).length ≤ 1048576) (w : World) (hA : RdS w A xs) (hB : RdF w B fs) :
    Calls Try.prog 37 #[.agg #[.slice A n c, .slice B m d], .int .i64 q] w fun e w' => MidIs xs fs q e ∧ Below w.heap.size w w' := by
  have hBW := ((Below.refl w.heap.size w).alloc (Nat.le_refl _) (.cells #[.slice A n c, .slice B m d] 43)).alloc (by simp) (.cells #[.float .f32 0, .float .f32 0, .float .f32 0] 57)
  have hN := (Nt2.here w (.slice A n c) (.slice B m d) 43).below ((Below.refl _ _).alloc (Nat.le_refl _) (.cells #[.float .f32 0, .float .f32 0, .float .f32 0] 57))
  have hV := New.here (w.alloc (.cells #[.slice A n c, .slice B m d] 43)) 57
  have e1 : (w.alloc (.cells #[.slice A n c, .slice B m d] 43)).heap.size = w.heap.size + 1 := by simp
  rw [e1] at hV
  have HBW := Frame.hid hBW
  have HN := Frame.hid hN
  have HV := Frame.hid hV
  have HX := Frame.hid hx
  have HM := Frame.hid hm
  have HVN := Frame.hid (l06Is_calls w.heap.size A B xs fs n m c d hx hn hfx hm hml hfl _ hN (hA.below hBW) (hB.below hBW))
  have HSP := Frame.hid (fun (k : Nat) (hk : k < m) (hv : FacV n (crn fs k)) W (hW : Below w.heap.size w W) (hG : Nt2 W w.heap.size (.slice A n c) (.slice B m d)) => l06Middle_calls w.heap.size A B xs fs n m c d k hx hm hml hn hk hv W hG (hA.below hW) (hB.below hW))
  have wn : IntKind.i64.wrap ((m : Int) - 1) = (m : Int) - 1 := by rw [IntKind.wrap_i64]; omega
  clear hBW hN hV e1 hx hm hA hB hfx hfl
  by_cases hv : NetV xs fs
  · have HNV := Frame.hid hv
    clear hv
    by_cases hq : 0 ≤ q ∧ q < (m : Int)
    · have hqb : (decide (0 ≤ q) && decide (q ≤ (m : Int) - 1)) = true := by simp only [Bool.and_eq_true, decide_eq_true_eq]; omega
      have HQB := Frame.hid hqb
      obtain ⟨k, rfl⟩ : ∃ k : Nat, q = (k : Int) := ⟨q.toNat, by omega⟩
      have hkm : k < m := by omega
      have HF := Frame.hid (show FacV n (crn fs k) by have h := HNV.out.2.2.2.1 k (by have := HM.out; omega); rw [← HX.out] at h; exact h)
      clear hqb
      go_enter Try.func37, Try.ntmps37
      go_wp2_with (first
        | (go_at_call 74; refine HVN.out.mono ?_; rintro e w1 ⟨⟨r, rfl, hr⟩, hB⟩; have hr1 : r = true := hr.2 HNV.out; subst hr1; have HB1 := Frame.hid (HBW.out.trans (hB.mono HBW.out.size)); have hN1 := HN.out.below hB; have HN1 := Frame.hid hN1; have k0 := hN1.c0; have k1 := hN1.c1; have kl := hN1.l; have hV1 := HV.out.go hB; have HV1 := Frame.hid hV1; have r0 := hV1.a.c0; have r1 := hV1.a.c1; have r2 := hV1.a.c2; have f0 := hV1.f 0; have f1 := hV1.f 1; have f2 := hV1.f 2; have rl := hV1.l; clear hr hB hN1 hV1)
        | (go_at_call 83; refine (l00InN_calls _ _ _ _).mono ?_; rintro e w' ⟨rfl, rfl⟩; rw [HQB.out])
        | (go_at_call 88; refine (HSP.out k hkm HF.out _ HB1.out HN1.out).mono ?_; rintro e w3 ⟨a, b, c', p1, p2, p3, rfl, hS, hD, hB⟩; have HS := Frame.hid hS; have HD := Frame.hid hD; have HB3 := Frame.hid (HB1.out.trans (hB.mono HB1.out.size)); have HV3 := Frame.hid (HV1.out.go hB); clear hS hD hB k0 k1 kl r0 r1 r2 f0 f1 f2 rl)
        | (go_at_call 87; refine (givenL_calls _ _ _ _).mono ?_; rintro e w4 ⟨x, y, z, ok, rfl, hG, hB⟩; have HG := Frame.hid hG; have HB4 := Frame.hid (HB3.out.trans (hB.mono HB3.out.size)); have hV4 := HV3.out.go hB; have HV4 := Frame.hid hV4; have r0 := hV4.a.c0; have r1 := hV4.a.c1; have r2 := hV4.a.c2; have f0 := hV4.f 0; have f1 := hV4.f 1; have f2 := hV4.f 2; have rl := hV4.l; clear hG hB hV4))
      obtain ⟨W1, hW1, hA1, hB1⟩ := v3_end x y z HV4.out HB4.out (Nat.le_succ _)
      rw [← hW1]
      have q0 := hA1.c0
      have q1 := hA1.c1
      have q2 := hA1.c2
      clear hW1 hA1 r0 r1 r2 f0 f1 f2
      refine bodyPost_ret (v := .tuple #[.agg #[.float .f32 x, .float .f32 y, .float .f32 z], .bool ok]) (by simp [results, Try.results37, go_sem, q0, q1, q2]) rfl ⟨⟨x, y, z, ok, rfl, .inr ⟨⟨HNV.out, by omega, by have := HM.out; omega⟩, a, b, c', p1, p2, p3, HS.out, HD.out, HG.out⟩⟩, hB1⟩
    · have hqb : (decide (0 ≤ q) && decide (q ≤ (m : Int) - 1)) = false := by simp only [Bool.and_eq_false_iff, decide_eq_false_iff_not]; omega
      have HQB := Frame.hid hqb
      have HQ := Frame.hid hq
      clear hqb hq
      go_enter Try.func37, Try.ntmps37
      go_wp2_with (first
        | (go_at_call 74; refine HVN.out.mono ?_; rintro e w1 ⟨⟨r, rfl, hr⟩, hB⟩; have hr1 : r = true := hr.2 HNV.out; subst hr1; have HB1 := Frame.hid (HBW.out.trans (hB.mono HBW.out.size)); have hN1 := HN.out.below hB; have HN1 := Frame.hid hN1; have k0 := hN1.c0; have k1 := hN1.c1; have kl := hN1.l; have hV1 := HV.out.go hB; have HV1 := Frame.hid hV1; have r0 := hV1.a.c0; have r1 := hV1.a.c1; have r2 := hV1.a.c2; have f0 := hV1.f 0; have f1 := hV1.f 1; have f2 := hV1.f 2; have rl := hV1.l; clear hr hB hN1 hV1)
        | (go_at_call 83; refine (l00InN_calls _ _ _ _).mono ?_; rintro e w' ⟨rfl, rfl⟩; rw [HQB.out]))
      obtain ⟨W1, hW1, hA1, hB1⟩ := v3_end 0 0 0 HV1.out HB1.out (Nat.le_succ _)
      rw [← hW1]
      have q0 := hA1.c0
      have q1 := hA1.c1
      have q2 := hA1.c2
      clear hW1 hA1 r0 r1 r2 f0 f1 f2
      refine bodyPost_ret (v := .tuple #[.agg #[.float .f32 0, .float .f32 0, .float .f32 0], .bool false]) (by simp [results, Try.results37, go_sem, q0, q1, q2]) rfl ⟨⟨0, 0, 0, false, rfl, .inl ⟨fun h => HQ.out ⟨h.2.1, by rw [HM.out]; exact h.2.2⟩, rfl, rfl, rfl, rfl⟩⟩, hB1⟩
  · have HNV := Frame.hid hv
    clear hv
    go_enter Try.func37, Try.ntmps37
    go_wp2_with (go_at_call 74; refine HVN.out.mono ?_; rintro e w1 ⟨⟨r, rfl, hr⟩, hB⟩; have hr1 : r = false := Bool.eq_false_iff.2 fun h => HNV.out (hr.1 h); subst hr1; have HB1 := Frame.hid (HBW.out.trans (hB.mono HBW.out.size)); have hN1 := HN.out.below hB; have HN1 := Frame.hid hN1; have k0 := hN1.c0; have k1 := hN1.c1; have kl := hN1.l; have hV1 := HV.out.go hB; have HV1 := Frame.hid hV1; have r0 := hV1.a.c0; have r1 := hV1.a.c1; have r2 := hV1.a.c2; have f0 := hV1.f 0; have f1 := hV1.f 1; have f2 := hV1.f 2; have rl := hV1.l; clear hr hB hN1 hV1)
    obtain ⟨W1, hW1, hA1, hB1⟩ := v3_end 0 0 0 HV1.out HB1.out (Nat.le_succ _)
    rw [← hW1]
    have q0 := hA1.c0
    have q1 := hA1.c1
    have q2 := hA1.c2
    clear hW1 hA1 r0 r1 r2 f0 f1 f2
    refine bodyPost_ret (v := .tuple #[.agg #[.float .f32 0, .float .f32 0, .float .f32 0], .bool false]) (by simp [results, Try.results37, go_sem, q0, q1, q2]) rfl ⟨⟨0, 0, 0, false, rfl, .inl ⟨fun h => HNV.out h.1, rfl, rfl, rfl, rfl⟩⟩, hB1⟩

end Go.Proofs.Ytnbgnaenlbphcaa
