/-
  FacetPoint of the program.
-/
import Derived.Test.YtnbgnaenlbphcaaO9
namespace Go.Proofs.Ytnbgnaenlbphcaa
open Go.RowKit Fl Go.WideShapes Go.Deep
attribute [local go_sem] kstore_f kalloc_drewN kset_drewN hstore_i hstore_s

/-- The middle of a facet. -/
def MidO (xs : List (Nat × Nat × Nat)) (fs : List (List Int)) (q : Int) (x y z : Nat) (ok : Bool) : Prop :=
  (¬ (NetV xs fs ∧ 0 ≤ q ∧ q < (fs.length : Int)) ∧ x = 0 ∧ y = 0 ∧ z = 0 ∧ ok = false) ∨ ((NetV xs fs ∧ 0 ≤ q ∧ q < (fs.length : Int)) ∧ ∃ a b c p1 p2 p3, SumS (spotL xs (crn fs q.toNat)) (crn fs q.toNat).length a b c ∧ DivR a b c (floatOfInt .f32 ((crn fs q.toNat).length : Int)) p1 p2 p3 ∧ GivenR p1 p2 p3 x y z ok)
theorem MidO.same {xs : List (Nat × Nat × Nat)} {fs : List (List Int)} {q : Int} {x y z X Y Z : Nat} {ok OK : Bool} (h : MidO xs fs q x y z ok) (g : MidO xs fs q X Y Z OK) : S3 x y z X Y Z ∧ ok = OK := by
  rcases h with ⟨h0, rfl, rfl, rfl, rfl⟩ | ⟨h0, a, b, c, p1, p2, p3, h1, h2, h3⟩
  · rcases g with ⟨_, rfl, rfl, rfl, rfl⟩ | ⟨g0, _⟩
    · exact ⟨S3.refl _ _ _, rfl⟩
    · exact absurd g0 h0
  · rcases g with ⟨g0, _⟩ | ⟨_, a', b', c', p1', p2', p3', g1, g2, g3⟩
    · exact absurd h0 g0
    · exact GivenR.same (DivR.same (SumS.same h1 g1) (FSame.refl _ _) h2 g2) h3 g3
/-- The answer is the middle of a facet. -/
def MidIs (xs : List (Nat × Nat × Nat)) (fs : List (List Int)) (q : Int) (e : Ending) : Prop := ∃ x y z ok, e = .returned (.tuple #[.agg #[.float .f32 x, .float .f32 y, .float .f32 z], .bool ok]) ∧ MidO xs fs q x y z ok

theorem v3_end {w W : World} {g : Nat} (x y z : Nat) (hN : New W g) (hB : Below w.heap.size w W) (hg : w.heap.size ≤ g) : ∃ W1, W1 = ((W.setCell ⟨g, 0, none⟩ (.float .f32 x)).setCell ⟨g, 1, none⟩ (.float .f32 y)).setCell ⟨g, 2, none⟩ (.float .f32 z) ∧ At3 W1 g x y z ∧ Below w.heap.size w W1 :=
  ⟨_, rfl, At3.set hN x y z, ((hB.setCell (p := ⟨g, 0, none⟩) hg _).setCell (p := ⟨g, 1, none⟩) hg _).setCell (p := ⟨g, 2, none⟩) hg _⟩

theorem givenB_calls (x y z : Nat) (w : World) : Calls Try.prog 90 #[.agg #[.float .f32 x, .float .f32 y, .float .f32 z]] w fun e w' => ∃ a b c ok, e = .returned (.tuple #[.agg #[.float .f32 a, .float .f32 b, .float .f32 c], .bool ok]) ∧ GivenR x y z a b c ok ∧ Below w.heap.size w w' := by
  refine (spotIfFinite_calls x y z w).mono ?_
  rintro e w' ⟨a, b, c, ok, n, rfl, hG, rfl⟩
  exact ⟨a, b, c, ok, rfl, hG, by (apply bel_of; (repeat (first | apply below_dn | apply below_al)); exact below_st _)⟩
theorem givenL_calls (x y z : Nat) (w : World) : Calls Try.prog 87 #[.agg #[.float .f32 x, .float .f32 y, .float .f32 z]] w fun e w' => ∃ a b c ok, e = .returned (.tuple #[.agg #[.float .f32 a, .float .f32 b, .float .f32 c], .bool ok]) ∧ GivenR x y z a b c ok ∧ Below w.heap.size w w' := by
  refine (l04Given_calls x y z w).mono ?_
  rintro e w' ⟨a, b, c, ok, n, rfl, hG, rfl⟩
  exact ⟨a, b, c, ok, rfl, hG, by (apply bel_of; (repeat (first | apply below_dn | apply below_al)); exact below_st _)⟩

set_option maxRecDepth 100000 in
set_option maxHeartbeats 8000000 in
theorem facetPoint_calls (A : Option Addr) (g : Nat) (xs : List (Nat × Nat × Nat)) (fs : List (List Int)) (n m c d : Nat) (q : Int) (hx : n = xs.length) (hm : m = fs.length) (hml : m ≤ 1048576) (hn : n ≤ 1048576) (w : World) (hA : RdS w A xs) (hK : RdK w g fs) :
    Calls Try.prog 38 #[.agg #[.slice A n c, .slice (some ⟨g, 0, none⟩) m d], .int .i64 q] w fun e w' => MidIs xs fs q e ∧ Below w.heap.size w w' := by
  have hBW := ((Below.refl w.heap.size w).alloc (Nat.le_refl _) (.cells #[.slice A n c, .slice (some ⟨g, 0, none⟩) m d] 43)).alloc (by simp) (.cells #[.float .f32 0, .float .f32 0, .float .f32 0] 57)
  have hN := (Nt2.here w (.slice A n c) (.slice (some ⟨g, 0, none⟩) m d) 43).below ((Below.refl _ _).alloc (Nat.le_refl _) (.cells #[.float .f32 0, .float .f32 0, .float .f32 0] 57))
  have hV := New.here (w.alloc (.cells #[.slice A n c, .slice (some ⟨g, 0, none⟩) m d] 43)) 57
  have e1 : (w.alloc (.cells #[.slice A n c, .slice (some ⟨g, 0, none⟩) m d] 43)).heap.size = w.heap.size + 1 := by simp
  rw [e1] at hV
  have HBW := Frame.hid hBW
  have HN := Frame.hid hN
  have HV := Frame.hid hV
  have HX := Frame.hid hx
  have HM := Frame.hid hm
  have HVN := Frame.hid (validNet_calls A (some ⟨g, 0, none⟩) xs fs n m c d hx hn hm hml _ (hA.below hBW) (fun _ => ⟨g, rfl, hK.below hBW⟩))
  have HSP := Frame.hid (fun (k : Nat) (hk : k < m) (hv : FacV n (crn fs k)) W (hW : Below w.heap.size w W) => spotsOf_calls A g xs fs n m c d k hx hm hml hn hk hv W (hA.below hW) (hK.below hW))
  clear hBW hN hV e1 hx hm hA hK
  by_cases hv : NetV xs fs
  · have HNV := Frame.hid hv
    clear hv
    by_cases hq : 0 ≤ q ∧ q < (m : Int)
    · have hqb : (decide (0 ≤ q) && decide (q < (m : Int))) = true := by simp [hq]
      have HQB := Frame.hid hqb
      obtain ⟨k, rfl⟩ : ∃ k : Nat, q = (k : Int) := ⟨q.toNat, by omega⟩
      have hkm : k < m := by omega
      have HF := Frame.hid (show FacV n (crn fs k) by have h := HNV.out.2.2.2.1 k (by have := HM.out; omega); rw [← HX.out] at h; exact h)
      clear hqb
      go_enter Try.func38, Try.ntmps38
      go_wp2_with (first
        | (go_at_call 28; refine HVN.out.mono ?_; rintro e w1 ⟨⟨r, rfl, hr⟩, hB⟩; have hr1 : r = true := hr.2 HNV.out; subst hr1; have HB1 := Frame.hid (HBW.out.trans (hB.mono HBW.out.size)); have hN1 := HN.out.below hB; have k0 := hN1.c0; have k1 := hN1.c1; have kl := hN1.l; have HV1 := Frame.hid (HV.out.go hB); clear hr hB hN1)
        | (go_at_call 89; refine (isIndexN_calls _ _ _).mono ?_; rintro e w' ⟨rfl, rfl⟩; rw [HQB.out])
        | (go_at_call 92; refine (HSP.out k hkm HF.out _ HB1.out).mono ?_; rintro e w2 ⟨v, rfl, hO, hB⟩; have HB2 := Frame.hid (HB1.out.trans (hB.mono HB1.out.size)); have HV2 := Frame.hid (HV1.out.go hB); obtain ⟨A2, c2, hv2, hR2⟩ := hO.rd; rw [spotL_len] at hv2; subst hv2; have HR2 := Frame.hid hR2; clear hO hB hR2 k0 k1 kl)
        | (go_at_call 91; refine (meanOfSpots_calls A2 (spotL xs (crn fs k)) (crn fs k).length c2 (spotL_len _ _).symm (by have := HF.out.2.1; omega) _ HR2.out).mono ?_; rintro e w3 ⟨a, b, c', p1, p2, p3, rfl, hS, hD, hB⟩; have HS := Frame.hid hS; have HD := Frame.hid hD; have HB3 := Frame.hid (HB2.out.trans (hB.mono HB2.out.size)); have HV3 := Frame.hid (HV2.out.go hB); clear hS hD hB)
        | (go_at_call 90; refine (givenB_calls _ _ _ _).mono ?_; rintro e w4 ⟨x, y, z, ok, rfl, hG, hB⟩; have HG := Frame.hid hG; have HB4 := Frame.hid (HB3.out.trans (hB.mono HB3.out.size)); have hV4 := HV3.out.go hB; have HV4 := Frame.hid hV4; have r0 := hV4.a.c0; have r1 := hV4.a.c1; have r2 := hV4.a.c2; have f0 := hV4.f 0; have f1 := hV4.f 1; have f2 := hV4.f 2; have rl := hV4.l; clear hG hB hV4))
      obtain ⟨W1, hW1, hA1, hB1⟩ := v3_end x y z HV4.out HB4.out (Nat.le_succ _)
      rw [← hW1]
      have q0 := hA1.c0
      have q1 := hA1.c1
      have q2 := hA1.c2
      clear hW1 hA1 r0 r1 r2 f0 f1 f2
      refine bodyPost_ret (v := .tuple #[.agg #[.float .f32 x, .float .f32 y, .float .f32 z], .bool ok]) (by simp [results, Try.results38, go_sem, q0, q1, q2]) rfl ⟨⟨x, y, z, ok, rfl, .inr ⟨⟨HNV.out, by omega, by have := HM.out; omega⟩, a, b, c', p1, p2, p3, HS.out, HD.out, HG.out⟩⟩, hB1⟩
    · have hqb : (decide (0 ≤ q) && decide (q < (m : Int))) = false := by simp only [Bool.and_eq_false_iff, decide_eq_false_iff_not]; omega
      have HQB := Frame.hid hqb
      have HQ := Frame.hid hq
      clear hqb hq
      go_enter Try.func38, Try.ntmps38
      go_wp2_with (first
        | (go_at_call 28; refine HVN.out.mono ?_; rintro e w1 ⟨⟨r, rfl, hr⟩, hB⟩; have hr1 : r = true := hr.2 HNV.out; subst hr1; have HB1 := Frame.hid (HBW.out.trans (hB.mono HBW.out.size)); have hN1 := HN.out.below hB; have k0 := hN1.c0; have k1 := hN1.c1; have kl := hN1.l; have hV1 := HV.out.go hB; have HV1 := Frame.hid hV1; have r0 := hV1.a.c0; have r1 := hV1.a.c1; have r2 := hV1.a.c2; have f0 := hV1.f 0; have f1 := hV1.f 1; have f2 := hV1.f 2; have rl := hV1.l; clear hr hB hN1 hV1)
        | (go_at_call 89; refine (isIndexN_calls _ _ _).mono ?_; rintro e w' ⟨rfl, rfl⟩; rw [HQB.out]))
      obtain ⟨W1, hW1, hA1, hB1⟩ := v3_end 0 0 0 HV1.out HB1.out (Nat.le_succ _)
      rw [← hW1]
      have q0 := hA1.c0
      have q1 := hA1.c1
      have q2 := hA1.c2
      clear hW1 hA1 r0 r1 r2 f0 f1 f2
      refine bodyPost_ret (v := .tuple #[.agg #[.float .f32 0, .float .f32 0, .float .f32 0], .bool false]) (by simp [results, Try.results38, go_sem, q0, q1, q2]) rfl ⟨⟨0, 0, 0, false, rfl, .inl ⟨fun h => HQ.out ⟨h.2.1, by rw [HM.out]; exact h.2.2⟩, rfl, rfl, rfl, rfl⟩⟩, hB1⟩
  · have HNV := Frame.hid hv
    clear hv
    go_enter Try.func38, Try.ntmps38
    go_wp2_with (go_at_call 28; refine HVN.out.mono ?_; rintro e w1 ⟨⟨r, rfl, hr⟩, hB⟩; have hr1 : r = false := Bool.eq_false_iff.2 fun h => HNV.out (hr.1 h); subst hr1; have HB1 := Frame.hid (HBW.out.trans (hB.mono HBW.out.size)); have hN1 := HN.out.below hB; have k0 := hN1.c0; have k1 := hN1.c1; have kl := hN1.l; have hV1 := HV.out.go hB; have HV1 := Frame.hid hV1; have r0 := hV1.a.c0; have r1 := hV1.a.c1; have r2 := hV1.a.c2; have f0 := hV1.f 0; have f1 := hV1.f 1; have f2 := hV1.f 2; have rl := hV1.l; clear hr hB hN1 hV1)
    obtain ⟨W1, hW1, hA1, hB1⟩ := v3_end 0 0 0 HV1.out HB1.out (Nat.le_succ _)
    rw [← hW1]
    have q0 := hA1.c0
    have q1 := hA1.c1
    have q2 := hA1.c2
    clear hW1 hA1 r0 r1 r2 f0 f1 f2
    refine bodyPost_ret (v := .tuple #[.agg #[.float .f32 0, .float .f32 0, .float .f32 0], .bool false]) (by simp [results, Try.results38, go_sem, q0, q1, q2]) rfl ⟨⟨0, 0, 0, false, rfl, .inl ⟨fun h => HNV.out h.1, rfl, rfl, rfl, rfl⟩⟩, hB1⟩

end Go.Proofs.Ytnbgnaenlbphcaa
