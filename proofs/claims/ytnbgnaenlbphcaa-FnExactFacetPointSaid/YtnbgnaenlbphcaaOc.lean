/-
  Middles of facets: the specification.
-/
import Derived.Test.YtnbgnaenlbphcaaOa
import Derived.Test.YtnbgnaenlbphcaaRy
namespace Go.Proofs.Ytnbgnaenlbphcaa
open Go.RowKit Fl Go.WideShapes Go.Deep
attribute [local go_sem] kstore_f kalloc_drewN kset_drewN hstore_i hstore_s

/-- What the specification's callee may give. -/
def RelMd (f : FuncId) (args : Array Value) (v : Value) : Prop := f = 110 ∧ ∃ x y z x' y' z' a b c, args = #[.agg #[.float .f32 x, .float .f32 y, .float .f32 z], .agg #[.float .f32 x', .float .f32 y', .float .f32 z']] ∧ v = .agg #[.float .f32 a, .float .f32 b, .float .f32 c] ∧ PlusR x y z x' y' z' a b c
theorem RelMd.plus {x y z x' y' z' : Nat} {v : Value} (h : RelMd 110 #[.agg #[.float .f32 x, .float .f32 y, .float .f32 z], .agg #[.float .f32 x', .float .f32 y', .float .f32 z']] v) : ∃ a b c, v = .agg #[.float .f32 a, .float .f32 b, .float .f32 c] ∧ PlusR x y z x' y' z' a b c := by
  obtain ⟨_, X, Y, Z, X', Y', Z', a, b, c, e, rfl, h⟩ := h
  simp at e
  obtain ⟨⟨rfl, rfl, rfl⟩, rfl, rfl, rfl⟩ := e
  exact ⟨a, b, c, rfl, h⟩

set_option maxRecDepth 100000 in
set_option maxHeartbeats 8000000 in
theorem l06Middle_calls (g0 : Nat) (A B : Option Addr) (xs : List (Nat × Nat × Nat)) (fs : List (List Int)) (n m c d k : Nat) (hx : n = xs.length) (hm : m = fs.length) (hml : m ≤ 1048576) (hn : n ≤ 1048576) (hk : k < m) (hv : FacV n (crn fs k)) (w : World) (hG : Nt2 w g0 (.slice A n c) (.slice B m d)) (hA : RdS w A xs) (hB : RdF w B fs) :
    Calls Try.prog 88 #[.pointer (some ⟨g0, 0, none⟩), .int .i64 k] w fun e w' => ∃ a b c x y z, e = .returned (.agg #[.float .f32 x, .float .f32 y, .float .f32 z]) ∧ SumS (spotL xs (crn fs k)) (crn fs k).length a b c ∧ DivR a b c (floatOfInt .f32 ((crn fs k).length : Int)) x y z ∧ Below w.heap.size w w' := by
  obtain ⟨g, hg⟩ : ∃ g, g = w.heap.size + 1 := ⟨_, rfl⟩
  have hV := (New.here (w.alloc (.cells #[.float .f32 0, .float .f32 0, .float .f32 0] 57)) 57).v3
  have e1 : (w.alloc (.cells #[.float .f32 0, .float .f32 0, .float .f32 0] 57)).heap.size = g := by rw [hg]; simp
  rw [e1] at hV
  have hB0 := ((Below.refl w.heap.size w).alloc (Nat.le_refl _) (.cells #[.float .f32 0, .float .f32 0, .float .f32 0] 57)).alloc (by simp) (.cells #[.float .f32 0, .float .f32 0, .float .f32 0] 57)
  have HN0 := Frame.hid ((New.here w 57).go ((Below.refl _ _).alloc (Nat.le_refl _) (.cells #[.float .f32 0, .float .f32 0, .float .f32 0] 57)))
  have HV := Frame.hid hV
  have HX := Frame.hid hx
  have HG := Frame.hid hg
  obtain ⟨bF, oF, rfl, hbF, hcF⟩ := hB.h (by omega)
  obtain ⟨Ak, ck, m1, m2⟩ := hcF k (by omega)
  obtain ⟨f, hf⟩ : ∃ f, f = crn fs k := ⟨_, rfl⟩
  rw [← hf] at m1 m2 hv ⊢
  obtain ⟨p, hp⟩ : ∃ p, p = f.length := ⟨_, rfl⟩
  rw [← hp] at m1 ⊢
  have HP := Frame.hid hp
  have HVF := Frame.hid hv
  have h38 : 3 ≤ p ∧ p ≤ 8 := ⟨by rw [hp]; exact hv.1, by rw [hp]; exact hv.2.1⟩
  obtain ⟨b2, o2, rfl, hb2, hc2⟩ := m2 (by omega)
  obtain ⟨b1, off, rfl, hb1, hc1⟩ := hA.h (by have := hv.2.2.1 0 (by omega); omega)
  have HC1 := Frame.hid hc1
  have HC2 := Frame.hid hc2
  have HGN := Frame.hid hG
  have k0 := hG.c0
  have k1 := hG.c1
  have kl := hG.l
  have HB0 := Frame.hid hB0
  have HB1 := Frame.hid hb1
  have HB2 := Frame.hid hb2
  clear hx hm hf hp hv hA hB hcF m2 hc1 hc2 hG hV e1 hB0 hb1 hb2
  go_enter Try.func88, Try.ntmps88
  go_wp2
  clear m1 k0 k1 kl hbF
  obtain ⟨W0, hW0⟩ : ∃ W0, W0 = (w.alloc (.cells #[.float .f32 0, .float .f32 0, .float .f32 0] 57)).alloc (.cells #[.float .f32 0, .float .f32 0, .float .f32 0] 57) := ⟨_, rfl⟩
  obtain ⟨g1, hg1⟩ : ∃ g1, g1 = w.heap.size := ⟨_, rfl⟩
  rw [← hW0] at HV HB0 HN0
  rw [← hg1] at HN0
  rw [← hW0, ← hg, ← hg1]
  have HG1 := Frame.hid (show g1 < g by omega)
  have HG0 := Frame.hid hg1
  clear hg hW0 hg1
  go_loopw [7] (fun iv wr => ∃ i a b c : Nat, i ≤ p ∧ iv = .int .i64 i ∧ SumS (spotL xs f) i a b c ∧ V3 wr g a b c ∧ Below g W0 wr) (fun iv _ => p - (intOf iv).toNat)
  case atStart => exact ⟨0, 0, 0, 0, Nat.zero_le _, rfl, .zero, HV.out, Below.refl _ _⟩
  case round =>
    obtain ⟨i, s1, s2, s3, hi, rfl, hS, hV, hB⟩ := hrel
    have HS := Frame.hid hS
    have HV2 := Frame.hid hV
    have HB := Frame.hid hB
    have hBw : Below w.heap.size w wr := HB0.out.trans (hB.mono (by have := HG.out; omega))
    by_cases hlt : i < p
    · have hil : i < f.length := by have := HP.out; omega
      have bd := HVF.out.2.2.1 i hil
      obtain ⟨a, ha⟩ : ∃ a : Nat, f.getD i 0 = (a : Int) := ⟨(f.getD i 0).toNat, by omega⟩
      rw [ha] at bd
      have han : a < n := by omega
      have hsp := spotL_at xs f i a hil ha
      have h3 := (HC1.out a (by have := HX.out; omega)).keep hBw HB1.out
      have c0 := h3.c0
      have c1 := h3.c1
      have c2 := h3.c2
      have k1 := (hBw.cell (p := ⟨b2, o2 + i, none⟩) HB2.out).trans (HC2.out i hil)
      rw [ha] at k1
      have k0 := (HGN.out.below hBw).c0
      have gl0 := (HGN.out.below hBw).l
      generalize sx xs a = x at *
      generalize sy xs a = y at *
      generalize sz xs a = z at *
      have HSP := Frame.hid hsp
      have gl1 : b1 < wr.heap.size := Nat.lt_of_lt_of_le HB1.out hBw.size
      have gl2 : b2 < wr.heap.size := Nat.lt_of_lt_of_le HB2.out hBw.size
      have hQ : ∀ W, Below wr.heap.size wr W → W.cell? ⟨g, 0, none⟩ = some (.float .f32 s1) ∧ W.cell? ⟨g, 1, none⟩ = some (.float .f32 s2) ∧ W.cell? ⟨g, 2, none⟩ = some (.float .f32 s3) ∧ W.cell? ⟨g0, 0, none⟩ = some (.slice (some ⟨b1, off, none⟩) n c) ∧ W.cell? ⟨b2, o2 + i, none⟩ = some (.int .i64 (a : Int)) ∧ W.cell? ⟨b1, off + a * 3, none⟩ = some (.float .f32 x) ∧ W.cell? ⟨b1, off + a * 3 + 1, none⟩ = some (.float .f32 y) ∧ W.cell? ⟨b1, off + a * 3 + 2, none⟩ = some (.float .f32 z) := fun W h =>
        ⟨(h.cell hV.l).trans hV.a.c0, (h.cell hV.l).trans hV.a.c1, (h.cell hV.l).trans hV.a.c2, (h.cell gl0).trans k0, (h.cell gl2).trans k1, (h.cell gl1).trans c0, (h.cell gl1).trans c1, (h.cell gl1).trans c2⟩
      have HQ := Frame.hid hQ
      have hCe : ∃ W, Below wr.heap.size wr W := ⟨wr, Below.refl _ _⟩
      have HCG := Frame.hid (fun W w' (h : Below wr.heap.size wr W) (g : Below W.heap.size W w') => h.trans (g.mono h.size))
      have p0 : (0 : Int) ≤ (i : Int) := by omega
      have p1 : (i : Int) < (p : Int) := by omega
      have p2 : (0 : Int) ≤ (a : Int) := by omega
      have p3 : (a : Int) < (n : Int) := by omega
      clear hS hV hB hBw hil ha hsp h3 c0 c1 c2 k0 k1 gl0 gl1 gl2 hQ
      go_wp2_with fail
      refine region_may_n 12 (fun W => Below wr.heap.size wr W) RelMd rfl (by kernel_rfl) (by kernel_rfl) (Below.refl _ _).drew ?_
      refine' rC_read hCe (Or.inl ⟨by rfl, fun wq hSq => _⟩) _
      rotate_left
      · obtain ⟨q0, q1, q2, q3, q4, q5, q6, q7⟩ := HQ.out wq hSq
        go_simp
        try with_reducible rfl
      simp only [Act.put, List.setIfInBounds_toArray, List.set_cons_zero, List.set_cons_succ]
      refine' rC_read hCe (Or.inl ⟨by rfl, fun wq hSq => _⟩) _
      rotate_left
      · obtain ⟨q0, q1, q2, q3, q4, q5, q6, q7⟩ := HQ.out wq hSq
        go_simp
        try with_reducible rfl
      simp only [Act.put, List.setIfInBounds_toArray, List.set_cons_zero, List.set_cons_succ]
      refine' rC_read hCe (Or.inl ⟨by rfl, fun wq hSq => _⟩) _
      rotate_left
      · obtain ⟨q0, q1, q2, q3, q4, q5, q6, q7⟩ := HQ.out wq hSq
        go_simp
        try with_reducible rfl
      simp only [Act.put, List.setIfInBounds_toArray, List.set_cons_zero, List.set_cons_succ]
      refine' rC_read hCe (Or.inl ⟨by rfl, fun wq hSq => _⟩) _
      rotate_left
      · obtain ⟨q0, q1, q2, q3, q4, q5, q6, q7⟩ := HQ.out wq hSq
        go_simp
        try with_reducible rfl
      simp only [Act.put, List.setIfInBounds_toArray, List.set_cons_zero, List.set_cons_succ]
      refine' rC_read hCe (Or.inl ⟨by rfl, fun wq hSq => _⟩) _
      rotate_left
      · obtain ⟨q0, q1, q2, q3, q4, q5, q6, q7⟩ := HQ.out wq hSq
        go_simp
        try with_reducible rfl
      simp only [Act.put, List.setIfInBounds_toArray, List.set_cons_zero, List.set_cons_succ]
      refine' rC_read hCe (Or.inl ⟨by rfl, fun wq hSq => _⟩) _
      rotate_left
      · obtain ⟨q0, q1, q2, q3, q4, q5, q6, q7⟩ := HQ.out wq hSq
        go_simp
        try with_reducible rfl
      simp only [Act.put, List.setIfInBounds_toArray, List.set_cons_zero, List.set_cons_succ]
      refine' rC_read hCe (Or.inl ⟨by rfl, fun wq hSq => _⟩) _
      rotate_left
      · obtain ⟨q0, q1, q2, q3, q4, q5, q6, q7⟩ := HQ.out wq hSq
        go_simp
        try with_reducible rfl
      simp only [Act.put, List.setIfInBounds_toArray, List.set_cons_zero, List.set_cons_succ]
      refine' rC_read hCe (Or.inl ⟨by rfl, fun wq hSq => _⟩) _
      rotate_left
      · obtain ⟨q0, q1, q2, q3, q4, q5, q6, q7⟩ := HQ.out wq hSq
        go_simp
        try with_reducible rfl
      simp only [Act.put, List.setIfInBounds_toArray, List.set_cons_zero, List.set_cons_succ]
      refine' rC_read hCe (Or.inl ⟨by rfl, fun wq hSq => _⟩) _
      rotate_left
      · obtain ⟨q0, q1, q2, q3, q4, q5, q6, q7⟩ := HQ.out wq hSq
        go_simp
        try with_reducible rfl
      simp only [Act.put, List.setIfInBounds_toArray, List.set_cons_zero, List.set_cons_succ]
      refine' rC_read hCe (Or.inl ⟨by rfl, fun wq hSq => _⟩) _
      rotate_left
      · obtain ⟨q0, q1, q2, q3, q4, q5, q6, q7⟩ := HQ.out wq hSq
        go_simp
        try with_reducible rfl
      simp only [Act.put, List.setIfInBounds_toArray, List.set_cons_zero, List.set_cons_succ]
      refine' rC_read hCe (Or.inl ⟨by rfl, fun wq hSq => _⟩) _
      rotate_left
      · obtain ⟨q0, q1, q2, q3, q4, q5, q6, q7⟩ := HQ.out wq hSq
        go_simp
        try with_reducible rfl
      simp only [Act.put, List.setIfInBounds_toArray, List.set_cons_zero, List.set_cons_succ]
      refine rC_call hCe (by rfl) 110 #[.agg #[.float .f32 s1, .float .f32 s2, .float .f32 s3], .agg #[.float .f32 x, .float .f32 y, .float .f32 z]] (fun wq hSq => ?_) (fun wq hSq => ?_) (fun u hu => ?_)
      · go_simp
      · refine (l04Add_calls _ _ _ _ _ _ _).mono ?_
        rintro e w' ⟨x1, x2, x3, rfl, hT, hB⟩
        exact ⟨_, rfl, ⟨rfl, _, _, _, _, _, _, _, _, _, rfl, rfl, hT⟩, HCG.out _ _ hSq hB⟩
      obtain ⟨zx, zy, zz, rfl, kz⟩ := hu.plus
      have Kz := Frame.hid kz
      clear hu kz
      simp only [Act.put, List.setIfInBounds_toArray, List.set_cons_zero, List.set_cons_succ]
      refine rC_nil (fun w3 hw3 => ?_)
      have hV3 := HV2.out.go hw3
      have HV3 := Frame.hid hV3
      have HBW3 := Frame.hid (HB.out.trans (hw3.mono (Nat.le_of_lt HV2.out.l)))
      have s0' := hV3.a.c0
      have s1' := hV3.a.c1
      have s2' := hV3.a.c2
      have f0 := hV3.f 0
      have f1 := hV3.f 1
      have f2 := hV3.f 2
      have sl := hV3.l
      clear hw3 hV3
      refine wpTail_cons (fun K hK => ?_)
      go_simp
      refine hK.out _ _ (.inl rfl) ?_
      clear hK K
      refine wpTail_done ?_
      go_wp2_with fail
      have HX3 := HSP.out
      refine ⟨⟨i + 1, zx, zy, zz, by omega, by go_num, .step HS.out (by rw [HX3.1, HX3.2.1, HX3.2.2]; exact Kz.out), HV3.out.set _ _ _, ?_⟩, by simp [intOf]; omega⟩
      exact ((HBW3.out.setCell (p := ⟨g, 0, none⟩) (Nat.le_refl _) _).setCell (p := ⟨g, 1, none⟩) (Nat.le_refl _) _).setCell (p := ⟨g, 2, none⟩) (Nat.le_refl _) _
    · have hip : i = p := by omega
      have HIP := Frame.hid hip
      have s0 := hV.a.c0
      have s1' := hV.a.c1
      have s2' := hV.a.c2
      have sl := hV.l
      have hA := HN0.out.a.keep hB HG1.out
      have HNew := Frame.hid (show New wr g1 from ⟨hA, fun i => (hB.frozen (p := ⟨g1, i, none⟩) HG1.out).trans (HN0.out.f i), Nat.lt_trans HG1.out hV.l⟩)
      have HBW := Frame.hid hBw
      clear hip hV hB hA hBw hS
      go_wp2_with (go_at_call 139; refine (l06Over_calls _ _ _ _ _).mono ?_; rintro e w4 ⟨x, y, z, rfl, hD, hB⟩; have HD := Frame.hid hD; have HB4 := Frame.hid (HBW.out.trans (hB.mono HBW.out.size)); have hV4 := HNew.out.go hB; have HV4 := Frame.hid hV4; have r0 := hV4.a.c0; have r1 := hV4.a.c1; have r2 := hV4.a.c2; have f0 := hV4.f 0; have f1 := hV4.f 1; have f2 := hV4.f 2; have rl := hV4.l; clear hD hB hV4 s0 s1' s2' sl)
      obtain ⟨W1, hW1, hA1, hB1⟩ := v3_end x y z HV4.out HB4.out (Nat.le_of_eq HG0.out.symm)
      rw [← hW1]
      have q0 := hA1.c0
      have q1 := hA1.c1
      have q2 := hA1.c2
      clear hW1 hA1 r0 r1 r2 f0 f1 f2
      refine bodyPost_ret (v := .agg #[.float .f32 x, .float .f32 y, .float .f32 z]) (by simp [results, Try.results88, go_sem, q0, q1, q2]) rfl ⟨s1, s2, s3, x, y, z, rfl, by rw [← HIP.out]; exact HS.out, HD.out, hB1⟩

end Go.Proofs.Ytnbgnaenlbphcaa
