/-
  Middles of facets: the program.
-/
import Derived.Test.YtnbgnaenlbphcaaO6
namespace Go.Proofs.Ytnbgnaenlbphcaa
open Go.RowKit Fl Go.WideShapes Go.Deep
attribute [local go_sem] kstore_f kalloc_drewN kset_drewN hstore_i hstore_s

/-- A spot divided by a number. -/
def DivR (x y z by' a b c : Nat) : Prop := FOp .quo .f32 x by' a ∧ FOp .quo .f32 y by' b ∧ FOp .quo .f32 z by' c
theorem DivR.same {x y z d a b c X Y Z D A B C : Nat} (h1 : S3 x y z X Y Z) (hd : FSame .f32 d D) (h : DivR x y z d a b c) (g : DivR X Y Z D A B C) : S3 a b c A B C :=
  ⟨FOp.same h1.1 hd h.1 g.1, FOp.same h1.2.1 hd h.2.1 g.2.1, FOp.same h1.2.2 hd h.2.2 g.2.2⟩
/-- The sum of the first k spots of a list. -/
inductive SumS (ps : List (Nat × Nat × Nat)) : Nat → Nat → Nat → Nat → Prop
  | zero : SumS ps 0 0 0 0
  | step {k a b c a' b' c' : Nat} : SumS ps k a b c → PlusR a b c (sx ps k) (sy ps k) (sz ps k) a' b' c' → SumS ps (k + 1) a' b' c'
theorem SumS.same {ps : List (Nat × Nat × Nat)} : ∀ {k a b c A B C : Nat}, SumS ps k a b c → SumS ps k A B C → S3 a b c A B C
  | 0, _, _, _, _, _, _, h, g => by cases h; cases g; exact S3.refl _ _ _
  | k + 1, _, _, _, _, _, _, h, g => by
    cases h with
    | step h1 h2 => cases g with
      | step g1 g2 => exact PlusR.same (SumS.same h1 g1) (S3.refl _ _ _) h2 g2

set_option maxRecDepth 100000 in
theorem dividedBy_calls (x y z d : Nat) (w : World) : Calls Try.prog 141 #[.agg #[.float .f32 x, .float .f32 y, .float .f32 z], .float .f32 d] w fun e w' => ∃ a b c, e = .returned (.agg #[.float .f32 a, .float .f32 b, .float .f32 c]) ∧ DivR x y z d a b c ∧ Below w.heap.size w w' := by
  go_enter Try.func141, Try.ntmps141
  go_wp2_with (refine wpList_arith rfl _ _ _ _ _ rfl rfl _ _ _ rfl rfl ?_; intro r n hr hl)
  rename_i r1 n1 hr1 hl1 r2 n2 hr2 hl2
  refine bodyPost_ret (v := .agg #[.float .f32 r1, .float .f32 r2, .float .f32 r]) (by simp [results, Try.results141, go_sem]) rfl ⟨_, _, _, rfl, ⟨hr1, hr2, hr⟩, ?_⟩
  exact b2 _ _ _ _

set_option maxRecDepth 100000 in
theorem l06Over_calls (x y z d : Nat) (w : World) : Calls Try.prog 139 #[.agg #[.float .f32 x, .float .f32 y, .float .f32 z], .float .f32 d] w fun e w' => ∃ a b c, e = .returned (.agg #[.float .f32 a, .float .f32 b, .float .f32 c]) ∧ DivR x y z d a b c ∧ Below w.heap.size w w' := by
  go_enter Try.func139, Try.ntmps139
  go_wp2_with (refine wpList_arith rfl _ _ _ _ _ rfl rfl _ _ _ rfl rfl ?_; intro r n hr hl)
  rename_i r1 n1 hr1 hl1 r2 n2 hr2 hl2
  refine bodyPost_ret (v := .agg #[.float .f32 r1, .float .f32 r2, .float .f32 r]) (by simp [results, Try.results139, go_sem]) rfl ⟨_, _, _, rfl, ⟨hr1, hr2, hr⟩, ?_⟩
  exact b2 _ _ _ _

/-- A variable for a spot. -/
structure V3 (W : World) (g a b c : Nat) : Prop where
  a : At3 W g a b c
  f : ∀ i, W.frozen? ⟨g, i, none⟩ = false
  l : g < W.heap.size
theorem V3.go {W w' : World} {g a b c : Nat} (h : V3 W g a b c) (hB : Below W.heap.size W w') : V3 w' g a b c := ⟨h.a.keep hB h.l, fun i => (hB.frozen h.l).trans (h.f i), Nat.lt_of_lt_of_le h.l hB.size⟩
theorem New.v3 {W : World} {g : Nat} (h : New W g) : V3 W g 0 0 0 := ⟨h.a, h.f, h.l⟩
theorem V3.set {W : World} {g a b c : Nat} (h : V3 W g a b c) (a' b' c' : Nat) : V3 (((W.setCell ⟨g, 0, none⟩ (.float .f32 a')).setCell ⟨g, 1, none⟩ (.float .f32 b')).setCell ⟨g, 2, none⟩ (.float .f32 c')) g a' b' c' := by
  refine ⟨⟨?_, ?_, ?_⟩, fun i => ?_, by simpa using h.l⟩
  · rw [World.cell?_setCell_other _ _ _ _ (by simp), World.cell?_setCell_other _ _ _ _ (by simp)]
    exact World.cell?_setCell_same' _ _ _ (by rw [h.a.c0]; rfl)
  · rw [World.cell?_setCell_other _ _ _ _ (by simp)]
    exact World.cell?_setCell_same' _ _ _ (by rw [World.cell?_setCell_other _ _ _ _ (by simp), h.a.c1]; rfl)
  · exact World.cell?_setCell_same' _ _ _ (by rw [World.cell?_setCell_other _ _ _ _ (by simp), World.cell?_setCell_other _ _ _ _ (by simp), h.a.c2]; rfl)
  · simp [h.f i]

set_option maxRecDepth 100000 in
set_option maxHeartbeats 4000000 in
theorem sumOfSpots_calls (A : Option Addr) (ps : List (Nat × Nat × Nat)) (p c : Nat) (hp : p = ps.length) (hn : p ≤ 1048576) (w : World) (hr : RdS w A ps) :
    Calls Try.prog 140 #[.slice A p c] w fun e w' => ∃ x y z, e = .returned (.agg #[.float .f32 x, .float .f32 y, .float .f32 z]) ∧ SumS ps p x y z ∧ Below w.heap.size w w' := by
  have HP := Frame.hid hp
  have HR := Frame.hid hr
  obtain ⟨g, hg⟩ : ∃ g, g = w.heap.size + 1 := ⟨_, rfl⟩
  have hV := (New.here (w.alloc (.cells #[.float .f32 0, .float .f32 0, .float .f32 0] 57)) 57).v3
  have e1 : (w.alloc (.cells #[.float .f32 0, .float .f32 0, .float .f32 0] 57)).heap.size = g := by rw [hg]; simp
  rw [e1] at hV
  have HV := Frame.hid hV
  have HG := Frame.hid hg
  have HB0 := Frame.hid (((Below.refl w.heap.size w).alloc (Nat.le_refl _) (.cells #[.float .f32 0, .float .f32 0, .float .f32 0] 57)).alloc (by simp) (.cells #[.float .f32 0, .float .f32 0, .float .f32 0] 57))
  have HN0 := Frame.hid ((New.here w 57).go ((Below.refl _ _).alloc (Nat.le_refl _) (.cells #[.float .f32 0, .float .f32 0, .float .f32 0] 57)))
  clear hp hr hV e1
  go_enter Try.func140, Try.ntmps140
  go_wp2
  obtain ⟨W0, hW0⟩ : ∃ W0, W0 = (w.alloc (.cells #[.float .f32 0, .float .f32 0, .float .f32 0] 57)).alloc (.cells #[.float .f32 0, .float .f32 0, .float .f32 0] 57) := ⟨_, rfl⟩
  obtain ⟨g1, hg1⟩ : ∃ g1, g1 = w.heap.size := ⟨_, rfl⟩
  rw [← hW0] at HV HB0 HN0
  rw [← hg1] at HN0
  rw [← hW0, ← hg, ← hg1]
  have HG1 := Frame.hid (show g1 < g by omega)
  have HG0 := Frame.hid hg1
  clear hg hW0 hg1
  go_loopw [8] (fun iv wr => ∃ i a b c : Nat, i ≤ p ∧ iv = .int .i64 i ∧ SumS ps i a b c ∧ V3 wr g a b c ∧ Below g W0 wr) (fun iv _ => p - (intOf iv).toNat)
  case atStart => exact ⟨0, 0, 0, 0, Nat.zero_le _, rfl, .zero, HV.out, Below.refl _ _⟩
  case round =>
    obtain ⟨i, a, b, c', hi, rfl, hS, hV, hB⟩ := hrel
    have HS := Frame.hid hS
    have HV2 := Frame.hid hV
    have HB := Frame.hid hB
    clear hS
    by_cases hlt : i < p
    · obtain ⟨b1, off, rfl, hb, hc⟩ := HR.out.h (by have := HP.out; omega)
      have h3 := (hc i (by have := HP.out; omega)).keep (HB0.out.trans (hB.mono (by have := HG.out; omega))) hb
      have c0 := h3.c0
      have c1 := h3.c1
      have c2 := h3.c2
      obtain ⟨x, hx⟩ : ∃ x, x = sx ps i := ⟨_, rfl⟩
      obtain ⟨y, hy⟩ : ∃ y, y = sy ps i := ⟨_, rfl⟩
      obtain ⟨z, hz⟩ : ∃ z, z = sz ps i := ⟨_, rfl⟩
      rw [← hx] at c0
      rw [← hy] at c1
      rw [← hz] at c2
      have HXY := Frame.hid (And.intro hx (And.intro hy hz))
      have s0 := hV.a.c0
      have s1 := hV.a.c1
      have s2 := hV.a.c2
      have sl := hV.l
      clear hc h3 hx hy hz hV hB
      go_wp2_with (go_at_call 120; refine (plus_calls _ _ _ _ _ _ _).mono ?_; rintro e w' ⟨a', b', c'', rfl, hP, hB2⟩; have hV3 := (HV2.out.go ((Below.refl _ _).alloc (Nat.le_refl _) (.cells #[.float .f32 x, .float .f32 y, .float .f32 z] 57))).go hB2; have HV3 := Frame.hid hV3; have HP3 := Frame.hid hP; have HGL := Frame.hid (Nat.le_of_lt HV2.out.l); have HB3 := Frame.hid ((HB.out.alloc HGL.out (.cells #[.float .f32 x, .float .f32 y, .float .f32 z] 57)).trans (hB2.mono (by have := HGL.out; simp; omega))); clear s0 s1 s2 sl; have s0 := hV3.a.c0; have s1 := hV3.a.c1; have s2 := hV3.a.c2; have f0 := hV3.f 0; have f1 := hV3.f 1; have f2 := hV3.f 2; have sl := hV3.l; clear hV3 hP hB2 c0 c1 c2)
      have HX3 := HXY.out
      refine ⟨⟨i + 1, a', b', c'', by omega, by go_num, .step HS.out (by rw [← HX3.1, ← HX3.2.1, ← HX3.2.2]; exact HP3.out), HV3.out.set _ _ _, ?_⟩, by simp [intOf]; omega⟩
      exact ((HB3.out.setCell (p := ⟨g, 0, none⟩) (Nat.le_refl _) _).setCell (p := ⟨g, 1, none⟩) (Nat.le_refl _) _).setCell (p := ⟨g, 2, none⟩) (Nat.le_refl _) _
    · have hip : i = p := by omega
      have HIP := Frame.hid hip
      have s0 := hV.a.c0
      have s1 := hV.a.c1
      have s2 := hV.a.c2
      have sl := hV.l
      have hA := HN0.out.a.keep hB HG1.out
      have r0 := hA.c0
      have r1 := hA.c1
      have r2 := hA.c2
      have f0 := (hB.frozen (p := ⟨g1, 0, none⟩) HG1.out).trans (HN0.out.f 0)
      have f1 := (hB.frozen (p := ⟨g1, 1, none⟩) HG1.out).trans (HN0.out.f 1)
      have f2 := (hB.frozen (p := ⟨g1, 2, none⟩) HG1.out).trans (HN0.out.f 2)
      have hNew : New wr g1 := ⟨hA, fun i => (hB.frozen (p := ⟨g1, i, none⟩) HG1.out).trans (HN0.out.f i), Nat.lt_trans HG1.out hV.l⟩
      have HAS := Frame.hid (At3.set hNew a b c')
      have HBB := Frame.hid hB
      clear hip hV hB hA hNew
      go_wp2
      obtain ⟨W1, hW1⟩ : ∃ W1, W1 = ((wr.setCell ⟨g1, 0, none⟩ (.float .f32 a)).setCell ⟨g1, 1, none⟩ (.float .f32 b)).setCell ⟨g1, 2, none⟩ (.float .f32 c') := ⟨_, rfl⟩
      have HBW : Hid (Below w.heap.size w W1) := Frame.hid (by
        rw [hW1]
        have hg1 : w.heap.size ≤ g1 := Nat.le_of_eq HG0.out.symm
        exact (((HB0.out.trans (HBB.out.mono (by have := HG.out; omega))).setCell (p := ⟨g1, 0, none⟩) hg1 _).setCell (p := ⟨g1, 1, none⟩) hg1 _).setCell (p := ⟨g1, 2, none⟩) hg1 _)
      have hA1 := HAS.out
      rw [← hW1] at hA1 ⊢
      have q0 := hA1.c0
      have q1 := hA1.c1
      have q2 := hA1.c2
      clear hW1 hA1 r0 r1 r2 s0 s1 s2 sl f0 f1 f2
      refine bodyPost_ret (v := .agg #[.float .f32 a, .float .f32 b, .float .f32 c']) (by simp [results, Try.results140, go_sem, q0, q1, q2]) rfl ⟨a, b, c', rfl, by rw [← HIP.out]; exact HS.out, HBW.out⟩

set_option maxRecDepth 100000 in
set_option maxHeartbeats 4000000 in
theorem meanOfSpots_calls (A : Option Addr) (ps : List (Nat × Nat × Nat)) (p c : Nat) (hp : p = ps.length) (hn : p ≤ 1048576) (w : World) (hr : RdS w A ps) :
    Calls Try.prog 91 #[.slice A p c] w fun e w' => ∃ a b c x y z, e = .returned (.agg #[.float .f32 x, .float .f32 y, .float .f32 z]) ∧ SumS ps p a b c ∧ DivR a b c (floatOfInt .f32 (p : Int)) x y z ∧ Below w.heap.size w w' := by
  have hB := (Below.refl w.heap.size w).alloc (Nat.le_refl _) (.cells #[.float .f32 0, .float .f32 0, .float .f32 0] 57)
  have HC := Frame.hid (sumOfSpots_calls A ps p c hp hn _ (hr.below hB))
  have HB := Frame.hid hB
  have hN := New.here w 57
  have HN := Frame.hid hN
  clear hp hr hB hN
  go_enter Try.func91, Try.ntmps91
  go_wp2_with (first
    | (go_at_call 140; refine HC.out.mono ?_; rintro e w1 ⟨a, b, c', rfl, hS, hB1⟩; have HS := Frame.hid hS; have HN1 := Frame.hid (HN.out.go hB1); have HB1 := Frame.hid (HB.out.trans (hB1.mono HB.out.size)); clear hS hB1)
    | (go_at_call 141; refine (dividedBy_calls _ _ _ _ _).mono ?_; rintro e w2 ⟨x, y, z, rfl, hD, hB2⟩; have HD := Frame.hid hD; have hN2 := HN1.out.go hB2; have HN2 := Frame.hid hN2; have HB2 := Frame.hid (HB1.out.trans (hB2.mono HB1.out.size)); have r0 := hN2.a.c0; have r1 := hN2.a.c1; have r2 := hN2.a.c2; have f0 := hN2.f 0; have f1 := hN2.f 1; have f2 := hN2.f 2; clear hD hN2 hB2))
  have HAS := Frame.hid (At3.set HN2.out x y z)
  obtain ⟨W1, hW1⟩ : ∃ W1, W1 = ((w2.setCell ⟨w.heap.size, 0, none⟩ (.float .f32 x)).setCell ⟨w.heap.size, 1, none⟩ (.float .f32 y)).setCell ⟨w.heap.size, 2, none⟩ (.float .f32 z) := ⟨_, rfl⟩
  have HBW : Hid (Below w.heap.size w W1) := Frame.hid (by
    rw [hW1]
    exact ((HB2.out.setCell (p := ⟨w.heap.size, 0, none⟩) (Nat.le_refl _) _).setCell (p := ⟨w.heap.size, 1, none⟩) (Nat.le_refl _) _).setCell (p := ⟨w.heap.size, 2, none⟩) (Nat.le_refl _) _)
  have hA1 := HAS.out
  rw [← hW1] at hA1 ⊢
  have q0 := hA1.c0
  have q1 := hA1.c1
  have q2 := hA1.c2
  clear hW1 hA1 r0 r1 r2 f0 f1 f2
  refine bodyPost_ret (v := .agg #[.float .f32 x, .float .f32 y, .float .f32 z]) (by simp [results, Try.results91, go_sem, q0, q1, q2]) rfl ⟨a, b, c', x, y, z, rfl, HS.out, HD.out, HBW.out⟩

end Go.Proofs.Ytnbgnaenlbphcaa
