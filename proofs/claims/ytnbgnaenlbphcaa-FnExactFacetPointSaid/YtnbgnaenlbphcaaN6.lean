/-
  The law of SameNet, walked.
-/
import Derived.Test.YtnbgnaenlbphcaaN5
namespace Go.Proofs.Ytnbgnaenlbphcaa
open Go.RowKit Fl Go.WideShapes Go.Deep
attribute [local go_sem] kstore_f kalloc_drewN kset_drewN hstore_i hstore_s

theorem SK_of4 {n : Nat} {wc W : World} {p0 p1 p2 p3 : Addr} {v0 v1 v2 v3 : Value} (h : W.cell? p0 = some v0 ∧ W.cell? p1 = some v1 ∧ W.cell? p2 = some v2 ∧ W.cell? p3 = some v3 ∧ n ≤ W.heap.size ∧ SK n wc [(p0, v0), (p1, v1), (p2, v2), (p3, v3)] W) : SK n wc [(p0, v0), (p1, v1), (p2, v2), (p3, v3)] W := h.2.2.2.2.2
theorem SK_all4 {n : Nat} {wc W : World} {p0 p1 p2 p3 : Addr} {v0 v1 v2 v3 : Value} (h : SK n wc [(p0, v0), (p1, v1), (p2, v2), (p3, v3)] W) : W.cell? p0 = some v0 ∧ W.cell? p1 = some v1 ∧ W.cell? p2 = some v2 ∧ W.cell? p3 = some v3 ∧ n ≤ W.heap.size ∧ SK n wc [(p0, v0), (p1, v1), (p2, v2), (p3, v3)] W :=
  ⟨h.c (p0, v0) (by simp), h.c (p1, v1) (by simp), h.c (p2, v2) (by simp), h.c (p3, v3) (by simp), h.s, h⟩

set_option maxRecDepth 100000 in
set_option maxHeartbeats 8000000 in
theorem fnExactSameNet_walk (A : Option Addr) (xs : List (Nat × Nat × Nat)) (c : Nat) (hl : xs.length ≤ maxLen) (B : Option Addr) (fs : List (List Int)) (d : Nat) (hk : fs.length ≤ maxLen) (hfl : ∀ k, (crn fs k).length ≤ maxLen) (A' : Option Addr) (ys : List (Nat × Nat × Nat)) (c' : Nat) (hl' : ys.length ≤ maxLen) (B' : Option Addr) (gs : List (List Int)) (d' : Nat) (hk' : gs.length ≤ maxLen) (hgl : ∀ k, (crn gs k).length ≤ maxLen) (hfx : Fit xs) (hfy : Fit ys) (w : World) (hr : RdS w A xs) (hf : RdF w B fs) (hr' : RdS w A' ys) (hf' : RdF w B' gs) :
    Calls Try.prog 4 #[.agg #[.slice A xs.length c, .slice B fs.length d], .agg #[.slice A' ys.length c', .slice B' gs.length d']] w fun e w' => e = .returned (.bool true) ∧ Below w.heap.size w w' := by
  obtain ⟨n, hxn⟩ : ∃ n, n = xs.length := ⟨_, rfl⟩
  obtain ⟨n', hyn⟩ : ∃ n', n' = ys.length := ⟨_, rfl⟩
  obtain ⟨m, hm⟩ : ∃ m, m = fs.length := ⟨_, rfl⟩
  obtain ⟨m', hm'⟩ : ∃ m', m' = gs.length := ⟨_, rfl⟩
  rw [← hxn] at hl ⊢
  rw [← hyn] at hl' ⊢
  rw [← hm] at hk ⊢
  rw [← hm'] at hk' ⊢
  have HX := Frame.hid hxn
  have HY := Frame.hid hyn
  have HM := Frame.hid hm
  have HM' := Frame.hid hm'
  have HSZ := Frame.hid (fun L (hL : L ≤ 1048576) W (h : RdF W B fs) => szNet_calls A B fs n m c d L hl hm hk hfl hL W h)
  have HSZ' := Frame.hid (fun L (hL : L ≤ 1048576) W (h : RdF W B' gs) => szNet_calls A' B' gs n' m' c' d' L hl' hm' hk' hgl hL W h)
  have HFX := Frame.hid hfx
  have HFY := Frame.hid hfy
  have HR := Frame.hid (fun W (hW : Below w.heap.size w W) => hr.below hW)
  have HR' := Frame.hid (fun W (hW : Below w.heap.size w W) => hr'.below hW)
  have HF := Frame.hid (fun W (hW : Below w.heap.size w W) => hf.below hW)
  have HF' := Frame.hid (fun W (hW : Below w.heap.size w W) => hf'.below hW)
  have hS0 := (Nt2.here w (.slice A n c) (.slice B m d) 38).below ((Below.refl _ _).alloc (Nat.le_refl _) (.cells #[.slice A' n' c', .slice B' m' d'] 38))
  have hT0 := Nt2.here (w.alloc (.cells #[.slice A n c, .slice B m d] 38)) (.slice A' n' c') (.slice B' m' d') 38
  have e1 : (w.alloc (.cells #[.slice A n c, .slice B m d] 38)).heap.size = w.heap.size + 1 := by simp
  rw [e1] at hT0
  have HS0 := Frame.hid hS0
  have HT0 := Frame.hid hT0
  have hb2 : Below w.heap.size w ((w.alloc (.cells #[.slice A n c, .slice B m d] 38)).alloc (.cells #[.slice A' n' c', .slice B' m' d'] 38)) := (below_al _ (below_al _ (below_st _))).2
  clear hxn hyn hm hm' hl hl' hk hk' hfl hgl hfx hfy hr hr' hf hf' hS0 hT0 e1
  go_enter Try.func4, Try.ntmps4
  go_wp2_with fail
  refine (HSZ.out 1048576 (Nat.le_refl _) _ (HF.out _ hb2)).mono ?_
  rintro e w1 ⟨hz, hB1⟩
  have HS1 := Frame.hid (HS0.out.below hB1)
  have HT1 := Frame.hid (HT0.out.below hB1)
  have HB1 := Frame.hid (hb2.trans (hB1.mono hb2.size))
  clear hB1 hb2
  rcases hz with rfl | ⟨L, rfl, hL, hnl, hml, hfl⟩
  · go_wp2_with fail
    go_ret
    exact ⟨rfl, HB1.out⟩
  · have HFL := Frame.hid hfl
    have k0 := HS1.out.c0
    have k1 := HS1.out.c1
    have j0 := HT1.out.c0
    have j1 := HT1.out.c1
    have hL0 : ¬ (L : Int) < 0 := by omega
    clear hfl
    go_wp2_with fail
    refine (HSZ'.out L hL _ (HF'.out _ HB1.out)).mono ?_
    rintro e w2 ⟨hz, hB2⟩
    have HS2 := Frame.hid (HS1.out.below hB2)
    have HT2 := Frame.hid (HT1.out.below hB2)
    have HB2 := Frame.hid (HB1.out.trans (hB2.mono HB1.out.size))
    clear hB2 k0 k1 j0 j1
    rcases hz with rfl | ⟨M, rfl, hM, hnl', hml', hgl⟩
    · go_wp2_with fail
      go_ret
      exact ⟨rfl, HB2.out⟩
    · have HGL := Frame.hid hgl
      have hM0 : ¬ (M : Int) < 0 := by omega
      have HTO := Frame.hid (fun W (hW : Below w.heap.size w W) => toNet_calls A B xs fs n m c d HX.out hnl HM.out hml HFL.out W (HR.out W hW) (HF.out W hW))
      have HTO' := Frame.hid (fun W (hW : Below w.heap.size w W) => toNet_calls A' B' ys gs n' m' c' d' HY.out hnl' HM'.out hml' HGL.out W (HR'.out W hW) (HF'.out W hW))
      have HSN := Frame.hid (fun (a b a' b' : Option Addr) W (h1 : RdS W a xs) (h2 : RdF W b fs) (h3 : RdS W a' ys) (h4 : RdF W b' gs) => specSameNet_calls a b a' b' xs ys fs gs n m n' m' n m n' m' HX.out HY.out hnl hnl' HFX.out HFY.out HM.out HM'.out hml hml' HFL.out HGL.out W h1 h2 h3 h4)
      have HIN := Frame.hid (fun (a b a' b' : Option Addr) W (h1 : RdS W a xs) (h2 : RdF W b fs) (h3 : RdS W a' ys) (h4 : RdF W b' gs) => sameNet_calls a b a' b' xs ys fs gs n m n' m' n m n' m' HX.out HY.out hnl hnl' HFX.out HFY.out HM.out HM'.out hml hml' HFL.out HGL.out W h1 h2 h3 h4)
      have HEQ := Frame.hid (fun (a b a' b' : Option Addr) W (h1 : RdS W a xs) (h2 : RdF W b fs) (h3 : RdS W a' xs) (h4 : RdF W b' fs) => eqNet_calls a b a' b' xs fs n m n m n m HX.out hnl HM.out hml HFL.out W h1 h3 h2 h4)
      have HEQ' := Frame.hid (fun (a b a' b' : Option Addr) W (h1 : RdS W a ys) (h2 : RdF W b gs) (h3 : RdS W a' ys) (h4 : RdF W b' gs) => eqNet_calls a b a' b' ys gs n' m' n' m' n' m' HY.out hnl' HM'.out hml' HGL.out W h1 h3 h2 h4)
      have k0 := HS2.out.c0
      have k1 := HS2.out.c1
      have j0 := HT2.out.c0
      have j1 := HT2.out.c1
      have q1 := HS2.out.l
      have q2 := HT2.out.l
      have hST : SK w2.heap.size w2 [((⟨w.heap.size, 0, none⟩ : Addr), (.slice A n c : Value)), ((⟨w.heap.size, 1, none⟩ : Addr), (.slice B m d : Value)), ((⟨w.heap.size + 1, 0, none⟩ : Addr), (.slice A' n' c' : Value)), ((⟨w.heap.size + 1, 1, none⟩ : Addr), (.slice B' m' d' : Value))] w2 := SK.start (Nat.le_refl _) (by intro p hp; simp at hp; rcases hp with rfl | rfl | rfl | rfl <;> assumption) (by intro p hp; simp at hp; rcases hp with rfl | rfl | rfl | rfl <;> assumption)
      clear q1 q2 k0 k1 j0 j1 hgl
      go_wp2_with fail
      go_region_held3 (fun W => W.cell? ⟨w.heap.size, 0, none⟩ = some (.slice A n c) ∧ W.cell? ⟨w.heap.size, 1, none⟩ = some (.slice B m d) ∧ W.cell? ⟨w.heap.size + 1, 0, none⟩ = some (.slice A' n' c') ∧ W.cell? ⟨w.heap.size + 1, 1, none⟩ = some (.slice B' m' d') ∧ w2.heap.size ≤ W.heap.size ∧ SK w2.heap.size w2 [((⟨w.heap.size, 0, none⟩ : Addr), (.slice A n c : Value)), ((⟨w.heap.size, 1, none⟩ : Addr), (.slice B m d : Value)), ((⟨w.heap.size + 1, 0, none⟩ : Addr), (.slice A' n' c' : Value)), ((⟨w.heap.size + 1, 1, none⟩ : Addr), (.slice B' m' d' : Value))] W) ((refine SK_all4 ?_; (repeat' first | with_reducible assumption | exact SK_of4 (by with_reducible assumption) | exact hST | apply SK.drew | apply SK.drewN | apply SK.alloc | (refine SK.call ?_ (by with_reducible assumption)) | (refine SK.set ?_ _ _ _ (by omega)))))
        (first
          | (go_at_call_of 24 (Value.slice A n c); refine (HTO.out _ HB2.out.drew).mono ?_; rintro e w3 ⟨g1, h1, rfl, hR1, hF1, hB, hg1⟩)
          | (go_at_call_of 24 (Value.slice A' n' c'); refine (HTO'.out _ ((HB2.out.drew.trans ((by with_reducible assumption : Below w2.drew.heap.size w2.drew _).mono HB2.out.size)))).mono ?_; rintro e w3' ⟨g2, h2, rfl, hR2, hF2, hB, hg2⟩; have hR1' := hR1.below hB; have hF1' := hF1.below hB)
          | (go_at_call 23; refine (HSN.out _ _ _ _ _ hR1' hF1'.rd hR2 hF2.rd).mono ?_; rintro e w3'' ⟨rfl, hB⟩))
      have hSK : SK w2.heap.size w2 [((⟨w.heap.size, 0, none⟩ : Addr), (.slice A n c : Value)), ((⟨w.heap.size, 1, none⟩ : Addr), (.slice B m d : Value)), ((⟨w.heap.size + 1, 0, none⟩ : Addr), (.slice A' n' c' : Value)), ((⟨w.heap.size + 1, 1, none⟩ : Addr), (.slice B' m' d' : Value))] _ := SK_of4 (by with_reducible assumption)
      have HS3 := Frame.hid (HS2.out.below hSK.m)
      have HT3 := Frame.hid (HT2.out.below hSK.m)
      have HB3 := Frame.hid (HB2.out.trans (hSK.m.mono HB2.out.size))
      have k0 := HS3.out.c0
      have k1 := HS3.out.c1
      clear hSK hST
      go_wp2_with fail
      refine (HTO.out _ HB3.out).mono ?_
      rintro e w4 ⟨g4, h4, rfl, hR4, hF4, hB4, hg4⟩
      have HT4 := Frame.hid (HT3.out.below hB4)
      have HS4 := Frame.hid (HS3.out.below hB4)
      have HB4 := Frame.hid (HB3.out.trans (hB4.mono HB3.out.size))
      have j0 := HT4.out.c0
      have j1 := HT4.out.c1
      have jl : w.heap.size + 1 < w4.heap.size := HT4.out.l
      have HQ4 := Frame.hid hR4
      have HP4 := Frame.hid hF4
      clear hB4 k0 k1 hR4 hF4
      have hX4 : Below w4.heap.size w4 (w4.alloc (.cells #[.slice (some ⟨g4, 0, none⟩) n n, .slice (some ⟨h4, 0, none⟩) m m] 43)) := (Below.refl _ _).alloc (Nat.le_refl _) _
      go_wp2_with fail
      refine (HTO'.out _ (HB4.out.trans (hX4.mono HB4.out.size))).mono ?_
      rintro e w5 ⟨g5, h5, rfl, hR5, hF5, hB5, hg5⟩
      have HX5 := Frame.hid ((Nt2.here w4 (.slice (some ⟨g4, 0, none⟩) n n) (.slice (some ⟨h4, 0, none⟩) m m) 43).below hB5)
      have HQ5 := Frame.hid ((HQ4.out.below hX4).below hB5)
      have HP5 := Frame.hid ((HP4.out.below hX4).below hB5)
      have HT5 := Frame.hid ((HT4.out.below hX4).below hB5)
      have HS5 := Frame.hid ((HS4.out.below hX4).below hB5)
      have HB5 := Frame.hid (HB4.out.trans ((hX4.trans (hB5.mono hX4.size)).mono HB4.out.size))
      have HZ5 := Frame.hid hR5
      have HW5 := Frame.hid hF5
      have k0 := HX5.out.c0
      have k1 := HX5.out.c1
      have kl := HX5.out.l
      clear hB5 j0 j1 jl hR5 hF5 hX4
      go_wp2_with fail
      have ha5 : Below w5.heap.size w5 (w5.alloc (.cells #[.slice (some ⟨g5, 0, none⟩) n' n', .slice (some ⟨h5, 0, none⟩) m' m'] 43)) := (Below.refl _ _).alloc (Nat.le_refl _) _
      refine (HIN.out _ _ _ _ _ (HQ5.out.below ha5) (HP5.out.below ha5).rd (HZ5.out.below ha5) (HW5.out.below ha5).rd).mono ?_
      rintro e w6 ⟨rfl, hB6⟩
      have HX6 := Frame.hid ((HX5.out.below ha5).below hB6)
      have HY6 := Frame.hid ((Nt2.here w5 (.slice (some ⟨g5, 0, none⟩) n' n') (.slice (some ⟨h5, 0, none⟩) m' m') 43).below hB6)
      have HQ6 := Frame.hid ((HQ5.out.below ha5).below hB6)
      have HP6 := Frame.hid ((HP5.out.below ha5).below hB6)
      have HZ6 := Frame.hid ((HZ5.out.below ha5).below hB6)
      have HW6 := Frame.hid ((HW5.out.below ha5).below hB6)
      have HS6 := Frame.hid ((HS5.out.below ha5).below hB6)
      have HT6 := Frame.hid ((HT5.out.below ha5).below hB6)
      have HB6 := Frame.hid (HB5.out.trans ((ha5.trans (hB6.mono ha5.size)).mono HB5.out.size))
      clear hB6 k0 k1 kl ha5
      have k0 := HX6.out.c0
      have k1 := HX6.out.c1
      have j0 := HS6.out.c0
      have j1 := HS6.out.c1
      have q1 := HX6.out.l
      have q2 := HS6.out.l
      have hST : SK w6.heap.size w6 [((⟨w4.heap.size, 0, none⟩ : Addr), (.slice (some ⟨g4, 0, none⟩) n n : Value)), ((⟨w4.heap.size, 1, none⟩ : Addr), (.slice (some ⟨h4, 0, none⟩) m m : Value)), ((⟨w.heap.size, 0, none⟩ : Addr), (.slice A n c : Value)), ((⟨w.heap.size, 1, none⟩ : Addr), (.slice B m d : Value))] w6 := SK.start (Nat.le_refl _) (by intro p hp; simp at hp; rcases hp with rfl | rfl | rfl | rfl <;> assumption) (by intro p hp; simp at hp; rcases hp with rfl | rfl | rfl | rfl <;> assumption)
      clear q1 q2 k0 k1 j0 j1
      go_wp2_with fail
      go_region_held3 (fun W => W.cell? ⟨w4.heap.size, 0, none⟩ = some (.slice (some ⟨g4, 0, none⟩) n n) ∧ W.cell? ⟨w4.heap.size, 1, none⟩ = some (.slice (some ⟨h4, 0, none⟩) m m) ∧ W.cell? ⟨w.heap.size, 0, none⟩ = some (.slice A n c) ∧ W.cell? ⟨w.heap.size, 1, none⟩ = some (.slice B m d) ∧ w6.heap.size ≤ W.heap.size ∧ SK w6.heap.size w6 [((⟨w4.heap.size, 0, none⟩ : Addr), (.slice (some ⟨g4, 0, none⟩) n n : Value)), ((⟨w4.heap.size, 1, none⟩ : Addr), (.slice (some ⟨h4, 0, none⟩) m m : Value)), ((⟨w.heap.size, 0, none⟩ : Addr), (.slice A n c : Value)), ((⟨w.heap.size, 1, none⟩ : Addr), (.slice B m d : Value))] W) ((refine SK_all4 ?_; (repeat' first | with_reducible assumption | exact SK_of4 (by with_reducible assumption) | exact hST | apply SK.drew | apply SK.drewN | apply SK.alloc | (refine SK.call ?_ (by with_reducible assumption)) | (refine SK.set ?_ _ _ _ (by omega)))))
        (first
          | (go_at_call 24; refine (HTO.out _ HB6.out.drew).mono ?_; rintro e w7 ⟨g7, h7, rfl, hR7, hF7, hB, hg7⟩)
          | (go_at_call 26; refine (HEQ.out _ _ _ _ _ ((HQ6.out.below (Below.refl _ _).drew).below (by with_reducible assumption)) ((HP6.out.below (Below.refl _ _).drew).below (by with_reducible assumption)).rd hR7 hF7.rd).mono ?_; rintro e w7' ⟨rfl, hB⟩))
      have hSK7 : SK w6.heap.size w6 [((⟨w4.heap.size, 0, none⟩ : Addr), (.slice (some ⟨g4, 0, none⟩) n n : Value)), ((⟨w4.heap.size, 1, none⟩ : Addr), (.slice (some ⟨h4, 0, none⟩) m m : Value)), ((⟨w.heap.size, 0, none⟩ : Addr), (.slice A n c : Value)), ((⟨w.heap.size, 1, none⟩ : Addr), (.slice B m d : Value))] _ := SK_of4 (by with_reducible assumption)
      have HY7 := Frame.hid (HY6.out.below hSK7.m)
      have HT7 := Frame.hid (HT6.out.below hSK7.m)
      have HZ7 := Frame.hid (HZ6.out.below hSK7.m)
      have HW7 := Frame.hid (HW6.out.below hSK7.m)
      have HB7 := Frame.hid (HB6.out.trans (hSK7.m.mono HB6.out.size))
      have k0 := HY7.out.c0
      have k1 := HY7.out.c1
      have j0 := HT7.out.c0
      have j1 := HT7.out.c1
      have q1 := HY7.out.l
      have q2 := HT7.out.l
      clear hSK7 hST
      have hST : SK w7'.heap.size w7' [((⟨w5.heap.size, 0, none⟩ : Addr), (.slice (some ⟨g5, 0, none⟩) n' n' : Value)), ((⟨w5.heap.size, 1, none⟩ : Addr), (.slice (some ⟨h5, 0, none⟩) m' m' : Value)), ((⟨w.heap.size + 1, 0, none⟩ : Addr), (.slice A' n' c' : Value)), ((⟨w.heap.size + 1, 1, none⟩ : Addr), (.slice B' m' d' : Value))] w7' := SK.start (Nat.le_refl _) (by intro p hp; simp at hp; rcases hp with rfl | rfl | rfl | rfl <;> assumption) (by intro p hp; simp at hp; rcases hp with rfl | rfl | rfl | rfl <;> assumption)
      clear q1 q2 k0 k1 j0 j1
      go_wp2_with fail
      go_region_held3 (fun W => W.cell? ⟨w5.heap.size, 0, none⟩ = some (.slice (some ⟨g5, 0, none⟩) n' n') ∧ W.cell? ⟨w5.heap.size, 1, none⟩ = some (.slice (some ⟨h5, 0, none⟩) m' m') ∧ W.cell? ⟨w.heap.size + 1, 0, none⟩ = some (.slice A' n' c') ∧ W.cell? ⟨w.heap.size + 1, 1, none⟩ = some (.slice B' m' d') ∧ w7'.heap.size ≤ W.heap.size ∧ SK w7'.heap.size w7' [((⟨w5.heap.size, 0, none⟩ : Addr), (.slice (some ⟨g5, 0, none⟩) n' n' : Value)), ((⟨w5.heap.size, 1, none⟩ : Addr), (.slice (some ⟨h5, 0, none⟩) m' m' : Value)), ((⟨w.heap.size + 1, 0, none⟩ : Addr), (.slice A' n' c' : Value)), ((⟨w.heap.size + 1, 1, none⟩ : Addr), (.slice B' m' d' : Value))] W) ((refine SK_all4 ?_; (repeat' first | with_reducible assumption | exact SK_of4 (by with_reducible assumption) | exact hST | apply SK.drew | apply SK.drewN | apply SK.alloc | (refine SK.call ?_ (by with_reducible assumption)) | (refine SK.set ?_ _ _ _ (by omega)))))
        (first
          | (go_at_call 24; refine (HTO'.out _ HB7.out.drew).mono ?_; rintro e w8 ⟨g8, h8, rfl, hR8, hF8, hB, hg8⟩)
          | (go_at_call 26; refine (HEQ'.out _ _ _ _ _ ((HZ7.out.below (Below.refl _ _).drew).below (by with_reducible assumption)) ((HW7.out.below (Below.refl _ _).drew).below (by with_reducible assumption)).rd hR8 hF8.rd).mono ?_; rintro e w8' ⟨rfl, hB⟩))
      have hSK8 : SK w7'.heap.size w7' [((⟨w5.heap.size, 0, none⟩ : Addr), (.slice (some ⟨g5, 0, none⟩) n' n' : Value)), ((⟨w5.heap.size, 1, none⟩ : Addr), (.slice (some ⟨h5, 0, none⟩) m' m' : Value)), ((⟨w.heap.size + 1, 0, none⟩ : Addr), (.slice A' n' c' : Value)), ((⟨w.heap.size + 1, 1, none⟩ : Addr), (.slice B' m' d' : Value))] _ := SK_of4 (by with_reducible assumption)
      have HB8 := Frame.hid (HB7.out.trans (hSK8.m.mono HB7.out.size))
      clear hSK8 hST
      go_wp2_with fail
      go_ret
      exact ⟨rfl, HB8.out⟩

end Go.Proofs.Ytnbgnaenlbphcaa
