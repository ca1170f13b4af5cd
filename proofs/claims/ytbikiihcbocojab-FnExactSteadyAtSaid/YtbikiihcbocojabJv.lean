/-
  SteadyAt, walked on both sides.
-/
import Derived.Test.YtbikiihcbocojabJq
namespace Go.Proofs.Ytbikiihcbocojab
open Go.RowKit Fl Ieee
attribute [local go_sem] jstore_s run_store_f

set_option maxRecDepth 100000 in
set_option maxHeartbeats 8000000 in
theorem steadyAt_calls (A B D : Option Addr) (xs ys zs : List Nat) (t : Nat) (w : World) (hn : xs.length ≤ 1048576) (hn' : ys.length ≤ 1048576) (hA : RdF w A xs) (hB : RdF w B ys) (hD : RdF w D zs) :
    Calls Try.prog 33 #[.slice A xs.length xs.length, .slice B ys.length ys.length, .slice D zs.length zs.length, .float .f32 t] w fun e w' => ∃ r ok, e = .returned (.tuple #[.float .f32 r, .bool ok]) ∧ AtV SteadyR xs ys zs t r ok ∧ Below w.heap.size w w' := by
  cases hh : legB xs ys zs t
  · have HC := Frame.hid (graphLeg_no A B D xs ys zs t w hn hn' hA hB hD hh)
    have HH := Frame.hid hh
    clear hh hA hB hD
    generalize hX : Value.slice A xs.length xs.length = X at *
    generalize hY : Value.slice B ys.length ys.length = Y at *
    generalize hZ : Value.slice D zs.length zs.length = Z at *
    clear hX hY hZ
    go_enter Try.func33, Try.ntmps33
    go_wp2_with fail
    refine HC.out.mono ?_
    rintro e w' ⟨rfl, hB1⟩
    have HB1 := Frame.hid hB1
    clear hB1
    go_wp2_with fail
    go_ret2
    exact ⟨_, _, rfl, .inr ⟨HH.out, rfl, rfl⟩, HB1.out.alloc HB1.out.size _⟩
  · obtain ⟨hg, hl, hf, hp⟩ := legB_of hh
    obtain ⟨h2, h48, hy, hfx⟩ := graphB_of hg
    obtain ⟨b, off, rfl, hb, hc⟩ := hA (by omega)
    obtain ⟨b', off', rfl, hb', hc'⟩ := hB (by omega)
    obtain ⟨b2, off2, rfl, hb2, hc2⟩ := hD (by omega)
    have HC := Frame.hid (graphLeg_e b off b' off' b2 off2 xs ys zs t w hA hB hD hg hl hf hp)
    have HH := Frame.hid hh
    have H1 := Frame.hid hc
    have H2 := Frame.hid hc'
    have H3 := Frame.hid hc2
    have HL := Frame.hid (And.intro hl hy)
    have hN : ∀ {k : Nat}, LegI xs t k → k + 1 < xs.length := fun h => h.1
    clear hh hA hB hD hc hc' hc2 hg hf hp hfx hl hy
    generalize xs.length = N at *
    generalize ys.length = M at *
    generalize zs.length = K at *
    go_enter Try.func33, Try.ntmps33
    go_wp2_with fail
    refine HC.out.mono ?_
    rintro e w' ⟨k, hk, rfl, hB1⟩
    have hkN : k + 1 < N := hN hk
    have c0 := (hB1.cell (p := ⟨b, off + k, none⟩) hb).trans (H1.out k (by omega))
    have c1 := (hB1.cell (p := ⟨b, off + (k + 1), none⟩) hb).trans (H1.out (k + 1) (by omega))
    have c2 := (hB1.cell (p := ⟨b', off' + k, none⟩) hb').trans (H2.out k (by have := HL.out; omega))
    have c3 := (hB1.cell (p := ⟨b', off' + (k + 1), none⟩) hb').trans (H2.out (k + 1) (by have := HL.out; omega))
    have c4 := (hB1.cell (p := ⟨b2, off2 + k, none⟩) hb2).trans (H3.out k (by have := HL.out; omega))
    have c5 := (hB1.cell (p := ⟨b2, off2 + (k + 1), none⟩) hb2).trans (H3.out (k + 1) (by have := HL.out; omega))
    rw [← Nat.add_assoc] at c1 c3 c5
    have HK := Frame.hid hk
    have HB1 := Frame.hid hB1
    have l0 : b < w'.heap.size := Nat.lt_of_lt_of_le hb hB1.size
    have l1 : b' < w'.heap.size := Nat.lt_of_lt_of_le hb' hB1.size
    have l2 : b2 < w'.heap.size := Nat.lt_of_lt_of_le hb2 hB1.size
    clear hk hB1 HC H1 H2 H3 HL hN
    generalize hx0 : xs.getD k 0 = x0 at *
    generalize hx1 : xs.getD (k + 1) 0 = x1 at *
    generalize hy0 : ys.getD k 0 = y0 at *
    generalize hy1 : ys.getD (k + 1) 0 = y1 at *
    generalize hz0 : zs.getD k 0 = z0 at *
    generalize hz1 : zs.getD (k + 1) 0 = z1 at *
    have HE := Frame.hid (And.intro hx0 (And.intro hx1 (And.intro hy0 (And.intro hy1 (And.intro hz0 hz1)))))
    clear hx0 hx1 hy0 hy1 hz0 hz1
    go_wp2_with fail
    generalize hWd : w'.alloc (.cells #[.slice (some ⟨b, off + k, none⟩) 2 2, .slice (some ⟨b', off' + k, none⟩) 2 2, .slice (some ⟨b2, off2 + k, none⟩) 2 2] 89) = wA
    have sz0 : w'.heap.size < wA.heap.size := by rw [← hWd]; simp
    have s0 : wA.cell? ⟨w'.heap.size, 0, none⟩ = some (.slice (some ⟨b, off + k, none⟩) 2 2) := by rw [← hWd]; simp [go_sem]
    have s1 : wA.cell? ⟨w'.heap.size, 1, none⟩ = some (.slice (some ⟨b', off' + k, none⟩) 2 2) := by rw [← hWd]; simp [go_sem]
    have s2 : wA.cell? ⟨w'.heap.size, 2, none⟩ = some (.slice (some ⟨b2, off2 + k, none⟩) 2 2) := by rw [← hWd]; simp [go_sem]
    have hBA : Below w'.heap.size w' wA := by rw [← hWd]; exact (Below.refl _ _).alloc (Nat.le_refl _) _
    replace c0 := (hBA.cell (p := ⟨b, off + k, none⟩) l0).trans c0
    replace c1 := (hBA.cell (p := ⟨b, off + k + 1, none⟩) l0).trans c1
    replace c2 := (hBA.cell (p := ⟨b', off' + k, none⟩) l1).trans c2
    replace c3 := (hBA.cell (p := ⟨b', off' + k + 1, none⟩) l1).trans c3
    replace c4 := (hBA.cell (p := ⟨b2, off2 + k, none⟩) l2).trans c4
    replace c5 := (hBA.cell (p := ⟨b2, off2 + k + 1, none⟩) l2).trans c5
    have HBA := Frame.hid (HB1.out.trans (hBA.mono HB1.out.size))
    clear hBA hWd l0 l1 l2 sz0 HB1
    (refine region_lex (by kernel_rfl) (by kernel_rfl) ?_; (repeat (first | (refine rLex_arith rfl _ _ _ _ _ rfl rfl _ _ _ rfl rfl ?_; intro r hr; simp only [Act.put, List.setIfInBounds_toArray, List.set_cons_zero, List.set_cons_succ]) | (refine rLex_one rfl ?_; (first | go_big_quiet_skip | (go_big_quiet_want; go_big_quiet_op; go_big_quiet_on)); refine wpQuiet_nil ?_))); refine rLex_nil ?_; intro nq)
    have E1 := Frame.hid hr
    clear hr
    go_wp2_with (first | (refine wpList_arith rfl _ _ _ _ _ rfl rfl _ _ _ rfl rfl ?_; intro r n hr hl) | (go_at_call 59; refine (numA_calls _ _).mono ?_; rintro e w2 ⟨r, ok, rfl, hnn, n, rfl⟩))
    rename_i m1 n1 g1 l1 m2 n2 g2 l2 m3 n3 g3 l3 m4 n4 g4 l4 m5 n5 g5 l5 m6 n6 g6 l6 m7 n7 g7 l7 m8 n8 g8 l8 m9 n9 g9 l9 m10 n10 g10 l10 m11 n11 g11 l11 m12 n12 g12 l12 m13 n13 g13 l13 m14 n14 g14 l14 m15 n15 g15 l15 m16 n16 g16 l16 m17 n17 g17 l17 m18 n18 g18 l18 m19 n19 g19 l19 m20 n20 g20 l20 m21 n21 g21 l21 m22 n22 g22 l22 m23 n23 g23 l23 m24 n24 g24 l24 m25 n25 g25 l25 m26 n26
    go_ret2
    obtain ⟨rfl, rfl, rfl, rfl, rfl, rfl⟩ := HE.out
    refine ⟨_, _, rfl, .inl ⟨HH.out, k, _, HK.out, ?_, hnn⟩, below_drewN HBA.out _⟩
    exact ⟨_, _, _, ⟨E1.out, ⟨_, g1, g2⟩, g3⟩, _, _, _, ⟨_, _, _, _, _, g4, g5, g6, g7, g8, g9⟩, ⟨_, _, _, _, g10, g11, g12, g13, g14⟩, ⟨_, _, _, _, _, g15, g16, g17, g18, g19, g20⟩, ⟨_, _, _, _, _, g21, g22, g23, g24, g25, hr⟩⟩

set_option maxRecDepth 100000 in
set_option maxHeartbeats 8000000 in
theorem specSteadyAt_no (A B D : Option Addr) (xs ys zs : List Nat) (t : Nat) (w : World) (hn : xs.length ≤ 1048576) (hn' : ys.length ≤ 1048576) (hn2 : zs.length ≤ 1048576) (hA : RdF w A xs) (hB : RdF w B ys) (hD : RdF w D zs) (hh : legB xs ys zs t = false) :
    Calls Try.prog 32 #[.slice A xs.length xs.length, .slice B ys.length ys.length, .slice D zs.length zs.length, .float .f32 t] w fun e w' => e = .returned (.tuple #[.float .f32 0, .bool false]) ∧ ∃ m, w' = w.drewN m := by
  cases hg : graphB xs ys
  · have HC := Frame.hid (l05Graph_say (c := xs.length) (d := ys.length) hg hn hn' w hA hB)
    clear hg hA hB hD hh
    generalize xs.length = N at *
    generalize ys.length = M at *
    generalize zs.length = K at *
    go_enter Try.func32, Try.ntmps32
    go_wp2_with fail
    refine HC.out.mono ?_
    rintro e w' ⟨rfl, m, rfl⟩
    go_wp2_with fail
    go_ret2
    exact ⟨rfl, _, rfl⟩
  have HC := Frame.hid (l05Graph_say (c := xs.length) (d := ys.length) hg hn hn' w hA hB)
  by_cases hl : zs.length = xs.length
  · cases hf : finL zs
    · have HF := Frame.hid (l02Fin_say (c := zs.length) hf hn2 w hD)
      rw [hl] at HF ⊢
      clear hg hA hB hD hh hf hl hn2
      generalize xs.length = N at *
      generalize ys.length = M at *
      go_enter Try.func32, Try.ntmps32
      go_wp2_with fail
      refine HC.out.mono ?_
      rintro e w' ⟨rfl, m, rfl⟩
      go_wp2_with fail
      refine (HF.out m).mono ?_
      rintro e w' ⟨rfl, m2, rfl⟩
      go_wp2_with fail
      go_ret2
      exact ⟨rfl, _, rfl⟩
    · have hp : placeB xs t = false := by unfold legB at hh; rw [hg, hf] at hh; simpa [hl] using hh
      obtain ⟨h2, h48, hy, hfx⟩ := graphB_of hg
      have HF := Frame.hid (l02Fin_say (c := zs.length) hf hn2 w hD)
      have HP := Frame.hid (fun k => l05Find_no A xs xs.length t (w.drewN k) h2 h48 (hA.drewN k) hp)
      rw [hl] at HF ⊢
      clear hg hA hB hD hh hf hl hn2 hp hy hfx
      generalize xs.length = N at *
      generalize ys.length = M at *
      go_enter Try.func32, Try.ntmps32
      go_wp2_with fail
      refine HC.out.mono ?_
      rintro e w' ⟨rfl, m, rfl⟩
      go_wp2_with fail
      refine (HF.out m).mono ?_
      rintro e w' ⟨rfl, m2, rfl⟩
      go_wp2_with fail
      refine (HP.out _).mono ?_
      rintro e w' ⟨rfl, rfl⟩
      go_wp2_with fail
      go_ret2
      exact ⟨rfl, _, rfl⟩
  · generalize xs.length = N at *
    generalize ys.length = M at *
    generalize zs.length = K at *
    have hb1 : ((K : Int) == (N : Int)) = false := by rw [beq_eq_false_iff_ne]; omega
    have hb2 : ((K : Int) != (N : Int)) = true := by rw [bne_iff_ne]; omega
    clear hg hA hB hD hh hl
    go_enter Try.func32, Try.ntmps32
    go_wp2_with fail
    refine HC.out.mono ?_
    rintro e w' ⟨rfl, m, rfl⟩
    go_wp2_with fail
    go_ret2
    exact ⟨rfl, _, rfl⟩


set_option maxRecDepth 100000 in
set_option maxHeartbeats 8000000 in
theorem specSteadyAt_yes (A B D : Option Addr) (xs ys zs : List Nat) (t : Nat) (w : World) (hn : xs.length ≤ 1048576) (hn' : ys.length ≤ 1048576) (hn2 : zs.length ≤ 1048576) (hA : RdF w A xs) (hB : RdF w B ys) (hD : RdF w D zs) (hh : legB xs ys zs t = true) :
    Calls Try.prog 32 #[.slice A xs.length xs.length, .slice B ys.length ys.length, .slice D zs.length zs.length, .float .f32 t] w fun e w' => ∃ r ok, e = .returned (.tuple #[.float .f32 r, .bool ok]) ∧ AtV SteadyR xs ys zs t r ok ∧ ∃ m, w' = w.drewN m := by
  obtain ⟨hg, hl, hf, hp⟩ := legB_of hh
  obtain ⟨h2, h48, hy, hfx⟩ := graphB_of hg
  have HC := Frame.hid (l05Graph_say (c := xs.length) (d := ys.length) hg hn hn' w hA hB)
  have HF := Frame.hid (l02Fin_say (c := zs.length) hf hn2 w hD)
  have HP := Frame.hid (fun k => l05Find_yes A xs xs.length t (w.drewN k) h2 h48 hfx (hA.drewN k) hp)
  obtain ⟨b, off, rfl, hb, hc⟩ := hA (by omega)
  obtain ⟨b', off', rfl, hb', hc'⟩ := hB (by omega)
  obtain ⟨b2, off2, rfl, hb2, hc2⟩ := hD (by omega)
  have HH := Frame.hid hh
  have H1 := Frame.hid hc
  have H2 := Frame.hid hc'
  have H3 := Frame.hid hc2
  have HL := Frame.hid (And.intro hl hy)
  have hN : ∀ {k : Nat}, LegI xs t k → k + 1 < xs.length := fun h => h.1
  rw [hl] at HF ⊢
  rw [hy] at HC ⊢
  clear hh hA hB hD hc hc' hc2 hg hf hp hfx hn2 hl hy hn'
  generalize xs.length = N at *
  go_enter Try.func32, Try.ntmps32
  go_wp2_with fail
  refine HC.out.mono ?_
  rintro e w' ⟨rfl, m, rfl⟩
  go_wp2_with fail
  refine (HF.out m).mono ?_
  rintro e w' ⟨rfl, m2, rfl⟩
  go_wp2_with fail
  refine (HP.out _).mono ?_
  rintro e w' ⟨k, rfl, hk, rfl⟩
  have hkN : k + 1 < N := hN hk
  have c0 := H1.out k (by omega)
  have c1 := H1.out (k + 1) (by omega)
  have c2 := H2.out k (by have := HL.out; omega)
  have c3 := H2.out (k + 1) (by have := HL.out; omega)
  have c4 := H3.out k (by have := HL.out; omega)
  have c5 := H3.out (k + 1) (by have := HL.out; omega)
  have HK := Frame.hid hk
  clear hk HC H1 H2 H3 HL hN HF HP
  generalize hx0 : xs.getD k 0 = x0 at *
  generalize hx1 : xs.getD (k + 1) 0 = x1 at *
  generalize hy0 : ys.getD k 0 = y0 at *
  generalize hy1 : ys.getD (k + 1) 0 = y1 at *
  generalize hz0 : zs.getD k 0 = z0 at *
  generalize hz1 : zs.getD (k + 1) 0 = z1 at *
  have HE := Frame.hid (And.intro hx0 (And.intro hx1 (And.intro hy0 (And.intro hy1 (And.intro hz0 hz1)))))
  clear hx0 hx1 hy0 hy1 hz0 hz1
  have p0 : (0 : Int) ≤ (k : Int) := by omega
  have p1 : (k : Int) < (N : Int) := by omega
  have q0 : ¬ ((k : Int) + 1 < 0) := by omega
  have q1 : (0 : Int) ≤ (k : Int) + 1 := by omega
  have q2 : ((k : Int) + 1).toNat = k + 1 := by omega
  have q3 : IntKind.i64.wrap ((k : Int) + 1) = (k : Int) + 1 := by rw [IntKind.wrap_i64]; omega
  have q4 : (k : Int) + 1 < (N : Int) := by omega
  have q5 : ¬ ((k : Int) < 0) := by omega
  go_wp2_with fail
  (refine region_lex (by kernel_rfl) (by kernel_rfl) ?_; (repeat (first | (refine rLex_arith rfl _ _ _ _ _ rfl rfl _ _ _ rfl rfl ?_; intro r hr; simp only [Act.put, List.setIfInBounds_toArray, List.set_cons_zero, List.set_cons_succ]) | (refine rLex_one rfl ?_; (first | go_big_quiet_skip | (go_big_quiet_want; go_big_quiet_op; go_big_quiet_on)); refine wpQuiet_nil ?_))); refine rLex_nil ?_; intro nq)
  have E1 := Frame.hid hr
  clear hr
  go_wp2_with (first | (refine wpList_arith rfl _ _ _ _ _ rfl rfl _ _ _ rfl rfl ?_; intro r n hr hl) | (go_at_call 57; refine (l02NumA_calls _ _).mono ?_; rintro e w2 ⟨r, ok, rfl, hnn, n, rfl⟩))
  rename_i m1 n1 g1 l1 m2 n2 g2 l2 m3 n3 g3 l3 m4 n4 g4 l4 m5 n5 g5 l5 m6 n6 g6 l6 m7 n7 g7 l7 m8 n8 g8 l8 m9 n9 g9 l9 m10 n10 g10 l10 m11 n11 g11 l11 m12 n12 g12 l12 m13 n13 g13 l13 m14 n14 g14 l14 m15 n15 g15 l15 m16 n16 g16 l16 m17 n17 g17 l17 m18 n18 g18 l18 m19 n19 g19 l19 m20 n20 g20 l20 m21 n21 g21 l21 m22 n22 g22 l22 m23 n23 g23 l23 m24 n24 g24 l24 m25 n25 g25 l25 m26 n26
  go_ret2
  obtain ⟨rfl, rfl, rfl, rfl, rfl, rfl⟩ := HE.out
  refine ⟨_, _, rfl, .inl ⟨HH.out, k, _, HK.out, ?_, hnn⟩, _, rfl⟩
  exact ⟨_, _, _, ⟨E1.out, ⟨_, g1, g2⟩, g3⟩, _, _, _, ⟨_, _, _, _, _, g4, g5, g6, g7, g8, g9⟩, ⟨_, _, _, _, g10, g11, g12, g13, g14⟩, ⟨_, _, _, _, _, g15, g16, g17, g18, g19, g20⟩, ⟨_, _, _, _, _, g21, g22, g23, g24, g25, hr⟩⟩

theorem specSteadyAt_calls (A B D : Option Addr) (xs ys zs : List Nat) (t : Nat) (w : World) (hn : xs.length ≤ 1048576) (hn' : ys.length ≤ 1048576) (hn2 : zs.length ≤ 1048576) (hA : RdF w A xs) (hB : RdF w B ys) (hD : RdF w D zs) :
    Calls Try.prog 32 #[.slice A xs.length xs.length, .slice B ys.length ys.length, .slice D zs.length zs.length, .float .f32 t] w fun e w' => ∃ r ok, e = .returned (.tuple #[.float .f32 r, .bool ok]) ∧ AtV SteadyR xs ys zs t r ok ∧ ∃ m, w' = w.drewN m := by
  cases hh : legB xs ys zs t
  · refine (specSteadyAt_no A B D xs ys zs t w hn hn' hn2 hA hB hD hh).mono ?_
    rintro e w' ⟨rfl, hm⟩
    exact ⟨_, _, rfl, .inr ⟨hh, rfl, rfl⟩, hm⟩
  · exact specSteadyAt_yes A B D xs ys zs t w hn hn' hn2 hA hB hD hh

end Go.Proofs.Ytbikiihcbocojab
