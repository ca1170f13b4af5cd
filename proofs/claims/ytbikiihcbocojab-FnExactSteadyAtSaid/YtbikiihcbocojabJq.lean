/-
  BentAt, walked on both sides.
-/
import Derived.Test.YtbikiihcbocojabJo
import Derived.Test.YtbikiihcbocojabJl
import Derived.Test.YtbikiihcbocojabJt
import Derived.Deep.DeepCutAuto
import Derived.Deep.RegionWith
namespace Go.Proofs.Ytbikiihcbocojab
open Go.RowKit Fl Ieee
attribute [local go_sem] jstore_s run_store_f

theorem graphLeg_no (A B D : Option Addr) (xs ys zs : List Nat) (t : Nat) (w : World) (hn : xs.length ≤ 1048576) (hn' : ys.length ≤ 1048576) (hA : RdF w A xs) (hB : RdF w B ys) (hD : RdF w D zs) (hh : legB xs ys zs t = false) :
    Calls Try.prog 74 #[.slice A xs.length xs.length, .slice B ys.length ys.length, .slice D zs.length zs.length, .float .f32 t] w (LegNo w) := by
  cases hg : graphB xs ys
  · exact graphLeg_a A B D xs ys zs _ _ _ t w hn hn' hA hB hg
  by_cases hl : zs.length = xs.length
  · cases hf : finL zs
    · exact graphLeg_c A B D xs ys zs _ _ _ t w hn hn' hA hB hD hg hl hf
    · have hp : placeB xs t = false := by unfold legB at hh; rw [hg, hf] at hh; simpa [hl] using hh
      exact graphLeg_d A B D xs ys zs _ _ t w hn hn' hA hB hD hg hl hf hp
  · exact graphLeg_b A B D xs ys zs _ _ _ t w hn hn' hA hB hg hl
theorem legB_of {xs ys zs : List Nat} {t : Nat} (h : legB xs ys zs t = true) : graphB xs ys = true ∧ zs.length = xs.length ∧ finL zs = true ∧ placeB xs t = true := by
  unfold legB at h
  simp at h
  exact ⟨h.1.1.1, h.1.1.2, h.1.2, h.2⟩
theorem graphB_of {xs ys : List Nat} (h : graphB xs ys = true) : 2 ≤ xs.length ∧ xs.length ≤ 48 ∧ ys.length = xs.length ∧ finL xs = true := by
  have hh : headB xs ys = true := by
    cases hh : headB xs ys
    · rw [graphB_head hh] at h; cases h
    · rfl
  obtain ⟨a, b, c, d, _⟩ := headB_of hh
  exact ⟨a, b, c, d⟩

/-- What both give. -/
def AtV (R : Nat → Nat → Nat → Nat → Nat → Nat → Nat → Nat → Prop) (xs ys zs : List Nat) (t r : Nat) (ok : Bool) : Prop :=
  (legB xs ys zs t = true ∧ ∃ i s, LegI xs t i ∧ R (xs.getD i 0) (xs.getD (i + 1) 0) (ys.getD i 0) (ys.getD (i + 1) 0) (zs.getD i 0) (zs.getD (i + 1) 0) t s ∧ NumA s r ok) ∨ (legB xs ys zs t = false ∧ r = 0 ∧ ok = false)
theorem AtV.same {R : Nat → Nat → Nat → Nat → Nat → Nat → Nat → Nat → Prop} (hR : ∀ {a b c d e f t r r'}, R a b c d e f t r → R a b c d e f t r' → FSame .f32 r r') {xs ys zs : List Nat} {t r r' : Nat} {ok ok' : Bool} (h : AtV R xs ys zs t r ok) (h' : AtV R xs ys zs t r' ok') : FSame .f32 r r' ∧ ok = ok' := by
  rcases h with ⟨h1, i, s, h2, h3, h4⟩ | ⟨h1, h2, h3⟩ <;> rcases h' with ⟨g1, j, u, g2, g3, g4⟩ | ⟨g1, g2, g3⟩
  · have := LegI.same h2 g2
    subst this
    exact NumA.same (hR h3 g3) h4 g4
  · rw [h1] at g1; cases g1
  · rw [h1] at g1; cases g1
  · exact ⟨.inl (by rw [h2, g2]), by rw [h3, g3]⟩

set_option maxRecDepth 100000 in
set_option maxHeartbeats 8000000 in
theorem bentAt_calls (A B D : Option Addr) (xs ys zs : List Nat) (t : Nat) (w : World) (hn : xs.length ≤ 1048576) (hn' : ys.length ≤ 1048576) (hA : RdF w A xs) (hB : RdF w B ys) (hD : RdF w D zs) :
    Calls Try.prog 31 #[.slice A xs.length xs.length, .slice B ys.length ys.length, .slice D zs.length zs.length, .float .f32 t] w fun e w' => ∃ r ok, e = .returned (.tuple #[.float .f32 r, .bool ok]) ∧ AtV BentR xs ys zs t r ok ∧ Below w.heap.size w w' := by
  cases hh : legB xs ys zs t
  · have HC := Frame.hid (graphLeg_no A B D xs ys zs t w hn hn' hA hB hD hh)
    have HH := Frame.hid hh
    clear hh hA hB hD
    generalize hX : Value.slice A xs.length xs.length = X at *
    generalize hY : Value.slice B ys.length ys.length = Y at *
    generalize hZ : Value.slice D zs.length zs.length = Z at *
    clear hX hY hZ
    go_enter Try.func31, Try.ntmps31
    go_wp2_with fail
    refine HC.out.mono ?_
    rintro e w' ⟨rfl, hB1⟩
    have HB1 := Frame.hid hB1
    clear hB1
    go_wp2_with fail
    go_ret2
    exact ⟨_, _, rfl, .inr ⟨HH.out, rfl, rfl⟩, HB1.out.alloc HB1.out.size _⟩
  · obtain ⟨hg, hl, hf, hp⟩ := legB_of hh
    obtain ⟨h2, h48, hy, hfx⟩ := graphB_of hg
    obtain ⟨b, off, rfl, hb, hc⟩ := hA (by omega)
    obtain ⟨b', off', rfl, hb', hc'⟩ := hB (by omega)
    obtain ⟨b2, off2, rfl, hb2, hc2⟩ := hD (by omega)
    have HC := Frame.hid (graphLeg_e b off b' off' b2 off2 xs ys zs t w hA hB hD hg hl hf hp)
    have HH := Frame.hid hh
    have H1 := Frame.hid hc
    have H2 := Frame.hid hc'
    have H3 := Frame.hid hc2
    have HL := Frame.hid (And.intro hl hy)
    have hN : ∀ {k : Nat}, LegI xs t k → k + 1 < xs.length := fun h => h.1
    clear hh hA hB hD hc hc' hc2 hg hf hp hfx hl hy
    generalize xs.length = N at *
    generalize ys.length = M at *
    generalize zs.length = K at *
    go_enter Try.func31, Try.ntmps31
    go_wp2_with fail
    refine HC.out.mono ?_
    rintro e w' ⟨k, hk, rfl, hB1⟩
    have hkN : k + 1 < N := hN hk
    have c0 := (hB1.cell (p := ⟨b, off + k, none⟩) hb).trans (H1.out k (by omega))
    have c1 := (hB1.cell (p := ⟨b, off + (k + 1), none⟩) hb).trans (H1.out (k + 1) (by omega))
    have c2 := (hB1.cell (p := ⟨b', off' + k, none⟩) hb').trans (H2.out k (by have := HL.out; omega))
    have c3 := (hB1.cell (p := ⟨b', off' + (k + 1), none⟩) hb').trans (H2.out (k + 1) (by have := HL.out; omega))
    have c4 := (hB1.cell (p := ⟨b2, off2 + k, none⟩) hb2).trans (H3.out k (by have := HL.out; omega))
    have c5 := (hB1.cell (p := ⟨b2, off2 + (k + 1), none⟩) hb2).trans (H3.out (k + 1) (by have := HL.out; omega))
    rw [← Nat.add_assoc] at c1 c3 c5
    have HK := Frame.hid hk
    have HB1 := Frame.hid hB1
    have l0 : b < w'.heap.size := Nat.lt_of_lt_of_le hb hB1.size
    have l1 : b' < w'.heap.size := Nat.lt_of_lt_of_le hb' hB1.size
    have l2 : b2 < w'.heap.size := Nat.lt_of_lt_of_le hb2 hB1.size
    clear hk hB1 HC H1 H2 H3 HL hN
    generalize hx0 : xs.getD k 0 = x0 at *
    generalize hx1 : xs.getD (k + 1) 0 = x1 at *
    generalize hy0 : ys.getD k 0 = y0 at *
    generalize hy1 : ys.getD (k + 1) 0 = y1 at *
    generalize hz0 : zs.getD k 0 = z0 at *
    generalize hz1 : zs.getD (k + 1) 0 = z1 at *
    have HE := Frame.hid (And.intro hx0 (And.intro hx1 (And.intro hy0 (And.intro hy1 (And.intro hz0 hz1)))))
    clear hx0 hx1 hy0 hy1 hz0 hz1
    go_wp2_with fail
    generalize hWd : w'.alloc (.cells #[.slice (some ⟨b, off + k, none⟩) 2 2, .slice (some ⟨b', off' + k, none⟩) 2 2, .slice (some ⟨b2, off2 + k, none⟩) 2 2] 89) = wA
    have sz0 : w'.heap.size < wA.heap.size := by rw [← hWd]; simp
    have s0 : wA.cell? ⟨w'.heap.size, 0, none⟩ = some (.slice (some ⟨b, off + k, none⟩) 2 2) := by rw [← hWd]; simp [go_sem]
    have s1 : wA.cell? ⟨w'.heap.size, 1, none⟩ = some (.slice (some ⟨b', off' + k, none⟩) 2 2) := by rw [← hWd]; simp [go_sem]
    have s2 : wA.cell? ⟨w'.heap.size, 2, none⟩ = some (.slice (some ⟨b2, off2 + k, none⟩) 2 2) := by rw [← hWd]; simp [go_sem]
    have hBA : Below w'.heap.size w' wA := by rw [← hWd]; exact (Below.refl _ _).alloc (Nat.le_refl _) _
    replace c0 := (hBA.cell (p := ⟨b, off + k, none⟩) l0).trans c0
    replace c1 := (hBA.cell (p := ⟨b, off + k + 1, none⟩) l0).trans c1
    replace c2 := (hBA.cell (p := ⟨b', off' + k, none⟩) l1).trans c2
    replace c3 := (hBA.cell (p := ⟨b', off' + k + 1, none⟩) l1).trans c3
    replace c4 := (hBA.cell (p := ⟨b2, off2 + k, none⟩) l2).trans c4
    replace c5 := (hBA.cell (p := ⟨b2, off2 + k + 1, none⟩) l2).trans c5
    have HBA := Frame.hid (HB1.out.trans (hBA.mono HB1.out.size))
    clear hBA hWd l0 l1 l2 sz0 HB1
    (refine region_lex (by kernel_rfl) (by kernel_rfl) ?_; (repeat (first | (refine rLex_arith rfl _ _ _ _ _ rfl rfl _ _ _ rfl rfl ?_; intro r hr; simp only [Act.put, List.setIfInBounds_toArray, List.set_cons_zero, List.set_cons_succ]) | (refine rLex_one rfl ?_; (first | go_big_quiet_skip | (go_big_quiet_want; go_big_quiet_op; go_big_quiet_on)); refine wpQuiet_nil ?_))); refine rLex_nil ?_; intro nq)
    have E1 := Frame.hid hr
    clear hr
    go_wp2_with fail
    (refine region_lex (by kernel_rfl) (by kernel_rfl) ?_; (repeat (first | (refine rLex_arith rfl _ _ _ _ _ rfl rfl _ _ _ rfl rfl ?_; intro r hr; simp only [Act.put, List.setIfInBounds_toArray, List.set_cons_zero, List.set_cons_succ]) | (refine rLex_one rfl ?_; (first | go_big_quiet_skip | (go_big_quiet_want; go_big_quiet_op; go_big_quiet_on)); refine wpQuiet_nil ?_))); refine rLex_nil ?_; intro nq)
    rename_i p1 e1 p2 e2 p3 e3
    have E2 := Frame.hid (And.intro e1 (And.intro e2 (And.intro e3 hr)))
    clear e1 e2 e3 hr
    go_wp2_with fail
    (refine region_lex (by kernel_rfl) (by kernel_rfl) ?_; (repeat (first | (refine rLex_arith rfl _ _ _ _ _ rfl rfl _ _ _ rfl rfl ?_; intro r hr; simp only [Act.put, List.setIfInBounds_toArray, List.set_cons_zero, List.set_cons_succ]) | (refine rLex_one rfl ?_; (first | go_big_quiet_skip | (go_big_quiet_want; go_big_quiet_op; go_big_quiet_on)); refine wpQuiet_nil ?_))); refine rLex_nil ?_; intro nq)
    rename_i p1 e1 p2 e2
    have E3 := Frame.hid (And.intro e1 (And.intro e2 hr))
    clear e1 e2 hr
    go_wp2_with fail
    (refine region_lex (by kernel_rfl) (by kernel_rfl) ?_; (repeat (first | (refine rLex_arith rfl _ _ _ _ _ rfl rfl _ _ _ rfl rfl ?_; intro r hr; simp only [Act.put, List.setIfInBounds_toArray, List.set_cons_zero, List.set_cons_succ]) | (refine rLex_one rfl ?_; (first | go_big_quiet_skip | (go_big_quiet_want; go_big_quiet_op; go_big_quiet_on)); refine wpQuiet_nil ?_))); refine rLex_nil ?_; intro nq)
    rename_i p1 e1 p2 e2 p3 e3 p4 e4 p5 e5 p6 e6 p7 e7 p8 e8
    have E4 := Frame.hid (And.intro (And.intro e1 (And.intro e2 (And.intro e3 e4))) (And.intro (And.intro e5 (And.intro e6 (And.intro e7 e8))) hr))
    clear e1 e2 e3 e4 e5 e6 e7 e8 hr
    clear c0 c1 c2 c3 c4 c5 s0 s1 s2
    go_wp2_with (first | (refine wpList_arith rfl _ _ _ _ _ rfl rfl _ _ _ rfl rfl ?_; intro r n hr hl) | (go_at_call 59; refine (numA_calls _ _).mono ?_; rintro e w2 ⟨r, ok, rfl, hnn, n, rfl⟩))
    rename_i m1 n1 g1 l1 m2 n2 g2 l2 m3 n3 g3 l3 m4 n4
    go_ret2
    obtain ⟨rfl, rfl, rfl, rfl, rfl, rfl⟩ := HE.out
    obtain ⟨f1, f2, f3, f4⟩ := E2.out
    obtain ⟨u1, u2, u3⟩ := E3.out
    obtain ⟨⟨v1, v2, v3, v4⟩, ⟨y1, y2, y3, y4⟩, y5⟩ := E4.out
    refine ⟨_, _, rfl, .inl ⟨HH.out, k, _, HK.out, ?_, hnn⟩, below_drewN HBA.out _⟩
    exact ⟨_, _, _, ⟨E1.out, ⟨_, f1, f2⟩, ⟨_, f3, f4⟩⟩, _, _, ⟨_, _, _, v1, v2, v3, v4⟩, ⟨_, _, _, y1, y2, y3, y4⟩, _, _, _, u1, u2, u3, _, _, _, _, y5, g1, g2, g3, hr⟩

/-- What is asked ahead of the place. -/
def tellB (xs ys zs : List Nat) : Bool := graphB xs ys && decide (zs.length = xs.length) && finL zs
theorem legB_tell {xs ys zs : List Nat} {t : Nat} : legB xs ys zs t = (tellB xs ys zs && placeB xs t) := rfl
theorem l05Graph_say {xs ys : List Nat} {A B : Option Addr} {c d : Nat} {r : Bool} (hr : graphB xs ys = r) (hn : xs.length ≤ 1048576) (hn' : ys.length ≤ 1048576) (w : World) (hA : RdF w A xs) (hB : RdF w B ys) :
    Calls Try.prog 53 #[.slice A xs.length c, .slice B ys.length d] w fun e w' => e = .returned (.bool r) ∧ ∃ m, w' = w.drewN m := by
  have h := l05Graph_calls A B xs ys c d w hn hn' hA hB
  rw [hr] at h
  exact h
theorem l02Fin_say {xs : List Nat} {A : Option Addr} {c : Nat} {r : Bool} (hr : finL xs = r) (hn : xs.length ≤ 1048576) (w : World) (hA : RdF w A xs) (k : Nat) :
    Calls Try.prog 61 #[.slice A xs.length c] (w.drewN k) fun e w' => e = .returned (.bool r) ∧ ∃ m, w' = (w.drewN k).drewN m := by
  have h := l02Fin_calls A xs c (w.drewN k) hn (hA.drewN k)
  rw [hr] at h
  exact h

set_option maxRecDepth 100000 in
set_option maxHeartbeats 8000000 in
theorem specBentAt_no (A B D : Option Addr) (xs ys zs : List Nat) (t : Nat) (w : World) (hn : xs.length ≤ 1048576) (hn' : ys.length ≤ 1048576) (hn2 : zs.length ≤ 1048576) (hA : RdF w A xs) (hB : RdF w B ys) (hD : RdF w D zs) (hh : legB xs ys zs t = false) :
    Calls Try.prog 30 #[.slice A xs.length xs.length, .slice B ys.length ys.length, .slice D zs.length zs.length, .float .f32 t] w fun e w' => e = .returned (.tuple #[.float .f32 0, .bool false]) ∧ ∃ m, w' = w.drewN m := by
  cases hg : graphB xs ys
  · have HC := Frame.hid (l05Graph_say (c := xs.length) (d := ys.length) hg hn hn' w hA hB)
    clear hg hA hB hD hh
    generalize xs.length = N at *
    generalize ys.length = M at *
    generalize zs.length = K at *
    go_enter Try.func30, Try.ntmps30
    go_wp2_with fail
    refine HC.out.mono ?_
    rintro e w' ⟨rfl, m, rfl⟩
    go_wp2_with fail
    go_ret2
    exact ⟨rfl, _, rfl⟩
  have HC := Frame.hid (l05Graph_say (c := xs.length) (d := ys.length) hg hn hn' w hA hB)
  by_cases hl : zs.length = xs.length
  · cases hf : finL zs
    · have HF := Frame.hid (l02Fin_say (c := zs.length) hf hn2 w hD)
      rw [hl] at HF ⊢
      clear hg hA hB hD hh hf hl hn2
      generalize xs.length = N at *
      generalize ys.length = M at *
      go_enter Try.func30, Try.ntmps30
      go_wp2_with fail
      refine HC.out.mono ?_
      rintro e w' ⟨rfl, m, rfl⟩
      go_wp2_with fail
      refine (HF.out m).mono ?_
      rintro e w' ⟨rfl, m2, rfl⟩
      go_wp2_with fail
      go_ret2
      exact ⟨rfl, _, rfl⟩
    · have hp : placeB xs t = false := by unfold legB at hh; rw [hg, hf] at hh; simpa [hl] using hh
      obtain ⟨h2, h48, hy, hfx⟩ := graphB_of hg
      have HF := Frame.hid (l02Fin_say (c := zs.length) hf hn2 w hD)
      have HP := Frame.hid (fun k => l05Find_no A xs xs.length t (w.drewN k) h2 h48 (hA.drewN k) hp)
      rw [hl] at HF ⊢
      clear hg hA hB hD hh hf hl hn2 hp hy hfx
      generalize xs.length = N at *
      generalize ys.length = M at *
      go_enter Try.func30, Try.ntmps30
      go_wp2_with fail
      refine HC.out.mono ?_
      rintro e w' ⟨rfl, m, rfl⟩
      go_wp2_with fail
      refine (HF.out m).mono ?_
      rintro e w' ⟨rfl, m2, rfl⟩
      go_wp2_with fail
      refine (HP.out _).mono ?_
      rintro e w' ⟨rfl, rfl⟩
      go_wp2_with fail
      go_ret2
      exact ⟨rfl, _, rfl⟩
  · generalize xs.length = N at *
    generalize ys.length = M at *
    generalize zs.length = K at *
    have hb1 : ((K : Int) == (N : Int)) = false := by rw [beq_eq_false_iff_ne]; omega
    have hb2 : ((K : Int) != (N : Int)) = true := by rw [bne_iff_ne]; omega
    clear hg hA hB hD hh hl
    go_enter Try.func30, Try.ntmps30
    go_wp2_with fail
    refine HC.out.mono ?_
    rintro e w' ⟨rfl, m, rfl⟩
    go_wp2_with fail
    go_ret2
    exact ⟨rfl, _, rfl⟩

end Go.Proofs.Ytbikiihcbocojab
