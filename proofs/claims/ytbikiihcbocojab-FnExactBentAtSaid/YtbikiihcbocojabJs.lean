/-
  BentAt: the specification's answer; the law.
-/
import Derived.Test.YtbikiihcbocojabJq
import Derived.Test.YtbikiihcbocojabOp
namespace Go.Proofs.Ytbikiihcbocojab
open Go.RowKit Fl Ieee

set_option maxRecDepth 100000 in
set_option maxHeartbeats 8000000 in
theorem specBentAt_yes (A B D : Option Addr) (xs ys zs : List Nat) (t : Nat) (w : World) (hn : xs.length ≤ 1048576) (hn' : ys.length ≤ 1048576) (hn2 : zs.length ≤ 1048576) (hA : RdF w A xs) (hB : RdF w B ys) (hD : RdF w D zs) (hh : legB xs ys zs t = true) :
    Calls Try.prog 30 #[.slice A xs.length xs.length, .slice B ys.length ys.length, .slice D zs.length zs.length, .float .f32 t] w fun e w' => ∃ r ok, e = .returned (.tuple #[.float .f32 r, .bool ok]) ∧ AtV BentR xs ys zs t r ok ∧ ∃ m, w' = w.drewN m := by
  obtain ⟨hg, hl, hf, hp⟩ := legB_of hh
  obtain ⟨h2, h48, hy, hfx⟩ := graphB_of hg
  have HC := Frame.hid (l05Graph_say (c := xs.length) (d := ys.length) hg hn hn' w hA hB)
  have HF := Frame.hid (l02Fin_say (c := zs.length) hf hn2 w hD)
  have HP := Frame.hid (fun k => l05Find_yes A xs xs.length t (w.drewN k) h2 h48 hfx (hA.drewN k) hp)
  obtain ⟨b, off, rfl, hb, hc⟩ := hA (by omega)
  obtain ⟨b', off', rfl, hb', hc'⟩ := hB (by omega)
  obtain ⟨b2, off2, rfl, hb2, hc2⟩ := hD (by omega)
  have HH := Frame.hid hh
  have H1 := Frame.hid hc
  have H2 := Frame.hid hc'
  have H3 := Frame.hid hc2
  have HL := Frame.hid (And.intro hl hy)
  have hN : ∀ {k : Nat}, LegI xs t k → k + 1 < xs.length := fun h => h.1
  rw [hl] at HF ⊢
  rw [hy] at HC ⊢
  clear hh hA hB hD hc hc' hc2 hg hf hp hfx hn2 hl hy hn'
  generalize xs.length = N at *
  go_enter Try.func30, Try.ntmps30
  go_wp2_with fail
  refine HC.out.mono ?_
  rintro e w' ⟨rfl, m, rfl⟩
  go_wp2_with fail
  refine (HF.out m).mono ?_
  rintro e w' ⟨rfl, m2, rfl⟩
  go_wp2_with fail
  refine (HP.out _).mono ?_
  rintro e w' ⟨k, rfl, hk, rfl⟩
  have hkN : k + 1 < N := hN hk
  have c0 := H1.out k (by omega)
  have c1 := H1.out (k + 1) (by omega)
  have c2 := H2.out k (by have := HL.out; omega)
  have c3 := H2.out (k + 1) (by have := HL.out; omega)
  have c4 := H3.out k (by have := HL.out; omega)
  have c5 := H3.out (k + 1) (by have := HL.out; omega)
  have HK := Frame.hid hk
  clear hk HC H1 H2 H3 HL hN HF HP
  generalize hx0 : xs.getD k 0 = x0 at *
  generalize hx1 : xs.getD (k + 1) 0 = x1 at *
  generalize hy0 : ys.getD k 0 = y0 at *
  generalize hy1 : ys.getD (k + 1) 0 = y1 at *
  generalize hz0 : zs.getD k 0 = z0 at *
  generalize hz1 : zs.getD (k + 1) 0 = z1 at *
  have HE := Frame.hid (And.intro hx0 (And.intro hx1 (And.intro hy0 (And.intro hy1 (And.intro hz0 hz1)))))
  clear hx0 hx1 hy0 hy1 hz0 hz1
  have p0 : (0 : Int) ≤ (k : Int) := by omega
  have p1 : (k : Int) < (N : Int) := by omega
  have q0 : ¬ ((k : Int) + 1 < 0) := by omega
  have q1 : (0 : Int) ≤ (k : Int) + 1 := by omega
  have q2 : ((k : Int) + 1).toNat = k + 1 := by omega
  have q3 : IntKind.i64.wrap ((k : Int) + 1) = (k : Int) + 1 := by rw [IntKind.wrap_i64]; omega
  have q4 : (k : Int) + 1 < (N : Int) := by omega
  have q5 : ¬ ((k : Int) < 0) := by omega
  go_wp2_with fail
  (refine region_lex (by kernel_rfl) (by kernel_rfl) ?_; (repeat (first | (refine rLex_arith rfl _ _ _ _ _ rfl rfl _ _ _ rfl rfl ?_; intro r hr; simp only [Act.put, List.setIfInBounds_toArray, List.set_cons_zero, List.set_cons_succ]) | (refine rLex_one rfl ?_; (first | go_big_quiet_skip | (go_big_quiet_want; go_big_quiet_op; go_big_quiet_on)); refine wpQuiet_nil ?_))); refine rLex_nil ?_; intro nq)
  have E1 := Frame.hid hr
  clear hr
  go_wp2_with (refine wpList_arith rfl _ _ _ _ _ rfl rfl _ _ _ rfl rfl ?_; intro r n hr hl)
  rename_i m1 n1 g1 l1 m2 n2 g2 l2 m3 n3 g3 l3 m4 n4 g4 l4 m5 n5 g5 l5 m6 n6 g6 l6 m7 n7 g7 l7 m8 n8 g8 l8 m9 n9 g9 l9 m10 n10 g10 l10 m11 n11 g11 l11 K0 a0
  have E2 := Frame.hid (And.intro (And.intro g1 (And.intro g2 (And.intro g3 g4))) (And.intro (And.intro g5 (And.intro g6 (And.intro g7 g8))) (And.intro g9 (And.intro g10 (And.intro g11 hr)))))
  clear g1 g2 g3 g4 g5 g6 g7 g8 g9 g10 g11 hr
  (refine region_lex (by kernel_rfl) (by kernel_rfl) ?_; (repeat (first | (refine rLex_arith rfl _ _ _ _ _ rfl rfl _ _ _ rfl rfl ?_; intro r hr; simp only [Act.put, List.setIfInBounds_toArray, List.set_cons_zero, List.set_cons_succ]) | (refine rLex_one rfl ?_; (first | go_big_quiet_skip | (go_big_quiet_want; go_big_quiet_op; go_big_quiet_on)); refine wpQuiet_nil ?_))); refine rLex_nil ?_; intro nq)
  rename_i p1 e1 p2 e2
  have E3 := Frame.hid (And.intro e1 (And.intro e2 hr))
  clear e1 e2 hr
  clear c0 c1 c2 c3 c4 c5
  go_wp2_with (first | (refine wpList_arith rfl _ _ _ _ _ rfl rfl _ _ _ rfl rfl ?_; intro r n hr hl) | (go_at_call 57; refine (l02NumA_calls _ _).mono ?_; rintro e w2 ⟨r, ok, rfl, hnn, n, rfl⟩))
  rename_i m1 n1 g1 l1 m2 n2 g2 l2 m3 n3 g3 l3 m4 n4 g4 l4 m5 n5
  go_ret2
  obtain ⟨rfl, rfl, rfl, rfl, rfl, rfl⟩ := HE.out
  obtain ⟨⟨f1, f2, f3, f4⟩, ⟨v1, v2, v3, v4⟩, y1, y2, y3, y4⟩ := E2.out
  obtain ⟨u1, u2, u3⟩ := E3.out
  refine ⟨_, _, rfl, .inl ⟨HH.out, k, _, HK.out, ?_, hnn⟩, _, rfl⟩
  exact ⟨_, _, _, ⟨E1.out, ⟨_, f1, f2⟩, ⟨_, f3, f4⟩⟩, _, _, ⟨_, _, _, v1, v2, v3, v4⟩, ⟨_, _, _, y1, y2, y3, y4⟩, _, _, _, u1, u2, u3, _, _, _, _, g1, g2, g3, g4, hr⟩

theorem specBentAt_calls (A B D : Option Addr) (xs ys zs : List Nat) (t : Nat) (w : World) (hn : xs.length ≤ 1048576) (hn' : ys.length ≤ 1048576) (hn2 : zs.length ≤ 1048576) (hA : RdF w A xs) (hB : RdF w B ys) (hD : RdF w D zs) :
    Calls Try.prog 30 #[.slice A xs.length xs.length, .slice B ys.length ys.length, .slice D zs.length zs.length, .float .f32 t] w fun e w' => ∃ r ok, e = .returned (.tuple #[.float .f32 r, .bool ok]) ∧ AtV BentR xs ys zs t r ok ∧ ∃ m, w' = w.drewN m := by
  cases hh : legB xs ys zs t
  · refine (specBentAt_no A B D xs ys zs t w hn hn' hn2 hA hB hD hh).mono ?_
    rintro e w' ⟨rfl, hm⟩
    exact ⟨_, _, rfl, .inr ⟨hh, rfl, rfl⟩, hm⟩
  · exact specBentAt_yes A B D xs ys zs t w hn hn' hn2 hA hB hD hh

end Go.Proofs.Ytbikiihcbocojab
