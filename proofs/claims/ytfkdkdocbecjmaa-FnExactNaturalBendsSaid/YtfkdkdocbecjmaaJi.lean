/-
  IsGraph, its loop over the legs; the law.
-/
import Derived.Test.YtfkdkdocbecjmaaJh
import Derived.Test.YtfkdkdocbecjmaaJr
import Derived.Test.YtfkdkdocbecjmaaOp
namespace Go.Proofs.Ytfkdkdocbecjmaa
open Go.RowKit Go.Shelf Fl Ieee
attribute [local go_sem] Oper.semAt_some

theorem boxed_set {W : World} {B B' i : Nat} {t : TypeId} {v : Value} (h : Boxed W B t v) (hne : B ≠ B') (u : Value) : Boxed (W.setCell ⟨B', i, none⟩ u) B t v := by
  unfold Boxed
  rw [Below.heap_setCell _ _ _ _ (by simpa using hne)]
  exact h
theorem keeps_drewN (W : World) (k : Nat) : KeepsOthers W (W.drewN k) := ⟨Nat.le_refl _, fun _ _ h _ => h⟩
theorem two_here (W : World) (a b : Value) (t : TypeId) : (W.alloc (.cells #[a, b] t)).cell? ⟨W.heap.size, 0, none⟩ = some a ∧ (W.alloc (.cells #[a, b] t)).cell? ⟨W.heap.size, 1, none⟩ = some b := by
  constructor <;> simp [go_sem]

set_option maxRecDepth 100000 in
set_option maxHeartbeats 4000000 in
theorem isGraph_yes (A B : Option Addr) (xs ys : List Nat) (c d : Nat) (w : World) (hn : xs.length ≤ 1048576) (hn' : ys.length ≤ 1048576) (hA : RdF w A xs) (hB : RdF w B ys) (hh : headB xs ys = true) :
    Calls Try.prog 53 #[.slice A xs.length c, .slice B ys.length d] w fun e w' => e = .returned (.bool (incB xs)) ∧ Below w.heap.size w w' := by
  have HCA := Frame.hid (fun W (hW : Below w.heap.size w W) => areFin_calls A xs c W hn (hA.below hW))
  have HCB := Frame.hid (fun W (hW : Below w.heap.size w W) => areFin_calls B ys d W hn' (hB.below hW))
  obtain ⟨h1, h2, h3, hx, hy⟩ := headB_of hh
  rw [h3] at HCB ⊢
  obtain ⟨b, off, rfl, hb, hc⟩ := hA (by omega)
  have HX := Frame.hid hx
  have HY := Frame.hid hy
  have HCC := Frame.hid hc
  obtain ⟨m0, hm0⟩ : ∃ m0, m0 + 1 = xs.length := ⟨xs.length - 1, by omega⟩
  have HM := Frame.hid hm0
  rw [← hm0] at HCA HCB h1 h2 hn ⊢
  clear hh hB hA hx hy h3 hn' hc hm0
  refine (callsIn_wide (n := 9)).1 ?_
  refine callsIn_of_wp_marks Try.func53 rfl trivial ?_
  simp only [Try.ntmps53, List.size_toArray, List.length_cons, List.length_nil, Nat.reduceAdd, Nat.reduceSub, Array.replicate_succ, Array.replicate_zero, List.push_toArray, List.append_toArray, List.nil_append, List.cons_append]
  have hz1 : decide ((m0 : Int) + 1 < 2) = false := by rw [decide_eq_false_iff_not]; omega
  have hz2 : decide (48 < (m0 : Int) + 1) = false := by rw [decide_eq_false_iff_not]; omega
  gi_wp2_with (first | (refine ⟨trivial, ?_⟩; gi_at_call 83; (first | (with_reducible refine (callsIn_wide.2 (HCA.out _ (by (apply jbel_of; (repeat (first | apply jbelow_dn | apply jbelow_al | (refine jbelow_sc (by first | (simp; done) | (simp; omega) | omega) ?_ _))); exact jbelow_st _)))).mono ?_; rintro e w' ⟨rfl, m, rfl⟩; rw [HX.out]) | (with_reducible refine (callsIn_wide.2 (HCB.out _ (by (apply jbel_of; (repeat (first | apply jbelow_dn | apply jbelow_al | (refine jbelow_sc (by first | (simp; done) | (simp; omega) | omega) ?_ _))); exact jbelow_st _)))).mono ?_; rintro e w' ⟨rfl, m', rfl⟩; rw [HY.out]))) | (refine ⟨trivial, ?_⟩; gi_at_call 84; refine (legs_in Fence.wide 8 trivial rfl _ _).mono ?_; rintro e w' ⟨rfl, rfl⟩))
  clear hz1 hz2
  have bX : Boxed ((((w.alloc (.cells #[.slice (some ⟨b, off, none⟩) (m0 + 1) c] 44)).alloc (.cells #[.bool false] 4)).drewN (m + m')).alloc (.cells #[.int .i64 ((m0 : Int) + 1)] 3)) w.heap.size 44 (.slice (some ⟨b, off, none⟩) (m0 + 1) c) :=
    Boxed.alloc (W := ((w.alloc _).alloc _).drewN _) ((Boxed.new w _ _).alloc _) _
  have bR : Boxed ((((w.alloc (.cells #[.slice (some ⟨b, off, none⟩) (m0 + 1) c] 44)).alloc (.cells #[.bool false] 4)).drewN (m + m')).alloc (.cells #[.int .i64 ((m0 : Int) + 1)] 3)) (w.heap.size + 1) 4 (.bool false) := by
    have h := Boxed.new (w.alloc (.cells #[.slice (some ⟨b, off, none⟩) (m0 + 1) c] 44)) 4 (.bool false)
    rw [World.size_alloc] at h
    exact Boxed.alloc (W := ((w.alloc _).alloc _).drewN _) h _
  have bN : ((((w.alloc (.cells #[.slice (some ⟨b, off, none⟩) (m0 + 1) c] 44)).alloc (.cells #[.bool false] 4)).drewN (m + m')).alloc (.cells #[.int .i64 ((m0 : Int) + 1)] 3)).cell? ⟨w.heap.size + 1 + 1, 0, none⟩ = some (.int .i64 ((m0 : Int) + 1)) := by
    have h := (Boxed.new (((w.alloc (.cells #[.slice (some ⟨b, off, none⟩) (m0 + 1) c] 44)).alloc (.cells #[.bool false] 4)).drewN (m + m')) 3 (.int .i64 ((m0 : Int) + 1))).cell
    have e : (((w.alloc (.cells #[.slice (some ⟨b, off, none⟩) (m0 + 1) c] 44)).alloc (.cells #[.bool false] 4)).drewN (m + m')).heap.size = w.heap.size + 1 + 1 := by simp
    rw [e] at h
    exact h
  have hB0 : Below w.heap.size w ((((w.alloc (.cells #[.slice (some ⟨b, off, none⟩) (m0 + 1) c] 44)).alloc (.cells #[.bool false] 4)).drewN (m + m')).alloc (.cells #[.int .i64 ((m0 : Int) + 1)] 3)) := by (apply jbel_of; (repeat (first | apply jbelow_dn | apply jbelow_al | (refine jbelow_sc (by first | (simp; done) | (simp; omega) | omega) ?_ _))); exact jbelow_st _)
  have hsz : ((((w.alloc (.cells #[.slice (some ⟨b, off, none⟩) (m0 + 1) c] 44)).alloc (.cells #[.bool false] 4)).drewN (m + m')).alloc (.cells #[.int .i64 ((m0 : Int) + 1)] 3)).heap.size = w.heap.size + 3 := by simp
  obtain ⟨W0, hW0⟩ : ∃ W0, ((((w.alloc (.cells #[.slice (some ⟨b, off, none⟩) (m0 + 1) c] 44)).alloc (.cells #[.bool false] 4)).drewN (m + m')).alloc (.cells #[.int .i64 ((m0 : Int) + 1)] 3)) = W0 := ⟨_, rfl⟩
  rw [hW0] at bX bR bN hB0 hsz ⊢
  clear hW0
  have hcx : ∀ W, Below w.heap.size w W → ∀ j, j < m0 + 1 → W.cell? ⟨b, off + j, none⟩ = some (.float .f32 (xs.getD j 0)) := fun W hW j hj => (hW.cell (p := ⟨b, off + j, none⟩) hb).trans (HCC.out j (by have := HM.out; omega))
  refine wpIn_rangeFunc_ownH rfl (by omega) (gf := 96) (lb := #[.pointer (some ⟨w.heap.size + 1 + 1, 0, none⟩)]) rfl trivial (enters_of Try.func96 (by kernel_rfl) rfl)
    (legs_stops Fence.wide 8 trivial rfl (by omega) (w.heap.size + 1 + 1) m0 (by omega) W0 (by omega) bN) (fun _ _ => trivial) (fun _ _ _ _ _ _ _ _ => trivial) (Below.refl _ _) (fun _ => rfl)
    (fun pre W => ((∀ i ∈ pre, leqF (xs.getD (i.val + 1) 0) (xs.getD i.val 0) = false) ∧ Boxed W w.heap.size 44 (.slice (some ⟨b, off, none⟩) (m0 + 1) c) ∧ Boxed W (w.heap.size + 1) 4 (.bool false)) ∧ Below w.heap.size w W)
    (fun cd pre W => ((cd = .ret ∧ ∃ i ∈ pre, leqF (xs.getD (i.val + 1) 0) (xs.getD i.val 0) = true) ∧ Boxed W (w.heap.size + 1) 4 (.bool false)) ∧ Below w.heap.size w W)
    (OwnFrom.and (OwnFrom.and (ownFrom_pure _ _) (OwnFrom.and (Own.from (boxed_own _ _ _) _) (Own.from (boxed_own _ _ _) _))) (ownFrom_below (Nat.le_refl _) (by omega)))
    (fun cd => OwnFrom.and (OwnFrom.and (ownFrom_pure _ _) (Own.from (boxed_own _ _ _) _)) (ownFrom_below (Nat.le_refl _) (by omega)))
    ⟨⟨fun i hi => (by cases hi), bX, bR⟩, hB0⟩
    (fun x a' W => ∃ Bx, w.heap.size + 1 < Bx ∧ (W.cell? ⟨Bx, 0, none⟩ = some (.int .i64 (x.val : Int)) ∧ W.cell? ⟨Bx, 1, none⟩ = some (.int .i64 ((x.val : Int) + 1))) ∧ a' = { tmps := #[.slice (some ⟨b, off, none⟩) (m0 + 1) c, .slice B (m0 + 1) d, .pointer (some ⟨w.heap.size, 0, none⟩), undef, .pointer (some ⟨w.heap.size + 1, 0, none⟩), .pointer (some ⟨Bx, 0, none⟩), .slice (some ⟨b, off, none⟩) (m0 + 1) c, .int .i64 ((m0 : Int) + 1), .bool false, .bool false, .slice (some ⟨b, off, none⟩) (m0 + 1) c, .int .i64 ((m0 : Int) + 1), .bool false, .bool false, .bool false, .slice B (m0 + 1) d, .int .i64 ((m0 : Int) + 1), .slice (some ⟨b, off, none⟩) (m0 + 1) c, .int .i64 ((m0 : Int) + 1), .bool false, .bool false, .bool false, .slice (some ⟨b, off, none⟩) (m0 + 1) c, .bool true, .bool false, .bool false, .bool false, .slice B (m0 + 1) d, .bool true, .bool false, .bool false, .slice (some ⟨b, off, none⟩) (m0 + 1) c, .int .i64 ((m0 : Int) + 1), .func (.func 96) #[] #[.pointer (some ⟨w.heap.size + 1 + 1, 0, none⟩)], .agg #[.int .i64 (x.val : Int), .int .i64 ((x.val : Int) + 1)], undef, undef, undef, undef, undef, undef, undef, undef, undef, undef, undef], defers := [] })
    (fun x a' _ X Y row hs hg hr => by obtain ⟨Bx, h1, ⟨h2, h2'⟩, h3⟩ := hs; exact ⟨Bx, h1, ⟨cell_kept h2 hg (fun r e => (hr r e).2), cell_kept h2' hg (fun r e => (hr r e).2)⟩, h3⟩)
    ?assign ?body ?done ?stop
  case assign =>
    rintro l pre x W K ⟨⟨hP, bX1, bR1⟩, hB1⟩ hK
    dsimp only [encLeg]
    gi_wp2
    have n1 : w.heap.size < W.heap.size := bX1.lt
    have n2 : w.heap.size + 1 < W.heap.size := bR1.lt
    exact hK _ _ ((KeepsOthers.alloc _ _).from _) trivial ⟨⟨hP, bX1.alloc _, bR1.alloc _⟩, hB1.alloc hB1.size _⟩ ⟨W.heap.size, n2, two_here _ _ _ _, rfl⟩
  case body =>
    rintro l pre x a' W hl ⟨r, hr⟩ ⟨⟨hP, bX1, bR1⟩, hB1⟩ ⟨Bx, hBx, ⟨hx0, hx1⟩, rfl⟩ hlt
    have hxm : x.val < m0 := x.isLt
    have c0 := hcx W hB1 x.val (by omega)
    have c1 := hcx W hB1 (x.val + 1) (by omega)
    have cX := bX1.cell
    have p0 : (0 : Int) ≤ (x.val : Int) := by omega
    have p1 : (x.val : Int) < (m0 : Int) + 1 := by omega
    have q0 : ¬ ((x.val : Int) + 1 < 0) := by omega
    have q1 : (0 : Int) ≤ (x.val : Int) + 1 := by omega
    have q2 : ((x.val : Int) + 1).toNat = x.val + 1 := by omega
    have q4 : (x.val : Int) + 1 < (m0 : Int) + 1 := by omega
    cases hq : leqF (xs.getD (x.val + 1) 0) (xs.getD x.val 0)
    · have HQ := Frame.hid hq
      unfold leqF at hq
      clear hcx
      generalize xs.getD x.val 0 = y0 at c0 hq
      generalize xs.getD (x.val + 1) 0 = y1 at c1 hq
      gi_wp2
      (refine jq_region (by kernel_rfl) (by kernel_rfl) ?_; (repeat (gi_big_quiet_step (fail))); refine wpQuietIn_nil ?_; intro _ hw'; obtain ⟨nq, hw''⟩ := hw'; subst hw'')
      gi_wp2
      exact ⟨(keeps_drewN _ _).from _, trivial, ⟨fun i hi => (List.mem_append.1 hi).elim (hP i) (fun e => by rw [List.mem_singleton.1 e]; exact HQ.out), bX1, bR1⟩, below_drewN hB1 _⟩
    · have HQ := Frame.hid hq
      unfold leqF at hq
      clear hcx
      generalize xs.getD x.val 0 = y0 at c0 hq
      generalize xs.getD (x.val + 1) 0 = y1 at c1 hq
      have cR := bR1.cell
      have fR := bR1.frozen
      gi_wp2
      (refine jq_region (by kernel_rfl) (by kernel_rfl) ?_; (repeat (gi_big_quiet_step (fail))); refine wpQuietIn_nil ?_; intro _ hw'; obtain ⟨nq, hw''⟩ := hw'; subst hw'')
      gi_wp2
      exact ⟨((keeps_drewN _ _).trans (KeepsOthers.setCell _ _ _)).from _, ⟨⟨rfl, x, List.mem_append.2 (.inr (by simp)), HQ.out⟩, Boxed.set _ bR1⟩, (below_drewN hB1 _).setCell (p := ⟨w.heap.size + 1, 0, none⟩) (by simp) _⟩
  case done =>
    rintro D ys W hD rfl ⟨⟨hP, bX1, bR1⟩, hB1⟩ hK
    have HI := Frame.hid (incB_upto (xs := xs) (fun i hi => hP ⟨i, by have := HM.out; omega⟩ (List.mem_finRange _)))
    have cR := bR1.cell
    have fR := bR1.frozen
    gi_wp2
    have hK' := (KeepsOthers.setCell W ⟨w.heap.size + 1, 0, none⟩ (.bool true)).same D _ hK rfl
    refine ⟨by simp, .inl ⟨_, _, rfl, run_takeDeferred hK', ?_⟩⟩
    have hc5 := cell_kept (Boxed.set (.bool true) bR1).cell (grownBy_putObj' _ D (.deferred none)) (fun r e => by cases e; exact ⟨_, hK', rfl⟩)
    refine ⟨.bool true, by simp [results, Try.f53, go_sem, hc5], by rw [HI.out], (hB1.setCell (p := ⟨w.heap.size + 1, 0, none⟩) (by simp) _).trans (belowK_b (w := w) (Nat.le_refl _) _ D _ _ (by omega) hK' rfl rfl)⟩
  case stop =>
    rintro D cd pre W hD hpre ⟨⟨⟨rfl, i, hi, hP⟩, bR1⟩, hB1⟩ hK
    have HI := Frame.hid (incB_bad (xs := xs) (by have := HM.out; have := i.isLt; omega) hP)
    gi_wp2
    refine ⟨by simp, .inl ⟨_, _, rfl, run_takeDeferred hK, ?_⟩⟩
    have hc5 := cell_kept bR1.cell (grownBy_putObj' _ D (.deferred none)) (fun r e => by cases e; exact ⟨_, hK, rfl⟩)
    refine ⟨.bool false, by simp [results, Try.f53, go_sem, hc5], by rw [HI.out], hB1.trans (belowK_b (w := w) (Nat.le_refl _) W D _ _ (by omega) hK rfl rfl)⟩

theorem isGraph_calls (A B : Option Addr) (xs ys : List Nat) (c d : Nat) (w : World) (hn : xs.length ≤ 1048576) (hn' : ys.length ≤ 1048576) (hA : RdF w A xs) (hB : RdF w B ys) :
    Calls Try.prog 53 #[.slice A xs.length c, .slice B ys.length d] w fun e w' => e = .returned (.bool (graphB xs ys)) ∧ Below w.heap.size w w' := by
  cases hh : headB xs ys
  · rw [graphB_head hh]
    exact isGraph_no A B xs ys c d w hn hn' hA hB hh
  · rw [graphB_inc hh]
    exact isGraph_yes A B xs ys c d w hn hn' hA hB hh

end Go.Proofs.Ytfkdkdocbecjmaa
