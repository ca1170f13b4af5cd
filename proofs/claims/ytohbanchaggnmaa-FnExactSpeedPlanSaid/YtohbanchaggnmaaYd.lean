/-
  SpeedPlan, the program's side.
-/
import Derived.Test.YtohbanchaggnmaaYc
import Derived.Test.YtohbanchaggnmaaBw
import Derived.Test.YtohbanchaggnmaaRz
import Derived.Test.YtohbanchaggnmaaJ0
import Derived.RangeFuncNested
import Derived.RangeFuncWrites
namespace Go.Proofs.Ytohbanchaggnmaa
open Go.RowKit Go.Shelf Fl Ieee Go.WideShapes Go.Deep
attribute [local go_sem] kstore_f kalloc_drewN kset_drewN unary_neg_y Oper.semAt_some

set_option maxRecDepth 100000 in
set_option maxHeartbeats 1000000 in
theorem speedAfter_calls (b rise l : Nat) (w : World) : Calls Try.prog 114 #[.float .f32 b, .float .f32 rise, .float .f32 l] w fun e w' => ∃ r n, e = .returned (.float .f32 r) ∧ AfterR rise b l r ∧ w' = w.drewN n := by
  go_enter Try.func114, Try.ntmps114
  go_wp2_with (first | (refine wpList_arith rfl _ _ _ _ _ rfl rfl _ _ _ rfl rfl ?_; intro r n hr hl) | (go_at_call 119; refine (rootNumber_calls _ _).mono ?_; rintro e w' ⟨q, n, rfl, hq, hql, rfl⟩))
  go_ret
  rename_i r1 n1 k1 l1 r2 n2 k2 l2 r3 n3 k3 l3 n4
  exact ⟨_, _, rfl, ⟨_, _, _, _, k1, k2, k3, hr, hq⟩, rfl⟩

theorem make_f (n : Nat) (hn : n ≤ 1000) (W : World) : (Instr.makeSlice 64 (.int .i64 (n : Int)) (.int .i64 (n : Int))).run Try.prog W = .ok (.slice (some ⟨W.heap.size, 0, none⟩) n n) (W.alloc (.cells (madeCells #[.float .f32 0] n) 25)) := by
  obtain ⟨i, hi, hz, hs, hb⟩ : ∃ i, Try.prog.info? 25 = some i ∧ i.zero = some (.float .f32 0) ∧ i.size = 1 ∧ i.bytes = 4 := by
    have h := Try.infoF
    cases hi : Try.prog.info? 25 with
    | none => rw [hi] at h; cases h
    | some i =>
      rw [hi] at h
      injection h with h
      injection h with h1 h2
      injection h2 with h2 h3
      exact ⟨i, rfl, h1, h2, h3⟩
  have hr := run_make (P := Try.prog) W 64 25 i _ Try.underlying64 hi hz .i64 .i64 n n (by omega) (Int.le_refl _) (by rw [hb]; omega) (by omega)
  rw [hs] at hr
  simp only [Int.toNat_natCast, Nat.mul_one] at hr
  exact hr
theorem made_own (n : Nat) (hn : n ≤ 1000) (W : World) (base : Nat) (hb : base ≤ W.heap.size) : OwnF (W.alloc (.cells (madeCells #[.float .f32 0] n) 25)) base (.slice (some ⟨W.heap.size, 0, none⟩) n n) (List.replicate n 0) := by
  show World.ownsRow _ _ _ _ _ _ _
  rw [List.length_replicate]
  refine ⟨by rw [fl_len, List.length_replicate, Nat.mul_one], .inr ⟨W.heap.size, n, madeCells #[.float .f32 0] n, rfl, hb, World.alloc_heap_new _ _, Nat.le_refl _, by unfold maxLen; omega, by rw [size_madeCells, Nat.mul_one], ?_⟩⟩
  rw [toList_madeCells_one, Nat.mul_one, List.take_of_length_le (by simp)]
  unfold fl
  rw [List.map_replicate]

def RelSp (f : FuncId) (args : Array Value) (v : Value) : Prop :=
  (f = 114 ∧ ∃ b rise l r, args = #[.float .f32 b, .float .f32 rise, .float .f32 l] ∧ v = .float .f32 r ∧ AfterR rise b l r) ∨
  (f = 113 ∧ ∃ a b, args = #[.float .f32 a, .float .f32 b] ∧ v = .float .f32 (selW a b))
theorem after_some (b rise l : Nat) : ∃ r, AfterR rise b l r := by
  obtain ⟨e, w', fr, ⟨r, n, _, hr, _⟩, _⟩ := speedAfter_calls b rise l default []
  exact ⟨r, hr⟩

/-- The speeds while they are put, k of them. -/
def fillV (n most k : Nat) : List Nat := (List.range (n + 1)).map (fun i => if 1 ≤ i ∧ i ≤ k then most else 0)
theorem fill_len (n most k : Nat) : (fillV n most k).length = n + 1 := by simp [fillV]
theorem fill_get {n most k i : Nat} (h : i < n + 1) : (fillV n most k).getD i 0 = if 1 ≤ i ∧ i ≤ k then most else 0 := by
  unfold fillV
  rw [List.getD_eq_getElem?_getD, List.getElem?_map, List.getElem?_range h]
  rfl
theorem fill_zero (n most : Nat) : List.replicate (n + 1) 0 = fillV n most 0 := by
  refine finV_eq (by simp [fillV]) fun i hi => ?_
  have hi' : i < n + 1 := by simpa using hi
  rw [fill_get hi', if_neg (by omega), List.getD_eq_getElem?_getD, List.getElem?_replicate, if_pos hi']
  rfl
theorem fill_step {n most k : Nat} (h : k + 1 < n + 1) : (fillV n most k).set (k + 1) most = fillV n most (k + 1) := by
  refine finV_eq (by simp [fillV]) fun i hi => ?_
  have hi' : i < n + 1 := by simpa [fillV] using hi
  rw [getD_set _ _ _ _ (by rw [fill_len]; exact h), fill_get hi', fill_get hi']
  by_cases h1 : i = k + 1
  · rw [if_pos h1, if_pos (by omega)]
  · rw [if_neg h1]
    by_cases h2 : 1 ≤ i ∧ i ≤ k
    · rw [if_pos h2, if_pos (by omega)]
    · rw [if_neg h2, if_neg (by omega)]
theorem fill_last {n most k : Nat} (h : k + 1 = n) : fillV n most k = v0 n most := by
  refine finV_eq (by simp [fillV, v0]) fun i hi => ?_
  have hi' : i < n + 1 := by simpa [fillV] using hi
  rw [fill_get hi', v0_get hi']
  by_cases h2 : 1 ≤ i ∧ i ≤ k
  · rw [if_pos h2, if_neg (by omega)]
  · rw [if_neg h2, if_pos (by omega)]

/-- What stands in memory while speeds are reckoned. -/
structure SpS (w : World) (n rise g gs : Nat) (vs : List Nat) (W : World) : Prop where
  own : OwnF W w.heap.size (.slice (some ⟨g, 0, none⟩) (n + 1) (n + 1)) vs
  len : vs.length = n + 1
  bR : W.cell? ⟨w.heap.size, 0, none⟩ = some (.float .f32 rise)
  bS : W.cell? ⟨gs, 0, none⟩ = some (.slice (some ⟨g, 0, none⟩) (n + 1) (n + 1))
  bel : Below w.heap.size w W
  lt : w.heap.size < g ∧ g < gs ∧ gs < W.heap.size
theorem SpS.drewN {w W : World} {n rise g gs : Nat} {vs : List Nat} (h : SpS w n rise g gs vs W) (k : Nat) : SpS w n rise g gs vs (W.drewN k) := ⟨h.own, h.len, h.bR, h.bS, below_drewN h.bel k, h.lt⟩
theorem SpS.below {w W W' : World} {n rise g gs : Nat} {vs : List Nat} (h : SpS w n rise g gs vs W) (hB : Below W.heap.size W W') : SpS w n rise g gs vs W' := by
  have l := h.lt
  refine ⟨h.own.below hB, h.len, (hB.cell (p := ⟨w.heap.size, 0, none⟩) ?_).trans h.bR, (hB.cell (p := ⟨gs, 0, none⟩) l.2.2).trans h.bS, h.bel.trans (hB.mono h.bel.size), l.1, l.2.1, Nat.lt_of_lt_of_le l.2.2 hB.size⟩
  show w.heap.size < W.heap.size
  omega
theorem SpS.put {w W : World} {n rise g gs : Nat} {vs : List Nat} (h : SpS w n rise g gs vs W) (j r : Nat) : SpS w n rise g gs (vs.set j r) (W.setCell ⟨g, j, none⟩ (.float .f32 r)) := by
  have l := h.lt
  refine ⟨by have := h.own.put h.len.symm j r; simpa using this, by rw [List.length_set]; exact h.len, ?_, ?_, h.bel.setCell (p := ⟨g, j, none⟩) (Nat.le_of_lt l.1) _, l.1, l.2.1, by simpa using l.2.2⟩
  · rw [World.cell?_setCell_other _ _ _ _ (by intro e; injection e with e; omega)]; exact h.bR
  · rw [World.cell?_setCell_other _ _ _ _ (by intro e; injection e with e; omega)]; exact h.bS
theorem range_two {F : Fence} {n : Nat} {P : Program} {α : Type} {g : Operand} {ps : Array Tmp} {assign body : Code} {Q : Exit → Act → World → Prop} {a : Act} {w : World} (p q p' q' : Nat) (f f' : α → Value)
    (hro : F.round = none) (h1 : 1 ≤ n) {gf : Nat} {lb : Array Value} (hg : a.eval g = .func (.func gf) #[] lb) (hFg : F.fn gf) (eg : ∀ args w, (callFunc gf args).run P w = .ok (.enter gf args) w)
    {encs : α → Array Value} {Kp : World → World → Prop} {S Sp : List α → Prop} {N : Nat} {w0 : World} (hseq : SeqStopsK F (n - 1) P gf lb encs Kp S Sp N w0)
    (hKt : ∀ {A B C : World}, Kp A B → Kp B C → Kp A C) (hKb : ∀ (W : World) (l : Nat) (o o' : Obj), w.heap.size ≤ l → W.heap[l]? = some o → o.isCells = false → o.isWalk = false → Kp W (W.putObj l o')) (hb0 : Below w0.heap.size w0 w) (hps : ∀ x, (encs x).size = ps.size)
    (I : List α → World → Prop) (Ix : Code → List α → World → Prop) (hI : OwnFrom w.heap.size I) (hIx : ∀ c, OwnFrom w.heap.size (Ix c)) (h0 : I [] w)
    (hassign : ∀ (l : Nat) (pre : List α) (x : α) (W : World) (K : Act → World → Prop), I pre W → (∀ a' W', KeepsFrom w.heap.size W W' → Kp W W' → I pre W' → a' = { tmps := (((a.tmps.setIfInBounds p (f x)).setIfInBounds q (f' x)).setIfInBounds p' (f x)).setIfInBounds q' (f' x), defers := [] } → K a' W') →
      assign.wpIn (F.inRound l) (n - 1 - 1) P (Exit.then K (fun _ _ _ => False)) { tmps := (ps.zip (encs x)).foldl (fun t (p, v) => t.setIfInBounds p v) a.tmps, defers := [] } W)
    (hbody : ∀ (l : Nat) (pre : List α) (x : α) (W : World), w.heap.size ≤ l → (∃ r, W.heap[l]? = some (.loop r)) → I pre W → pre.length < N → body.wpIn (F.inRound l) (n - 1 - 1) P (ownPostG w.heap.size Kp I Ix (pre ++ [x]) W) { tmps := (((a.tmps.setIfInBounds p (f x)).setIfInBounds q (f' x)).setIfInBounds p' (f x)).setIfInBounds q' (f' x), defers := [] } W)
    (hdone : ∀ (D : Nat) (xs : List α) (W : World), w.heap.size ≤ D → S xs → I xs W → W.heap[D]? = some (.deferred (some [])) → Q .normal { a with defers := { target := .collected D, args := #[] } :: a.defers } W)
    (hstop : ∀ (D : Nat) (c : Code) (pre : List α) (W : World), w.heap.size ≤ D → Sp pre → Ix c pre W → W.heap[D]? = some (.deferred (some [])) → c.wpIn F n P Q { a with defers := { target := .collected D, args := #[] } :: a.defers } W) :
    (Code.rangeFunc g ps assign body).wpIn F n P Q a w :=
  wpIn_rangeFunc_ownH hro h1 hg hFg eg hseq hKt hKb hb0 hps I Ix hI hIx h0 (fun x a' _ => a' = { tmps := (((a.tmps.setIfInBounds p (f x)).setIfInBounds q (f' x)).setIfInBounds p' (f x)).setIfInBounds q' (f' x), defers := [] }) (fun _ _ _ _ _ _ hs _ _ => hs) hassign
    (fun l pre x a' W hl hr hi ha hlt => by rw [show a' = _ from ha]; exact hbody l pre x W hl hr hi hlt) hdone hstop
theorem keepsY (W : World) (k : Nat) : KeepsOthers W (W.drewN k) := ⟨Nat.le_refl _, fun _ _ h _ => h⟩
theorem fold2 (T : Array Value) (p q : Nat) (u v : Value) : Array.foldl (fun t (x : Nat × Value) => t.setIfInBounds x.fst x.snd) T (#[p, q].zip #[u, v]) = (T.setIfInBounds p u).setIfInBounds q v := by
  simp
theorem SpS.kept {w A B : World} {n rise g gs base : Nat} {vs : List Nat} {row : Option Nat} (h : SpS w n rise g gs vs A) (hg : A.grownBy B row) (hr : ∀ r, row = some r → base ≤ r ∧ ∃ o : Obj, A.heap[r]? = some o ∧ o.isCells = false) (hb : w.heap.size ≤ base) : SpS w n rise g gs vs B := by
  have l := h.lt
  refine ⟨h.own.grown hg ?_, h.len, cell_kept h.bR hg (fun r e => (hr r e).2), cell_kept h.bS hg (fun r e => (hr r e).2), ownFrom_below (β := Unit) (Nat.le_refl _) hb () A B row h.bel hg hr, l.1, l.2.1, Nat.lt_of_lt_of_le l.2.2 hg.size⟩
  intro k hk g' hg' hgk
  obtain ⟨o, ho, hc⟩ := (hr k hk).2
  have hg0 : g' = g := by simp [Value.ownBlock] at hg'; exact hg'.symm
  subst hgk
  subst hg0
  rcases h.own.2 with ⟨h0, _⟩ | ⟨g2, cap, cur, hv, _, hh, _⟩
  · cases h0
  · injection hv with hv _ _
    injection hv with hv
    injection hv with hv
    subst hv
    rw [hh] at ho
    injection ho with ho
    subst ho
    cases hc
theorem kpB_put {Bs b l : Nat} {W : World} {o : Obj} (h1 : Bs ≠ l) (h2 : b ≠ l) : KpB Bs b W (W.putObj l o) := by
  refine ⟨fun i => ?_, fun i => ?_⟩ <;> simp [World.cell?, World.putObj, Array.getElem?_setIfInBounds_ne, h1.symm, h2.symm]
theorem KpB.trans {Bs b : Nat} {A B C : World} (h : KpB Bs b A B) (k : KpB Bs b B C) : KpB Bs b A C := ⟨fun i => (k.1 i).trans (h.1 i), fun i => (k.2 i).trans (h.2 i)⟩
theorem upTo_last {m : Nat} {pre : List (Fin m)} {x : Fin m} (h : pre ++ [x] = upTo m (pre.length + 1)) : pre = upTo m pre.length ∧ x.val = pre.length := by
  have hl : pre.length + 1 ≤ m := by
    have := congrArg List.length h
    rw [List.length_append] at this
    unfold upTo at this
    simp at this
    omega
  rw [upTo_succ (by omega)] at h
  have h1 := List.append_inj h (by rw [upTo_len (by omega)])
  refine ⟨h1.1, ?_⟩
  have := h1.2
  injection this with this
  rw [this]
theorem SpS.cell {w W : World} {n rise g gs : Nat} {vs : List Nat} (h : SpS w n rise g gs vs W) {j : Nat} (hj : j < n + 1) : W.cell? ⟨g, j, none⟩ = some (.float .f32 (vs.getD j 0)) := h.own.cell h.len.symm (by rw [h.len]; exact hj)
theorem SpS.froz {w W : World} {n rise g gs : Nat} {vs : List Nat} (h : SpS w n rise g gs vs W) (j : Nat) : W.frozen? ⟨g, j, none⟩ = false := h.own.froz h.len.symm j

theorem arePos_two (g a b : Nat) (W : World) (hr : RdF W (some ⟨g, 0, none⟩) [a, b]) : Calls Try.prog 112 #[.slice (some ⟨g, 0, none⟩) 2 2] W fun e w' => e = .returned (.bool (posL [a, b])) ∧ ∃ m, w' = W.drewN m := by
  have e : [a, b].length = 2 := rfl
  have h := arePos_calls (some ⟨g, 0, none⟩) [a, b] 2 W (by rw [e]; decide) hr
  rw [e] at h
  exact h
theorem posL_two (a b : Nat) : posL [a, b] = (aboveB a && aboveB b) := by
  unfold posL
  simp [List.all_cons]
theorem sp_yes {xs : List Nat} {n most rise : Nat} (hn : n = xs.length) (h1 : 1 ≤ n) (h2 : n ≤ 64) (hp : posL xs = true) (hp2 : posL [most, rise] = true) : spB xs most rise = true := by
  rw [posL_two, Bool.and_eq_true] at hp2
  unfold spB
  rw [decide_eq_true (by omega : 1 ≤ xs.length), decide_eq_true (by omega : xs.length ≤ 64), hp, hp2.1, hp2.2]
  rfl
theorem RdF.two (w : World) (j r : Nat) (t : TypeId) : RdF (w.alloc (.cells #[.float .f32 j, .float .f32 r] t)) (some ⟨w.heap.size, 0, none⟩) [j, r] := fun _ => by
  refine ⟨_, 0, rfl, by simp, fun k hk => ?_⟩
  have hk4 : k < 2 := hk
  match k, hk4 with
  | 0, _ => simp [go_sem]
  | 1, _ => simp [go_sem]

set_option maxRecDepth 100000 in
set_option maxHeartbeats 4000000 in
theorem speedPlan_yes (b off c : Nat) (xs : List Nat) (n : Nat) (hxn : n = xs.length) (most rise : Nat) (w : World) (h1 : 1 ≤ n) (h2 : n ≤ 64) (hr : RdF w (some ⟨b, off, none⟩) xs) (hp : posL xs = true) (hp2 : posL [most, rise] = true) :
    Calls Try.prog 46 #[.slice (some ⟨b, off, none⟩) n c, .float .f32 most, .float .f32 rise] w fun e w' => ∃ v vs t ok, e = .returned (.tuple #[v, .float .f32 t, .bool ok]) ∧ SpO xs most rise vs t ok ∧ (ok = false → v = .slice none 0 0) ∧ (ok = true → OwnF w' w.heap.size v vs) ∧ Below w.heap.size w w' := by
  have HCA := Frame.hid (fun W (hW : Below w.heap.size w W) => by have h := arePos_calls (some ⟨b, off, none⟩) xs c W (by rw [← hxn]; omega) (hr.below hW); rw [← hxn] at h; exact h)
  have HX := Frame.hid hxn
  have HR := Frame.hid hr
  have HP := Frame.hid hp
  have HP2 := Frame.hid hp2
  clear hxn hr hp hp2
  refine (callsIn_wide (n := 9)).1 ?_
  refine callsIn_of_wp_marks Try.func46 rfl trivial ?_
  simp only [Try.ntmps46, List.size_toArray, List.length_cons, List.length_nil, Nat.reduceAdd, Nat.reduceSub, Array.replicate_succ, Array.replicate_zero, List.push_toArray, List.append_toArray, List.nil_append, List.cons_append]
  have hL2 : RdF (((w.alloc (.cells #[.float .f32 rise] 25)).alloc (.cells #[.float .f32 most, .float .f32 rise] 25))) (some ⟨w.heap.size + 1, 0, none⟩) [most, rise] := by
    have e : w.heap.size + 1 = (w.alloc (.cells #[.float .f32 rise] 25)).heap.size := by simp
    rw [e]
    exact RdF.two _ most rise 25
  have HL2 := Frame.hid hL2
  clear hL2
  have hz1 : decide ((n : Int) < 1) = false := by rw [decide_eq_false_iff_not]; omega
  have hz2 : decide (64 < (n : Int)) = false := by rw [decide_eq_false_iff_not]; omega
  gi_wp2_with (first | (refine ⟨trivial, ?_⟩; gi_at_call 112; with_reducible refine (callsIn_wide.2 (HCA.out _ (by (apply jbel_of; (repeat (first | apply jbelow_dn | apply jbelow_al | (refine jbelow_sc (by first | (simp; done) | (simp; omega) | omega) ?_ _))); exact jbelow_st _)))).mono ?_; rintro e w' ⟨rfl, m, rfl⟩; rw [HP.out]))
  refine ⟨trivial, (callsIn_wide.2 (arePos_two _ most rise _ (HL2.out.drewN m))).mono ?_⟩
  rintro e w' ⟨rfl, m2, rfl⟩
  rw [HP2.out]
  clear hz1 hz2 HL2
  have hmk := make_f (n + 1) (by omega)
  have e1 : ((n + 1 : Nat) : Int) = (n : Int) + 1 := by omega
  rw [e1] at hmk
  gi_wp2
  obtain ⟨g, hg⟩ : ∃ g, g = w.heap.size + 1 + 1 := ⟨_, rfl⟩
  obtain ⟨gs, hgs⟩ : ∃ gs, gs = w.heap.size + 1 + 1 + 1 := ⟨_, rfl⟩
  obtain ⟨W1, hW1⟩ : ∃ W1, W1 = ((((w.alloc (.cells #[.float .f32 rise] 25)).alloc (.cells #[.float .f32 most, .float .f32 rise] 25)).alloc (.cells (madeCells #[.float .f32 0] (n + 1)) 25)).alloc (.cells #[.slice (some ⟨w.heap.size + 1 + 1, 0, none⟩) (n + 1) (n + 1)] 64)).drewN (m + m2) := ⟨_, rfl⟩
  rw [← hW1, ← hgs, ← hg]
  have hS1 : SpS w n rise g gs (fillV n most 0) W1 := by
    have hsz : ((w.alloc (.cells #[.float .f32 rise] 25)).alloc (.cells #[.float .f32 most, .float .f32 rise] 25)).heap.size = w.heap.size + 1 + 1 := by simp
    refine ⟨?_, fill_len _ _ _, ?_, ?_, ?_, by omega, by omega, ?_⟩
    · have h := made_own (n + 1) (by omega) ((w.alloc (.cells #[.float .f32 rise] 25)).alloc (.cells #[.float .f32 most, .float .f32 rise] 25)) w.heap.size (by simp; omega)
      rw [hsz, ← hg] at h
      rw [hW1, ← fill_zero]
      exact (h.below ((Below.refl _ _).alloc (Nat.le_refl _) _) : OwnF _ _ _ _)
    · rw [hW1]; simp [go_sem]
    · rw [hW1, hgs, hg]; simp [go_sem]
    · rw [hW1]; (apply jbel_of; (repeat (first | apply jbelow_dn | apply jbelow_al | (refine jbelow_sc (by first | (simp; done) | (simp; omega) | omega) ?_ _))); exact jbelow_st _)
    · rw [hW1, hgs]; simp
  clear hW1 hg hgs hmk e1
  gi_loopw [45] (fun i wr => ∃ k : Nat, k + 1 ≤ n ∧ i = .int .i64 k ∧ SpS w n rise g gs (fillV n most k) wr) (fun i _ => n - 1 - (intOf i).toNat)
  case atStart => exact ⟨0, h1, rfl, hS1⟩
  case round =>
    obtain ⟨k, hk, rfl, hS⟩ := hrel
    by_cases hlt : k + 1 < n
    · have q0 := hS.bS
      have q1 := hS.cell (j := k + 1) (by omega)
      have q2 := hS.froz (k + 1)
      have a0 : (k : Int) < (n : Int) - 1 := by omega
      have a1 : ¬ ((k : Int) + 1 < 0) := by omega
      have a2 : (0 : Int) ≤ (k : Int) + 1 := by omega
      have a3 : ((k : Int) + 1).toNat = k + 1 := by omega
      have a4 : (k : Int) + 1 < (n : Int) + 1 := by omega
      have a5 : IntKind.i64.wrap ((k : Int) + 1) = (k : Int) + 1 := by rw [IntKind.wrap_i64]; omega
      have HS := Frame.hid (hS.put (k + 1) most)
      clear hS
      gi_wp2
      go_roundw
      case rel => exact ⟨k + 1, by omega, by go_num, by rw [← fill_step (by omega)]; exact HS.out⟩
      case measure => simp [intOf]; omega
    · have hkn : k + 1 = n := by omega
      rw [fill_last hkn] at hS
      have hS0 : ∃ vs, FW xs most rise 0 vs ∧ SpS w n rise g gs vs wr := ⟨_, by show _ = v0 xs.length most; rw [← HX.out], hS⟩
      have a0 : ¬ ((k : Int) < (n : Int) - 1) := by omega
      clear hS hS1
      gi_wp2
      clear a0 hk hkn
      generalize wr = Wa at hS0 ⊢
      gi_loopw [56] (fun i wr => ∃ (k : Nat) (vs : List Nat), k ≤ n ∧ i = .int .i64 k ∧ FW xs most rise k vs ∧ SpS w n rise g gs vs wr) (fun i _ => n - (intOf i).toNat)
      case atStart =>
        obtain ⟨vs, hF, hS⟩ := hS0
        exact ⟨0, vs, Nat.zero_le _, rfl, hF, hS⟩
      case round =>
        obtain ⟨k, vs, hk, rfl, hF, hS⟩ := hrel
        by_cases hlt : k < n
        · obtain ⟨b_, off_, hbo, hbl, hxc⟩ := HR.out (by have := HX.out; omega)
          injection hbo with hbo
          injection hbo with hbo1 hbo2
          subst hbo1 hbo2
          have c0 := (hS.bel.cell (p := ⟨b, off + k, none⟩) hbl).trans (hxc k (by have := HX.out; omega))
          have HSI := Frame.hid (fun r (h : AfterR rise (vs.getD k 0) (xs.getD k 0) r) => (show FW xs most rise (k + 1) (vs.set (k + 1) (selW (vs.getD (k + 1) 0) r)) from ⟨vs, r, hF, h, rfl⟩))
          have hV1 : ∀ W, SpS w n rise g gs vs W → W.cell? ⟨g, k + 1, none⟩ = some (.float .f32 (vs.getD (k + 1) 0)) := fun W h => h.cell (by omega)
          have hV2 : ∀ W, SpS w n rise g gs vs W → W.cell? ⟨g, k, none⟩ = some (.float .f32 (vs.getD k 0)) := fun W h => h.cell (by omega)
          have HV := Frame.hid (And.intro hV1 hV2)
          clear hxc hV1 hV2 hF
          generalize xs.getD k 0 = x at c0 HSI
          obtain ⟨z, hz⟩ : ∃ z, z = vs.getD (k + 1) 0 := ⟨_, rfl⟩
          obtain ⟨y, hy⟩ : ∃ y, y = vs.getD k 0 := ⟨_, rfl⟩
          rw [← hz, ← hy] at HV
          rw [← hz, ← hy] at HSI
          have HZY := Frame.hid (And.intro hz hy)
          clear hz hy
          have b0 : (k : Int) < (n : Int) := by omega
          have b1 : (0 : Int) ≤ (k : Int) := by omega
          have b2 : (k : Int) < (n : Int) + 1 := by omega
          have a1 : ¬ ((k : Int) + 1 < 0) := by omega
          have a2 : (0 : Int) ≤ (k : Int) + 1 := by omega
          have a3 : ((k : Int) + 1).toNat = k + 1 := by omega
          have a4 : (k : Int) + 1 < (n : Int) + 1 := by omega
          have a5 : IntKind.i64.wrap ((k : Int) + 1) = (k : Int) + 1 := by rw [IntKind.wrap_i64]; omega
          gi_wp2
          clear c0
          have hCe : ∃ W, SpS w n rise g gs vs W := ⟨wr, hS⟩
          refine region_mayI_n 17 (fun W => SpS w n rise g gs vs W) RelSp rfl (by kernel_rfl) (by kernel_rfl) (hS.drewN 1) ?_
          refine' rI_read hCe (fun c hc => by cases hc) (fun _ _ _ => trivial) (Or.inl ⟨by rfl, fun wq hSq => _⟩) _
          rotate_left
          · have q0 := hSq.bS
            have q1 := hSq.bR
            have q2 := HV.out.1 wq hSq
            have q3 := HV.out.2 wq hSq
            go_simp
            try with_reducible rfl
          simp only [Act.put, List.setIfInBounds_toArray, List.set_cons_zero, List.set_cons_succ]
          refine' rI_read hCe (fun c hc => by cases hc) (fun _ _ _ => trivial) (Or.inl ⟨by rfl, fun wq hSq => _⟩) _
          rotate_left
          · have q0 := hSq.bS
            have q1 := hSq.bR
            have q2 := HV.out.1 wq hSq
            have q3 := HV.out.2 wq hSq
            go_simp
            try with_reducible rfl
          simp only [Act.put, List.setIfInBounds_toArray, List.set_cons_zero, List.set_cons_succ]
          refine' rI_read hCe (fun c hc => by cases hc) (fun _ _ _ => trivial) (Or.inl ⟨by rfl, fun wq hSq => _⟩) _
          rotate_left
          · have q0 := hSq.bS
            have q1 := hSq.bR
            have q2 := HV.out.1 wq hSq
            have q3 := HV.out.2 wq hSq
            go_simp
            try with_reducible rfl
          simp only [Act.put, List.setIfInBounds_toArray, List.set_cons_zero, List.set_cons_succ]
          refine' rI_read hCe (fun c hc => by cases hc) (fun _ _ _ => trivial) (Or.inl ⟨by rfl, fun wq hSq => _⟩) _
          rotate_left
          · have q0 := hSq.bS
            have q1 := hSq.bR
            have q2 := HV.out.1 wq hSq
            have q3 := HV.out.2 wq hSq
            go_simp
            try with_reducible rfl
          simp only [Act.put, List.setIfInBounds_toArray, List.set_cons_zero, List.set_cons_succ]
          refine' rI_read hCe (fun c hc => by cases hc) (fun _ _ _ => trivial) (Or.inl ⟨by rfl, fun wq hSq => _⟩) _
          rotate_left
          · have q0 := hSq.bS
            have q1 := hSq.bR
            have q2 := HV.out.1 wq hSq
            have q3 := HV.out.2 wq hSq
            go_simp
            try with_reducible rfl
          simp only [Act.put, List.setIfInBounds_toArray, List.set_cons_zero, List.set_cons_succ]
          refine' rI_read hCe (fun c hc => by cases hc) (fun _ _ _ => trivial) (Or.inl ⟨by rfl, fun wq hSq => _⟩) _
          rotate_left
          · have q0 := hSq.bS
            have q1 := hSq.bR
            have q2 := HV.out.1 wq hSq
            have q3 := HV.out.2 wq hSq
            go_simp
            try with_reducible rfl
          simp only [Act.put, List.setIfInBounds_toArray, List.set_cons_zero, List.set_cons_succ]
          refine' rI_read hCe (fun c hc => by cases hc) (fun _ _ _ => trivial) (Or.inl ⟨by rfl, fun wq hSq => _⟩) _
          rotate_left
          · have q0 := hSq.bS
            have q1 := hSq.bR
            have q2 := HV.out.1 wq hSq
            have q3 := HV.out.2 wq hSq
            go_simp
            try with_reducible rfl
          simp only [Act.put, List.setIfInBounds_toArray, List.set_cons_zero, List.set_cons_succ]
          refine' rI_read hCe (fun c hc => by cases hc) (fun _ _ _ => trivial) (Or.inl ⟨by rfl, fun wq hSq => _⟩) _
          rotate_left
          · have q0 := hSq.bS
            have q1 := hSq.bR
            have q2 := HV.out.1 wq hSq
            have q3 := HV.out.2 wq hSq
            go_simp
            try with_reducible rfl
          simp only [Act.put, List.setIfInBounds_toArray, List.set_cons_zero, List.set_cons_succ]
          refine' rI_read hCe (fun c hc => by cases hc) (fun _ _ _ => trivial) (Or.inl ⟨by rfl, fun wq hSq => _⟩) _
          rotate_left
          · have q0 := hSq.bS
            have q1 := hSq.bR
            have q2 := HV.out.1 wq hSq
            have q3 := HV.out.2 wq hSq
            go_simp
            try with_reducible rfl
          simp only [Act.put, List.setIfInBounds_toArray, List.set_cons_zero, List.set_cons_succ]
          refine' rI_read hCe (fun c hc => by cases hc) (fun _ _ _ => trivial) (Or.inl ⟨by rfl, fun wq hSq => _⟩) _
          rotate_left
          · have q0 := hSq.bS
            have q1 := hSq.bR
            have q2 := HV.out.1 wq hSq
            have q3 := HV.out.2 wq hSq
            go_simp
            try with_reducible rfl
          simp only [Act.put, List.setIfInBounds_toArray, List.set_cons_zero, List.set_cons_succ]
          refine' rI_read hCe (fun c hc => by cases hc) (fun _ _ _ => trivial) (Or.inl ⟨by rfl, fun wq hSq => _⟩) _
          rotate_left
          · have q0 := hSq.bS
            have q1 := hSq.bR
            have q2 := HV.out.1 wq hSq
            have q3 := HV.out.2 wq hSq
            go_simp
            try with_reducible rfl
          simp only [Act.put, List.setIfInBounds_toArray, List.set_cons_zero, List.set_cons_succ]
          refine' rI_read hCe (fun c hc => by cases hc) (fun _ _ _ => trivial) (Or.inl ⟨by rfl, fun wq hSq => _⟩) _
          rotate_left
          · have q0 := hSq.bS
            have q1 := hSq.bR
            have q2 := HV.out.1 wq hSq
            have q3 := HV.out.2 wq hSq
            go_simp
            try with_reducible rfl
          simp only [Act.put, List.setIfInBounds_toArray, List.set_cons_zero, List.set_cons_succ]
          refine' rI_read hCe (fun c hc => by cases hc) (fun _ _ _ => trivial) (Or.inl ⟨by rfl, fun wq hSq => _⟩) _
          rotate_left
          · have q0 := hSq.bS
            have q1 := hSq.bR
            have q2 := HV.out.1 wq hSq
            have q3 := HV.out.2 wq hSq
            go_simp
            try with_reducible rfl
          simp only [Act.put, List.setIfInBounds_toArray, List.set_cons_zero, List.set_cons_succ]
          refine' rI_read hCe (fun c hc => by cases hc) (fun _ _ _ => trivial) (Or.inl ⟨by rfl, fun wq hSq => _⟩) _
          rotate_left
          · have q0 := hSq.bS
            have q1 := hSq.bR
            have q2 := HV.out.1 wq hSq
            have q3 := HV.out.2 wq hSq
            go_simp
            try with_reducible rfl
          simp only [Act.put, List.setIfInBounds_toArray, List.set_cons_zero, List.set_cons_succ]
          refine rI_call hCe (fun c hc => by cases hc) (fun _ _ _ => trivial) (fun _ => by decide) (by rfl) 114 #[.float .f32 y, .float .f32 rise, .float .f32 x] (fun wq hSq => ?_) (fun wq hSq => ?_) ?_ (fun u hu => ?_)
          · go_simp
          · refine (callsIn_wide.2 (speedAfter_calls _ _ _ _)).mono ?_
            rintro e w' ⟨r, nn, rfl, hr, rfl⟩
            exact ⟨_, rfl, .inl ⟨rfl, _, _, _, _, rfl, rfl, hr⟩, hSq.drewN _⟩
          · obtain ⟨r, hr⟩ := after_some y rise x
            exact ⟨_, .inl ⟨rfl, _, _, _, _, rfl, rfl, hr⟩⟩
          rcases hu with ⟨-, b', rise', l', r, he, rfl, hA⟩ | ⟨hf, -⟩
          rotate_left
          · exact absurd hf (by decide)
          simp at he
          obtain ⟨rfl, rfl, rfl⟩ := he
          simp only [Act.put, List.setIfInBounds_toArray, List.set_cons_zero, List.set_cons_succ]
          refine rI_call hCe (fun c hc => by cases hc) (fun _ _ _ => trivial) (fun _ => by decide) (by rfl) 113 #[.float .f32 z, .float .f32 r] (fun wq hSq => ?_) (fun wq hSq => ?_) ?_ (fun u hu => ?_)
          · go_simp
          · refine (callsIn_wide.2 (lesserW_calls _ _ _)).mono ?_
            rintro e w' ⟨rfl, rfl⟩
            exact ⟨_, rfl, .inr ⟨rfl, _, _, rfl, rfl⟩, hSq⟩
          · exact ⟨_, .inr ⟨rfl, _, _, rfl, rfl⟩⟩
          rcases hu with ⟨hf, -⟩ | ⟨-, a', b', he, rfl⟩
          · exact absurd hf (by decide)
          simp at he
          obtain ⟨rfl, rfl⟩ := he
          simp only [Act.put, List.setIfInBounds_toArray, List.set_cons_zero, List.set_cons_succ]
          refine' rI_read hCe (fun c hc => by cases hc) (fun _ _ _ => trivial) (Or.inl ⟨by rfl, fun wq hSq => _⟩) _
          rotate_left
          · have q0 := hSq.bS
            have q1 := hSq.bR
            have q2 := HV.out.1 wq hSq
            have q3 := HV.out.2 wq hSq
            go_simp
            try with_reducible rfl
          simp only [Act.put, List.setIfInBounds_toArray, List.set_cons_zero, List.set_cons_succ]
          refine rI_nil (fun w3 hw3 => ?_)
          have f0 := hw3.froz (k + 1)
          have f1 := hw3.cell (j := k + 1) (by omega)
          have HW3 := Frame.hid hw3
          have HAF := Frame.hid hA
          clear hw3 hA
          gi_wp2
          go_roundw
          case rel => exact ⟨k + 1, _, by omega, by go_num, HSI.out _ HAF.out, HW3.out.put _ _⟩
          case measure => simp [intOf]; omega
        · have hkn : n = k := by omega
          subst hkn
          have HF := Frame.hid hF
          have HS := Frame.hid hS
          clear hF hk hlt hS0
          gi_wp2_with (refine ⟨trivial, ?_⟩; gi_at_call 115; refine (back_in Fence.wide 8 trivial rfl _ _ _ _).mono ?_; rintro e w' ⟨rfl, rfl⟩)
          obtain ⟨Bs, hBs⟩ : ∃ Bs, Bs = wr.heap.size := ⟨_, rfl⟩
          obtain ⟨W0, hW0⟩ : ∃ W0, W0 = wr.alloc (.cells #[.slice (some ⟨b, off, none⟩) n c] 64) := ⟨_, rfl⟩
          rw [← hW0, ← hBs]
          have hS0 : SpS w n rise g gs vs W0 := by rw [hW0]; exact hS.below ((Below.refl _ _).alloc (Nat.le_refl _) _)
          have hBl : Bs < W0.heap.size := by rw [hW0, hBs]; simp
          have hBc : W0.cell? ⟨Bs, 0, none⟩ = some (.slice (some ⟨b, off, none⟩) n c) := by rw [hW0, hBs]; simp [go_sem]
          have hgBs : g < Bs := by have := hS.lt; omega
          obtain ⟨b_, off_, hbo, hbl, hxc⟩ := HR.out (by have := HX.out; omega)
          injection hbo with hbo
          injection hbo with hbo1 hbo2
          subst hbo1 hbo2
          have hbg : b < g := by have := hS.lt; omega
          have hx0 : ∀ j, j < n → W0.cell? ⟨b, off + j, none⟩ = some (.float .f32 (xs.getD j 0)) := fun j hj => (hS0.bel.cell (p := ⟨b, off + j, none⟩) hbl).trans (hxc j (by have := HX.out; omega))
          have hwW : w.heap.size ≤ W0.heap.size := hS0.bel.size
          have hbW : b < W0.heap.size := by omega
          have hF0 : BW xs most rise 0 vs := by show FW xs most rise xs.length vs; rw [← HX.out]; exact HF.out
          clear hxc hS HS hW0 hBs
          have HF0 := Frame.hid hF0
          have HS0 := Frame.hid hS0
          have HBX := Frame.hid (And.intro hBc hx0)
          clear hF0 hS0 hBc hx0 hbl
          refine range_two 81 82 14 15 (fun x : Fin n => .int .i64 ((n : Int) - 1 - (x.val : Int))) (fun x : Fin n => .float .f32 (xs.getD (n - 1 - x.val) 0)) rfl (by omega) (gf := 154) (lb := #[.pointer (some ⟨Bs, 0, none⟩)]) rfl trivial (enters_of Try.func154 (by kernel_rfl) rfl)
            (back_stops Fence.wide 8 trivial rfl (by omega) Bs b off n c (by omega) xs W0 hBl hbW HBX.out.1 HBX.out.2) (fun h k => h.trans k) (fun W l o o' hl _ _ _ => kpB_put (by omega) (by omega)) (Below.refl _ _) (fun _ => rfl)
            (fun pre W => ∃ us, SpS w n rise g gs us W ∧ (pre = upTo n pre.length → BW xs most rise pre.length us)) (fun _ _ _ => False)
            (fun pre A B row h hg hr => by obtain ⟨us, h1, h2⟩ := h; exact ⟨us, h1.kept hg hr hwW, h2⟩)
            (fun _ _ _ _ _ h _ _ => h)
            ⟨vs, HS0.out, fun _ => HF0.out⟩
            ?assign ?body ?done ?stop
          case assign =>
            rintro l pre x W K hI hK
            have HK := Frame.hid hK
            have HI := Frame.hid hI
            clear hK hI
            dsimp only [encBack]
            rw [fold2]
            obtain ⟨zi, hzi⟩ : ∃ zi, zi = (n : Int) - 1 - (x.val : Int) := ⟨_, rfl⟩
            obtain ⟨xv, hxv⟩ : ∃ xv, xv = xs.getD (n - 1 - x.val) 0 := ⟨_, rfl⟩
            rw [← hzi, ← hxv]
            have HZX := Frame.hid (And.intro hzi hxv)
            clear hzi hxv
            simp only [List.setIfInBounds_toArray, List.set_cons_zero, List.set_cons_succ]
            gi_wp2
            exact HK.out _ _ (KeepsFrom.refl _ _) ⟨fun _ => rfl, fun _ => rfl⟩ HI.out (by rw [← HZX.out.1, ← HZX.out.2]; simp only [List.setIfInBounds_toArray, List.set_cons_zero, List.set_cons_succ])
          case body =>
            rintro l pre x W hl ⟨r, hr⟩ ⟨us, hS, hF⟩ hlt
            simp only [List.setIfInBounds_toArray, List.set_cons_zero, List.set_cons_succ]
            obtain ⟨q, hq⟩ : ∃ q, q + x.val + 1 = n := ⟨n - 1 - x.val, by have := x.isLt; omega⟩
            have e1 : (n : Int) - 1 - (x.val : Int) = (q : Int) := by omega
            have e2 : n - 1 - x.val = q := by omega
            rw [e1, e2]
            obtain ⟨xv, hxv⟩ : ∃ xv, xv = xs.getD q 0 := ⟨_, rfl⟩
            rw [← hxv]
            have HSI := Frame.hid (fun r (h : AfterR rise (us.getD (q + 1) 0) xv r) (hp : pre ++ [x] = upTo n (pre ++ [x]).length) => (show BW xs most rise (pre ++ [x]).length (us.set q (selW (us.getD q 0) r)) from by
              have hl1 : (pre ++ [x]).length = pre.length + 1 := by simp
              rw [hl1] at hp ⊢
              obtain ⟨g1, g2⟩ := upTo_last hp
              have hqi : xs.length - 1 - pre.length = q := by rw [← HX.out]; omega
              refine ⟨us, r, hF g1, ?_, ?_⟩
              · rw [hqi, ← hxv]; exact h
              · rw [hqi]))
            have hV1 : ∀ W, SpS w n rise g gs us W → W.cell? ⟨g, q + 1, none⟩ = some (.float .f32 (us.getD (q + 1) 0)) := fun W h => h.cell (by omega)
            have hV2 : ∀ W, SpS w n rise g gs us W → W.cell? ⟨g, q, none⟩ = some (.float .f32 (us.getD q 0)) := fun W h => h.cell (by omega)
            have HV := Frame.hid (And.intro hV1 hV2)
            have HQ := Frame.hid hq
            clear hV1 hV2 hF hxv e1 e2 hr
            obtain ⟨y, hy⟩ : ∃ y, y = us.getD (q + 1) 0 := ⟨_, rfl⟩
            obtain ⟨z, hz⟩ : ∃ z, z = us.getD q 0 := ⟨_, rfl⟩
            rw [← hz, ← hy] at HV
            rw [← hz, ← hy] at HSI
            clear hz hy
            have b2 : (q : Int) < (n : Int) + 1 := by omega
            have b1 : (0 : Int) ≤ (q : Int) := by omega
            have a1 : ¬ ((q : Int) + 1 < 0) := by omega
            have a2 : (0 : Int) ≤ (q : Int) + 1 := by omega
            have a3 : ((q : Int) + 1).toNat = q + 1 := by omega
            have a4 : (q : Int) + 1 < (n : Int) + 1 := by omega
            have a5 : IntKind.i64.wrap ((q : Int) + 1) = (q : Int) + 1 := by rw [IntKind.wrap_i64]; omega
            clear hq hlt
            gi_wp2
            have hCe : ∃ W', SpS w n rise g gs us W' ∧ ∃ k, W' = W.drewN k := ⟨W, hS, 0, rfl⟩
            refine region_mayI_n 16 (fun W' => SpS w n rise g gs us W' ∧ ∃ k, W' = W.drewN k) RelSp rfl (by kernel_rfl) (by kernel_rfl) ⟨hS.drewN 1, 1, rfl⟩ ?_
            refine' rI_read hCe (fun c hc => by cases hc) (fun _ _ _ => trivial) (Or.inl ⟨by rfl, fun wq hSq => _⟩) _
            rotate_left
            · have q0 := hSq.1.bS
              have q1 := hSq.1.bR
              have q2 := HV.out.1 wq hSq.1
              have q3 := HV.out.2 wq hSq.1
              go_simp
              try with_reducible rfl
            simp only [Act.put, List.setIfInBounds_toArray, List.set_cons_zero, List.set_cons_succ]
            refine' rI_read hCe (fun c hc => by cases hc) (fun _ _ _ => trivial) (Or.inl ⟨by rfl, fun wq hSq => _⟩) _
            rotate_left
            · have q0 := hSq.1.bS
              have q1 := hSq.1.bR
              have q2 := HV.out.1 wq hSq.1
              have q3 := HV.out.2 wq hSq.1
              go_simp
              try with_reducible rfl
            simp only [Act.put, List.setIfInBounds_toArray, List.set_cons_zero, List.set_cons_succ]
            refine' rI_read hCe (fun c hc => by cases hc) (fun _ _ _ => trivial) (Or.inl ⟨by rfl, fun wq hSq => _⟩) _
            rotate_left
            · have q0 := hSq.1.bS
              have q1 := hSq.1.bR
              have q2 := HV.out.1 wq hSq.1
              have q3 := HV.out.2 wq hSq.1
              go_simp
              try with_reducible rfl
            simp only [Act.put, List.setIfInBounds_toArray, List.set_cons_zero, List.set_cons_succ]
            refine' rI_read hCe (fun c hc => by cases hc) (fun _ _ _ => trivial) (Or.inl ⟨by rfl, fun wq hSq => _⟩) _
            rotate_left
            · have q0 := hSq.1.bS
              have q1 := hSq.1.bR
              have q2 := HV.out.1 wq hSq.1
              have q3 := HV.out.2 wq hSq.1
              go_simp
              try with_reducible rfl
            simp only [Act.put, List.setIfInBounds_toArray, List.set_cons_zero, List.set_cons_succ]
            refine' rI_read hCe (fun c hc => by cases hc) (fun _ _ _ => trivial) (Or.inl ⟨by rfl, fun wq hSq => _⟩) _
            rotate_left
            · have q0 := hSq.1.bS
              have q1 := hSq.1.bR
              have q2 := HV.out.1 wq hSq.1
              have q3 := HV.out.2 wq hSq.1
              go_simp
              try with_reducible rfl
            simp only [Act.put, List.setIfInBounds_toArray, List.set_cons_zero, List.set_cons_succ]
            refine' rI_read hCe (fun c hc => by cases hc) (fun _ _ _ => trivial) (Or.inl ⟨by rfl, fun wq hSq => _⟩) _
            rotate_left
            · have q0 := hSq.1.bS
              have q1 := hSq.1.bR
              have q2 := HV.out.1 wq hSq.1
              have q3 := HV.out.2 wq hSq.1
              go_simp
              try with_reducible rfl
            simp only [Act.put, List.setIfInBounds_toArray, List.set_cons_zero, List.set_cons_succ]
            refine' rI_read hCe (fun c hc => by cases hc) (fun _ _ _ => trivial) (Or.inl ⟨by rfl, fun wq hSq => _⟩) _
            rotate_left
            · have q0 := hSq.1.bS
              have q1 := hSq.1.bR
              have q2 := HV.out.1 wq hSq.1
              have q3 := HV.out.2 wq hSq.1
              go_simp
              try with_reducible rfl
            simp only [Act.put, List.setIfInBounds_toArray, List.set_cons_zero, List.set_cons_succ]
            refine' rI_read hCe (fun c hc => by cases hc) (fun _ _ _ => trivial) (Or.inl ⟨by rfl, fun wq hSq => _⟩) _
            rotate_left
            · have q0 := hSq.1.bS
              have q1 := hSq.1.bR
              have q2 := HV.out.1 wq hSq.1
              have q3 := HV.out.2 wq hSq.1
              go_simp
              try with_reducible rfl
            simp only [Act.put, List.setIfInBounds_toArray, List.set_cons_zero, List.set_cons_succ]
            refine' rI_read hCe (fun c hc => by cases hc) (fun _ _ _ => trivial) (Or.inl ⟨by rfl, fun wq hSq => _⟩) _
            rotate_left
            · have q0 := hSq.1.bS
              have q1 := hSq.1.bR
              have q2 := HV.out.1 wq hSq.1
              have q3 := HV.out.2 wq hSq.1
              go_simp
              try with_reducible rfl
            simp only [Act.put, List.setIfInBounds_toArray, List.set_cons_zero, List.set_cons_succ]
            refine' rI_read hCe (fun c hc => by cases hc) (fun _ _ _ => trivial) (Or.inl ⟨by rfl, fun wq hSq => _⟩) _
            rotate_left
            · have q0 := hSq.1.bS
              have q1 := hSq.1.bR
              have q2 := HV.out.1 wq hSq.1
              have q3 := HV.out.2 wq hSq.1
              go_simp
              try with_reducible rfl
            simp only [Act.put, List.setIfInBounds_toArray, List.set_cons_zero, List.set_cons_succ]
            refine' rI_read hCe (fun c hc => by cases hc) (fun _ _ _ => trivial) (Or.inl ⟨by rfl, fun wq hSq => _⟩) _
            rotate_left
            · have q0 := hSq.1.bS
              have q1 := hSq.1.bR
              have q2 := HV.out.1 wq hSq.1
              have q3 := HV.out.2 wq hSq.1
              go_simp
              try with_reducible rfl
            simp only [Act.put, List.setIfInBounds_toArray, List.set_cons_zero, List.set_cons_succ]
            refine' rI_read hCe (fun c hc => by cases hc) (fun _ _ _ => trivial) (Or.inl ⟨by rfl, fun wq hSq => _⟩) _
            rotate_left
            · have q0 := hSq.1.bS
              have q1 := hSq.1.bR
              have q2 := HV.out.1 wq hSq.1
              have q3 := HV.out.2 wq hSq.1
              go_simp
              try with_reducible rfl
            simp only [Act.put, List.setIfInBounds_toArray, List.set_cons_zero, List.set_cons_succ]
            refine' rI_read hCe (fun c hc => by cases hc) (fun _ _ _ => trivial) (Or.inl ⟨by rfl, fun wq hSq => _⟩) _
            rotate_left
            · have q0 := hSq.1.bS
              have q1 := hSq.1.bR
              have q2 := HV.out.1 wq hSq.1
              have q3 := HV.out.2 wq hSq.1
              go_simp
              try with_reducible rfl
            simp only [Act.put, List.setIfInBounds_toArray, List.set_cons_zero, List.set_cons_succ]
            refine rI_call hCe (fun c hc => by cases hc) (fun _ _ _ => trivial) (fun _ => by decide) (by rfl) 114 #[.float .f32 y, .float .f32 rise, .float .f32 xv] (fun wq hSq => ?_) (fun wq hSq => ?_) ?_ (fun u hu => ?_)
            · go_simp
            · refine ((callsIn_wide.2 (speedAfter_calls _ _ _ _)).inRound l).mono ?_
              rintro e w' ⟨r, nn, rfl, hr, rfl⟩
              obtain ⟨h1, k, rfl⟩ := hSq
              exact ⟨_, rfl, .inl ⟨rfl, _, _, _, _, rfl, rfl, hr⟩, h1.drewN _, _, World.drewN_drewN _ _ _⟩
            · obtain ⟨r, hr⟩ := after_some y rise xv
              exact ⟨_, .inl ⟨rfl, _, _, _, _, rfl, rfl, hr⟩⟩
            rcases hu with ⟨-, b', rise', l', r, he, rfl, hA⟩ | ⟨hf, -⟩
            rotate_left
            · exact absurd hf (by decide)
            simp at he
            obtain ⟨rfl, rfl, rfl⟩ := he
            simp only [Act.put, List.setIfInBounds_toArray, List.set_cons_zero, List.set_cons_succ]
            refine rI_call hCe (fun c hc => by cases hc) (fun _ _ _ => trivial) (fun _ => by decide) (by rfl) 113 #[.float .f32 z, .float .f32 r] (fun wq hSq => ?_) (fun wq hSq => ?_) ?_ (fun u hu => ?_)
            · go_simp
            · refine ((callsIn_wide.2 (lesserW_calls _ _ _)).inRound l).mono ?_
              rintro e w' ⟨rfl, rfl⟩
              exact ⟨_, rfl, .inr ⟨rfl, _, _, rfl, rfl⟩, hSq⟩
            · exact ⟨_, .inr ⟨rfl, _, _, rfl, rfl⟩⟩
            rcases hu with ⟨hf, -⟩ | ⟨-, a', b', he, rfl⟩
            · exact absurd hf (by decide)
            simp at he
            obtain ⟨rfl, rfl⟩ := he
            simp only [Act.put, List.setIfInBounds_toArray, List.set_cons_zero, List.set_cons_succ]
            refine' rI_read hCe (fun c hc => by cases hc) (fun _ _ _ => trivial) (Or.inl ⟨by rfl, fun wq hSq => _⟩) _
            rotate_left
            · have q0 := hSq.1.bS
              have q1 := hSq.1.bR
              have q2 := HV.out.1 wq hSq.1
              have q3 := HV.out.2 wq hSq.1
              go_simp
              try with_reducible rfl
            simp only [Act.put, List.setIfInBounds_toArray, List.set_cons_zero, List.set_cons_succ]
            refine rI_nil (fun w3 hw3 => ?_)
            obtain ⟨hw4, kd, hkd⟩ := hw3
            have f0 := hw4.froz q
            have f1 := hw4.cell (j := q) (by have := HQ.out; omega)
            have HW4 := Frame.hid hw4
            have HAF := Frame.hid hA
            have HKD := Frame.hid hkd
            clear hw4 hA hkd
            gi_wp2
            refine ⟨?_, ⟨fun i => ?_, fun i => ?_⟩, ⟨_, HW4.out.put q _, HSI.out _ HAF.out⟩⟩
            · rw [HKD.out]; exact ((keepsY _ _).trans (KeepsOthers.setCell _ _ _)).from _
            · rw [World.cell?_setCell_other _ _ _ _ (by intro e; injection e with e; omega), HKD.out]; rfl
            · rw [World.cell?_setCell_other _ _ _ _ (by intro e; injection e with e; omega), HKD.out]; rfl
          case stop => exact fun D cd pre W hD hpre h hK => h.elim
          case done =>
            rintro D ys W hD rfl ⟨us, hS, hF⟩ hK
            have hF1 : BW xs most rise n us := by
              have h := hF (by rw [List.length_finRange]; exact (upTo_all n).symm)
              rw [List.length_finRange] at h
              exact h
            have HFB := Frame.hid hF1
            have HS := Frame.hid hS
            have HK := Frame.hid hK
            clear hF hF1 hK hS
            gi_wp2
            have hmost : fin .f32 most = true := by
              have h := HP2.out
              rw [posL_two] at h
              unfold aboveB at h
              simp only [Bool.and_eq_true] at h
              exact h.1.1
            have HFV := Frame.hid (BW.facts hmost HFB.out)
            have HMO := Frame.hid hmost
            clear hmost
            gi_loopw [16, 101] (fun s i wr => ∃ (k t0 m0 : Nat), k ≤ n ∧ i = .int .i64 k ∧ s = .float .f32 t0 ∧ (∀ j, j < k → gtB (bothV us j) = true) ∧ SM xs us k t0 ∧ wr = W.drewN m0) (fun _ i _ => n - (intOf i).toNat)
            case atStart => exact ⟨0, 0, 0, Nat.zero_le _, rfl, rfl, fun j hj => absurd hj (by omega), rfl, rfl⟩
            case round =>
              obtain ⟨k, t0, m0, hk, rfl, rfl, hG, hSM, rfl⟩ := hrel
              by_cases hlt : k < n
              · obtain ⟨b_, off_, hbo, hbl, hxc⟩ := HR.out (by have := HX.out; omega)
                injection hbo with hbo
                injection hbo with hbo1 hbo2
                subst hbo1 hbo2
                have c0 := (HS.out.bel.cell (p := ⟨b, off + k, none⟩) hbl).trans (hxc k (by have := HX.out; omega))
                have HSI := Frame.hid (fun d q t' h1 h2 h3 => (show SM xs us (k + 1) t' from ⟨t0, d, q, hSM, h1, h2, h3⟩))
                have HG := Frame.hid hG
                have HB := Frame.hid (fun r h => bothV_of (k := k) (r := r) HFV.out.2 h)
                have HLQ := Frame.hid (both_leq (us := us) HFV.out.2 k)
                have HV := Frame.hid (And.intro HS.out.bS (And.intro (HS.out.cell (j := k) (by omega)) (HS.out.cell (j := k + 1) (by omega))))
                clear hxc hG hSM hbl
                generalize xs.getD k 0 = x at c0 HSI
                generalize us.getD k 0 = y at HV HB
                generalize us.getD (k + 1) 0 = z at HV HB
                obtain ⟨bv, hbv⟩ : ∃ bv, bv = bothV us k := ⟨_, rfl⟩
                rw [← hbv] at HSI HB HLQ
                have HBV := Frame.hid hbv
                clear hbv
                have b0 : (k : Int) < (n : Int) := by omega
                have b1 : (0 : Int) ≤ (k : Int) := by omega
                have b2 : (k : Int) < (n : Int) + 1 := by omega
                have a1 : ¬ ((k : Int) + 1 < 0) := by omega
                have a2 : (0 : Int) ≤ (k : Int) + 1 := by omega
                have a3 : ((k : Int) + 1).toNat = k + 1 := by omega
                have a4 : (k : Int) + 1 < (n : Int) + 1 := by omega
                have a5 : IntKind.i64.wrap ((k : Int) + 1) = (k : Int) + 1 := by rw [IntKind.wrap_i64]; omega
                gi_wp2
                clear c0
                have hCe : ∃ W', ∃ q, W' = W.drewN q := ⟨W, 0, rfl⟩
                have hCd : ∀ W' nn, (∃ q, W' = W.drewN q) → ∃ q, W'.drewN nn = W.drewN q := fun W' nn ⟨q, hq⟩ => ⟨q + nn, by rw [hq]; exact World.drewN_drewN _ _ _⟩
                refine region_mayI_n 10 (fun W' => ∃ q, W' = W.drewN q) RelSp rfl (by kernel_rfl) (by kernel_rfl) (hCd _ 1 ⟨m0, rfl⟩) ?_
                refine' rI_read hCe (fun c hc => by cases hc) (fun _ _ _ => trivial) (Or.inl ⟨by rfl, fun wq hSq => _⟩) _
                rotate_left
                · obtain ⟨kq, hkq⟩ := hSq
                  have q0 := HV.out.1
                  have q2 := HV.out.2.1
                  have q3 := HV.out.2.2
                  subst hkq
                  go_simp
                  try with_reducible rfl
                simp only [Act.put, List.setIfInBounds_toArray, List.set_cons_zero, List.set_cons_succ]
                refine' rI_read hCe (fun c hc => by cases hc) (fun _ _ _ => trivial) (Or.inl ⟨by rfl, fun wq hSq => _⟩) _
                rotate_left
                · obtain ⟨kq, hkq⟩ := hSq
                  have q0 := HV.out.1
                  have q2 := HV.out.2.1
                  have q3 := HV.out.2.2
                  subst hkq
                  go_simp
                  try with_reducible rfl
                simp only [Act.put, List.setIfInBounds_toArray, List.set_cons_zero, List.set_cons_succ]
                refine' rI_read hCe (fun c hc => by cases hc) (fun _ _ _ => trivial) (Or.inl ⟨by rfl, fun wq hSq => _⟩) _
                rotate_left
                · obtain ⟨kq, hkq⟩ := hSq
                  have q0 := HV.out.1
                  have q2 := HV.out.2.1
                  have q3 := HV.out.2.2
                  subst hkq
                  go_simp
                  try with_reducible rfl
                simp only [Act.put, List.setIfInBounds_toArray, List.set_cons_zero, List.set_cons_succ]
                refine' rI_read hCe (fun c hc => by cases hc) (fun _ _ _ => trivial) (Or.inl ⟨by rfl, fun wq hSq => _⟩) _
                rotate_left
                · obtain ⟨kq, hkq⟩ := hSq
                  have q0 := HV.out.1
                  have q2 := HV.out.2.1
                  have q3 := HV.out.2.2
                  subst hkq
                  go_simp
                  try with_reducible rfl
                simp only [Act.put, List.setIfInBounds_toArray, List.set_cons_zero, List.set_cons_succ]
                refine' rI_read hCe (fun c hc => by cases hc) (fun _ _ _ => trivial) (Or.inl ⟨by rfl, fun wq hSq => _⟩) _
                rotate_left
                · obtain ⟨kq, hkq⟩ := hSq
                  have q0 := HV.out.1
                  have q2 := HV.out.2.1
                  have q3 := HV.out.2.2
                  subst hkq
                  go_simp
                  try with_reducible rfl
                simp only [Act.put, List.setIfInBounds_toArray, List.set_cons_zero, List.set_cons_succ]
                refine' rI_read hCe (fun c hc => by cases hc) (fun _ _ _ => trivial) (Or.inl ⟨by rfl, fun wq hSq => _⟩) _
                rotate_left
                · obtain ⟨kq, hkq⟩ := hSq
                  have q0 := HV.out.1
                  have q2 := HV.out.2.1
                  have q3 := HV.out.2.2
                  subst hkq
                  go_simp
                  try with_reducible rfl
                simp only [Act.put, List.setIfInBounds_toArray, List.set_cons_zero, List.set_cons_succ]
                refine' rI_read hCe (fun c hc => by cases hc) (fun _ _ _ => trivial) (Or.inl ⟨by rfl, fun wq hSq => _⟩) _
                rotate_left
                · obtain ⟨kq, hkq⟩ := hSq
                  have q0 := HV.out.1
                  have q2 := HV.out.2.1
                  have q3 := HV.out.2.2
                  subst hkq
                  go_simp
                  try with_reducible rfl
                simp only [Act.put, List.setIfInBounds_toArray, List.set_cons_zero, List.set_cons_succ]
                refine' rI_read hCe (fun c hc => by cases hc) (fun _ _ _ => trivial) (Or.inl ⟨by rfl, fun wq hSq => _⟩) _
                rotate_left
                · obtain ⟨kq, hkq⟩ := hSq
                  have q0 := HV.out.1
                  have q2 := HV.out.2.1
                  have q3 := HV.out.2.2
                  subst hkq
                  go_simp
                  try with_reducible rfl
                simp only [Act.put, List.setIfInBounds_toArray, List.set_cons_zero, List.set_cons_succ]
                refine' rI_read hCe (fun c hc => by cases hc) (fun _ _ _ => trivial) (Or.inl ⟨by rfl, fun wq hSq => _⟩) _
                rotate_left
                · obtain ⟨kq, hkq⟩ := hSq
                  have q0 := HV.out.1
                  have q2 := HV.out.2.1
                  have q3 := HV.out.2.2
                  subst hkq
                  go_simp
                  try with_reducible rfl
                simp only [Act.put, List.setIfInBounds_toArray, List.set_cons_zero, List.set_cons_succ]
                refine rI_arith hCe (fun _ _ _ => trivial) hCd rfl _ _ _ _ _ rfl rfl _ _ _ rfl rfl ?_
                intro r hr
                have hrb := HB.out r hr
                subst hrb
                simp only [Act.put, List.setIfInBounds_toArray, List.set_cons_zero, List.set_cons_succ]
                refine rI_nil (fun w3 hw3 => ?_)
                obtain ⟨q3, rfl⟩ := hw3
                clear hr
                cases hgt : gtB r
                · have hlq := HLQ.out
                  rw [hgt] at hlq
                  have hlq' : (FloatKind.f32.format.order r 0 == some Ordering.lt || FloatKind.f32.format.order r 0 == some Ordering.eq) = true := hlq
                  have HGT := Frame.hid hgt
                  clear hgt hlq
                  gi_wp2
                  refine ⟨by simp, .inl ⟨_, _, rfl, run_takeDeferred (P := Try.prog) (by exact HK.out), ?_⟩⟩
                  refine ⟨.tuple #[.slice none 0 0, .float .f32 0, .bool false], by simp [results, Try.f46, go_sem], .slice none 0 0, [], 0, false, rfl, .inl ⟨sp_yes HX.out h1 h2 HP.out HP2.out, us, by rw [← HX.out]; exact HFB.out, .inr ⟨⟨k, by rw [← HX.out]; exact hlt, by rw [← HBV.out]; exact HGT.out⟩, rfl, rfl, rfl⟩⟩, fun _ => rfl, (fun h => by cases h), ?_⟩
                  exact (below_drewN HS.out.bel _).trans (belowK_b (w := w) (Nat.le_refl _) _ D _ _ (by omega) (by exact HK.out) rfl rfl)
                · have hlq := HLQ.out
                  rw [hgt] at hlq
                  have hlq' : (FloatKind.f32.format.order r 0 == some Ordering.lt || FloatKind.f32.format.order r 0 == some Ordering.eq) = false := hlq
                  have HGT := Frame.hid hgt
                  clear hgt hlq
                  gi_wp2_with (refine wpListIn_arithY rfl _ _ _ _ _ rfl rfl _ _ _ rfl rfl ?_; intro r' n' hr' hl')
                  go_roundw
                  case rel =>
                    refine ⟨k + 1, _, _, by omega, by go_num, rfl, fun j hj => ?_, HSI.out _ _ _ (by assumption) (by assumption) (by assumption), by rfl⟩
                    by_cases h : j = k
                    · rw [h, ← HBV.out]; exact HGT.out
                    · exact HG.out j (by omega)
                  case measure => simp [intOf]; omega
              · have hkn : k = n := by omega
                subst hkn
                have a0 : ¬ ((k : Int) < (k : Int)) := by omega
                have q0 := HS.out.bS
                have HG := Frame.hid hG
                have HSM := Frame.hid hSM
                have hY := sp_yes HX.out h1 h2 HP.out HP2.out
                have hBK := HFB.out
                rw [HX.out] at hBK
                have HBK := Frame.hid (And.intro hY hBK)
                clear hG hSM hk hlt hY hBK
                cases hfn : fin .f32 t0
                · have HFN := Frame.hid hfn
                  clear hfn
                  gi_wp2_with (refine ⟨trivial, ?_⟩; gi_at_call 98; refine (callsIn_wide.2 (isFinite_calls _ _)).mono ?_; rintro e w' ⟨rfl, nn, rfl⟩; rw [HFN.out])
                  refine ⟨by simp, .inl ⟨_, _, rfl, run_takeDeferred (P := Try.prog) (by exact HK.out), ?_⟩⟩
                  refine ⟨.tuple #[.slice none 0 0, .float .f32 0, .bool false], by simp [results, Try.f46, go_sem], .slice none 0 0, [], 0, false, rfl, .inl ⟨HBK.out.1, us, HBK.out.2, .inl ⟨by rw [← HX.out]; exact HG.out, t0, by rw [← HX.out]; exact HSM.out, .inr ⟨HFN.out, rfl, rfl, rfl⟩⟩⟩, fun _ => rfl, (fun h => by cases h), ?_⟩
                  exact (below_drewN HS.out.bel _).trans (belowK_b (w := w) (Nat.le_refl _) _ D _ _ (by omega) (by exact HK.out) rfl rfl)
                · have HFN := Frame.hid hfn
                  clear hfn
                  gi_wp2_with (refine ⟨trivial, ?_⟩; gi_at_call 98; refine (callsIn_wide.2 (isFinite_calls _ _)).mono ?_; rintro e w' ⟨rfl, nn, rfl⟩; rw [HFN.out])
                  refine ⟨by simp, .inl ⟨_, _, rfl, run_takeDeferred (P := Try.prog) (by exact HK.out), ?_⟩⟩
                  refine ⟨.tuple #[.slice (some ⟨g, 0, none⟩) (k + 1) (k + 1), .float .f32 t0, .bool true], by simp [results, Try.f46, go_sem], .slice (some ⟨g, 0, none⟩) (k + 1) (k + 1), us, t0, true, rfl, .inl ⟨HBK.out.1, us, HBK.out.2, .inl ⟨by rw [← HX.out]; exact HG.out, t0, by rw [← HX.out]; exact HSM.out, .inl ⟨HFN.out, rfl, rfl, rfl⟩⟩⟩, (fun h => by cases h), fun _ => ?_, ?_⟩
                  · exact ((HS.out.drewN _).kept (base := w.heap.size) (grownBy_putObj' _ D (.deferred none)) (fun r e => by cases e; exact ⟨by omega, _, HK.out, rfl⟩) (Nat.le_refl _)).own
                  · exact (below_drewN HS.out.bel _).trans (belowK_b (w := w) (Nat.le_refl _) _ D _ _ (by omega) (by exact HK.out) rfl rfl)

end Go.Proofs.Ytohbanchaggnmaa
