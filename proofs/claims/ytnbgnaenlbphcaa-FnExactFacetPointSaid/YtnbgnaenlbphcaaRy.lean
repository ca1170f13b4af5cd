/-
  A region that draws its order, of reads, of arithmetic on floats, of calls that may make memory, and of ONE operation at the end that waits for all others: one walk in the order of the text, for all values that each operation may leave, serves every order.
  Own work; imports nothing of the program.
-/
import Derived.Test.YtnbgnaenlbphcaaG5
import Derived.Deep.Draws
namespace Go.Proofs.Ytnbgnaenlbphcaa
open Go Go.RowKit Fl

section
variable {P : Program} {ops : Array Oper} {md : Region.Mode} {C : World → Prop} {Rel : FuncId → Array Value → Value → Prop} {Q : Exit → Act → World → Prop}

/-- What an operation may leave: what a run of it leaves in a world of the class, or what is told of a call. -/
def Lv (P : Program) (ops : Array Oper) (C : World → Prop) (Rel : FuncId → Array Value → Value → Prop) (o : Oper) (a : Act) (v : Value) : Prop :=
  (Region.wanted o (yielded ops a.tmps) = true ∧ ∃ w w', C w ∧ ((execOp a.eval o).run P w = .ok (.value v) w' ∨ ∃ f args, (execOp a.eval o).run P w = .ok (.enter f args) w' ∧ Rel f args v)) ∨
  (Region.wanted o (yielded ops a.tmps) = false ∧ v = undef)
/-- It leaves something, whatever world of the class it meets, and stays in the class. -/
def Goes (P : Program) (ops : Array Oper) (C : World → Prop) (Rel : FuncId → Array Value → Value → Prop) (o : Oper) (a : Act) : Prop :=
  Region.wanted o (yielded ops a.tmps) = true → ∀ w, C w → (∃ v w', (execOp a.eval o).run P w = .ok (.value v) w' ∧ C w') ∨
    (∃ f args w', (execOp a.eval o).run P w = .ok (.enter f args) w' ∧ Calls P f args w' fun e w'' => ∃ v, e = .returned v ∧ Rel f args v ∧ C w'')
theorem Lv.moved {o : Oper} {a : Act} {x : Option Tmp} {u v : Value} (hs : ∀ cs b, o.op ≠ .select cs b) (h : ∀ d, x = some d → d ∉ o.looksAt ops) : Lv P ops C Rel o (a.put x u) v ↔ Lv P ops C Rel o a v := by
  unfold Lv
  rw [wanted_put o a x u h, execOp_put o hs a x u h]
theorem Goes.moved {o : Oper} {a : Act} {x : Option Tmp} {u : Value} (hs : ∀ cs b, o.op ≠ .select cs b) (h : ∀ d, x = some d → d ∉ o.looksAt ops) : Goes P ops C Rel o (a.put x u) ↔ Goes P ops C Rel o a := by
  unfold Goes
  rw [wanted_put o a x u h, execOp_put o hs a x u h]

/-- Whatever order is picked from here on; L is what stands before the last one. -/
def rAnyC (P : Program) (md : Region.Mode) (ops : Array Oper) (C : World → Prop) (Rel : FuncId → Array Value → Value → Prop) (L : Act → Prop) (last : Nat) : Nat → Array Bool → Act → Prop
  | 0, listed, a => Region.ready md ops listed = [last] ∧ Region.ready md ops (listed.setIfInBounds last true) = [] ∧ L a
  | fuel + 1, listed, a => Region.ready md ops listed ≠ [] ∧
    ∀ i ∈ Region.ready md ops listed, i ≠ last ∧ ∃ o, ops[i]? = some o ∧ Goes P ops C Rel o a ∧ ∀ v, Lv P ops C Rel o a v → rAnyC P md ops C Rel L last fuel (listed.setIfInBounds i true) (a.put o.dst v)

theorem rAnyC_sound {L : Act → Prop} {last : Nat} (hL : ∀ a w, C w → L a → wpOp P ops Q last (fun a' w' => Q .normal a' w') a w) :
    ∀ (fuel : Nat) (listed : Array Bool) (a : Act) (w : World), C w → rAnyC P md ops C Rel L last fuel listed a → wpAny P md ops Q (fuel + 1) listed a w
  | 0, listed, a, w, hw, h => ⟨fun h0 => (by rw [h.1] at h0; cases h0), fun i hi => by
      rw [h.1] at hi
      have hil : i = last := by simpa using hi
      subst hil
      exact wpOp_mono (fun a' w' hq => ⟨h.2.1, hq⟩) (hL a w hw h.2.2)⟩
  | fuel + 1, listed, a, w, hw, h => ⟨fun h0 => absurd h0 h.1, fun i hi => by
      obtain ⟨_, o, ho, hg, hk⟩ := h.2 i hi
      unfold wpOp
      simp only [ho]
      cases hw1 : Region.wanted o (yielded ops a.tmps)
      · rw [if_neg (by simp)]
        exact rAnyC_sound hL fuel _ _ _ hw (hk undef (.inr ⟨hw1, rfl⟩))
      · rw [if_pos rfl]
        left
        unfold Oper.wp
        rcases hg hw1 w hw with ⟨v, w', hr, hC'⟩ | ⟨f, args, w', hr, hc⟩
        · rw [hr]
          exact rAnyC_sound hL fuel _ _ _ hC' (hk v (.inl ⟨hw1, w, w', hw, .inl hr⟩))
        · rw [hr]
          refine Calls.mono hc ?_
          rintro e w'' ⟨v, rfl, hv, hC''⟩
          exact rAnyC_sound hL fuel _ _ _ hC'' (hk v (.inl ⟨hw1, w, w', hw, .inr ⟨f, args, hr, hv⟩⟩))⟩

theorem rAnyC_first {L : Act → Prop} {last i : Nat} {oi : Oper} (hi : ops[i]? = some oi) (hsel : ∀ (j : Nat) (o : Oper) cs b, ops[j]? = some o → o.op ≠ .select cs b) (hwait : Region.waitsFor md ops last i = true) :
    ∀ (fuel : Nat) (listed : Array Bool) (a : Act),
      (∀ j oj, ops[j]? = some oj → j ≠ i → listed.getD j true = false → (∀ e ∈ oj.after, Region.binds md e = true → e.on ≠ i) → oi.apart ops oj = true) →
      i ∈ Region.ready md ops listed → Goes P ops C Rel oi a → (∃ v, Lv P ops C Rel oi a v) →
      (∀ v, Lv P ops C Rel oi a v → rAnyC P md ops C Rel L last fuel (listed.setIfInBounds i true) (a.put oi.dst v)) → rAnyC P md ops C Rel L last (fuel + 1) listed a := by
  obtain ⟨ol, hol, el, hel, hbl, honl⟩ := Region.waitsFor_spec hwait
  have hsi : ∀ cs b, oi.op ≠ .select cs b := fun cs b => hsel i oi cs b hi
  have notLast : ∀ (listed : Array Bool) (j : Nat), i ∈ Region.ready md ops listed → j ∈ Region.ready md ops listed → j ≠ last := fun listed j hr hj e => by
    obtain ⟨_, oj, hoj, hall⟩ := mem_ready.1 hj
    have hnot := unlisted_of_ready hr hall hoj
    subst e
    rw [hol] at hoj
    injection hoj with hoj
    subst hoj
    exact hnot el hel hbl honl
  intro fuel
  induction fuel with
  | zero =>
    intro listed a _ hr hg hne H
    refine ⟨fun h => (by rw [h] at hr; cases hr), fun j hj => ?_⟩
    by_cases hji : j = i
    · subst hji; exact ⟨notLast listed j hr hr, oi, hi, hg, H⟩
    · obtain ⟨v, hv⟩ := hne
      have h1 := ready_mono hj hji
      rw [(H v hv).1] at h1
      exact absurd (by simpa using h1) (notLast listed j hr hj)
  | succ fuel ih =>
    intro listed a hfree hr hg hne H
    refine ⟨fun h => (by rw [h] at hr; cases hr), fun j hj => ?_⟩
    by_cases hji : j = i
    · subst hji; exact ⟨notLast listed j hr hr, oi, hi, hg, H⟩
    obtain ⟨hjun, oj, hoj, hall⟩ := mem_ready.1 hj
    have hnot := unlisted_of_ready hr hall hoj
    obtain ⟨a1, a2, a3⟩ := Oper.apart_spec (hfree j oj hoj hji hjun hnot)
    have hsj : ∀ cs b, oj.op ≠ .select cs b := fun cs b => hsel j oj cs b hoj
    have hfree' : ∀ k ok, ops[k]? = some ok → k ≠ i → (listed.setIfInBounds j true).getD k true = false →
        (∀ e ∈ ok.after, Region.binds md e = true → e.on ≠ i) → oi.apart ops ok = true := fun k ok hk hki hun hno => by
      refine hfree k ok hk hki ?_ hno
      by_cases hjk : j = k
      · subst hjk; exact hjun
      · rw [getD_set_ne true hjk] at hun; exact hun
    have each : ∀ v, Lv P ops C Rel oi a v → Goes P ops C Rel oj (a.put oi.dst v) ∧ ∀ u, Lv P ops C Rel oj (a.put oi.dst v) u → rAnyC P md ops C Rel L last fuel ((listed.setIfInBounds i true).setIfInBounds j true) ((a.put oi.dst v).put oj.dst u) := fun v hv => by
      obtain ⟨_, o', ho', g, K⟩ := (H v hv).2 j (ready_mono hj hji)
      rw [hoj] at ho'
      cases ho'
      exact ⟨g, K⟩
    obtain ⟨v0, hv0⟩ := hne
    refine ⟨notLast listed j hr hj, oj, hoj, (Goes.moved hsj a1).1 (each v0 hv0).1, fun u hu => ?_⟩
    refine ih (listed.setIfInBounds j true) (a.put oj.dst u) hfree' (ready_mono hr (Ne.symm hji)) ((Goes.moved hsi a3).2 hg) ⟨v0, (Lv.moved hsi a3).2 hv0⟩ (fun v hv => ?_)
    have hv' := (Lv.moved hsi a3).1 hv
    have h := (each v hv').2 u ((Lv.moved hsj a1).2 hu)
    rw [Act.put_comm a v u a2] at h
    rw [Array.setIfInBounds_comm _ _ hji]
    exact h

/-- The walk in the order of the text. -/
def rLexC (P : Program) (ops : Array Oper) (C : World → Prop) (Rel : FuncId → Array Value → Value → Prop) (L : Act → Prop) : List Oper → Act → Prop
  | [], a => L a
  | o :: rest, a => Goes P ops C Rel o a ∧ (∃ v, Lv P ops C Rel o a v) ∧ ∀ v, Lv P ops C Rel o a v → rLexC P ops C Rel L rest (a.put o.dst v)

theorem rAnyC_lex {L : Act → Prop} {last : Nat} (hs : Region.noSelect ops = true) : ∀ (l : List Oper) (k : Nat) (listed : Array Bool) (a : Act), (∀ j, j < l.length → l[j]? = ops[k + j]?) → k + l.length = last →
    endHead md ops last 1 l.length k listed = true → rLexC P ops C Rel L l a → rAnyC P md ops C Rel L last l.length listed a
  | [], k, listed, a, _, hk, hB, h => by
    simp only [List.length_nil, Nat.add_zero] at hk
    subst hk
    simp only [List.length_nil, endHead, Region.seqB, Bool.and_eq_true, decide_eq_true_eq, List.isEmpty_iff] at hB
    exact ⟨hB.1, hB.2, h⟩
  | o :: l, k, listed, a, hl, hk, hB, h => by
    have h0 : ops[k]? = some o := by simpa using (hl 0 (by simp)).symm
    simp only [List.length_cons, endHead, Bool.and_eq_true] at hB
    obtain ⟨⟨⟨hr, hf⟩, hwt⟩, hB'⟩ := hB
    obtain ⟨hg, hne, hK⟩ := h
    exact rAnyC_first h0 (Region.noSelect_spec hs) hwt l.length listed a (Region.free_spec h0 hf) (by simpa using hr) hg hne
      (fun v hv => rAnyC_lex hs l (k + 1) _ _ (fun j hj => by have := hl (j + 1) (by simp; omega); simpa [Nat.add_assoc, Nat.add_comm 1 j] using this) (by simp only [List.length_cons] at hk; omega) hB' (hK v hv))

theorem region_may {id : Nat} {a : Act} {w : World} {l : List Oper} {ol : Oper} (C : World → Prop) (Rel : FuncId → Array Value → Value → Prop) (hm : P.follows .mixedOrders = true)
    (hB : (Region.noSelect (l ++ [ol]).toArray && endHead .any (l ++ [ol]).toArray l.length 1 l.length 0 (Array.replicate (l.length + 1) false)) = true) (hC : C w.drew)
    (h : rLexC P (l ++ [ol]).toArray C Rel (fun a' => ∀ w', C w' → wpTail P (l ++ [ol]).toArray (NoPanic Q) C [ol] a' w') l a) : (Code.region id (l ++ [ol]).toArray true).wp P Q a w := by
  simp only [Bool.and_eq_true] at hB
  obtain ⟨hsel, hend⟩ := hB
  refine wp_region_noPanic (wp_region_any hm ?_)
  have hsz : (l ++ [ol]).toArray.size = l.length + 1 := by simp
  have hlast : (l ++ [ol]).toArray[l.length]? = some ol := by simp
  have H := rAnyC_lex (md := .any) (last := l.length) hsel l 0 (Array.replicate (l.length + 1) false) a (fun j hj => by simp [List.getElem?_append_left hj]) (by omega) hend h
  have hS := rAnyC_sound (P := P) (ops := (l ++ [ol]).toArray) (md := .any) (C := C) (Rel := Rel) (Q := NoPanic Q) (last := l.length) (fun a' w' hw hL => wpOp_step hlast (fun K' hK => hL w' hw K' (fun a'' w'' hS hT => hK a'' w'' hT))) l.length (Array.replicate (l.length + 1) false) a w.drew hC H
  rw [hsz]
  exact hS

theorem region_may_n {id : Nat} {a : Act} {w : World} {l : List Oper} (n : Nat) {ol : Oper} (C : World → Prop) (Rel : FuncId → Array Value → Value → Prop) (hl : l.drop n = [ol]) (hm : P.follows .mixedOrders = true)
    (hB : (Region.noSelect l.toArray && endHead .any l.toArray n 1 n 0 (Array.replicate (n + 1) false)) = true) (hC : C w.drew)
    (h : rLexC P l.toArray C Rel (fun a' => ∀ w', C w' → wpTail P l.toArray (NoPanic Q) C [ol] a' w') (l.take n) a) : (Code.region id l.toArray true).wp P Q a w := by
  have hlen : (l.take n).length = n := by
    have h1 : (l.drop n).length = 1 := by rw [hl]; rfl
    rw [List.length_drop] at h1
    rw [List.length_take]
    omega
  have e : l = l.take n ++ [ol] := by rw [← hl, List.take_append_drop]
  generalize hm0 : l.take n = m at *
  subst e
  exact region_may C Rel hm (by rw [hlen]; exact hB) hC h

variable {L : Act → Prop}
theorem rC_nil {a : Act} (h : L a) : rLexC P ops C Rel L [] a := h
/-- A read. -/
theorem rC_read {o : Oper} {rest : List Oper} {a : Act} {v : Value} (hC : ∃ w, C w) (hy : YieldsIf P ops C o v a) (h : rLexC P ops C Rel L rest (a.put o.dst v)) : rLexC P ops C Rel L (o :: rest) a := by
  have hu : ∀ u, Lv P ops C Rel o a u → u = v := fun u hu => by
    rcases hy with ⟨h1, h2⟩ | ⟨h1, h2⟩
    · rcases hu with ⟨_, w, w', hw, hr | ⟨f, args, hr, _⟩⟩ | ⟨g, _⟩
      · rw [h2 w hw] at hr; injection hr with hr; injection hr with hr; exact hr.symm
      · rw [h2 w hw] at hr; injection hr with hr; cases hr
      · rw [h1] at g; cases g
    · rcases hu with ⟨g, _⟩ | ⟨_, g⟩
      · rw [h1] at g; cases g
      · rw [g, h2]
  refine ⟨fun hw1 w hw => ?_, ⟨v, ?_⟩, fun u hv => by rw [hu u hv]; exact h⟩
  · rcases hy with ⟨_, h2⟩ | ⟨h1, _⟩
    · exact .inl ⟨v, w, h2 w hw, hw⟩
    · rw [h1] at hw1; cases hw1
  · rcases hy with ⟨h1, h2⟩ | ⟨h1, h2⟩
    · obtain ⟨w, hw⟩ := hC
      exact .inl ⟨h1, w, w, hw, .inl (h2 w hw)⟩
    · exact .inr ⟨h1, h2⟩
/-- Arithmetic on floats. -/
theorem rC_arith {o : Oper} {rest : List Oper} {a : Act} (hC : ∃ w, C w) (hd : ∀ w n, C w → C (w.drewN n)) (hg : o.guard = none) (op : BinOp) (t t' : TypeId) (x y : Operand) (ho : o.op = .binOp op t x y t') (hop' : isAr op = true) (k : FloatKind) (bx b : Nat) (hx : a.eval x = .float k bx) (hy : a.eval y = .float k b)
    (h : ∀ r, FOp op k bx b r → rLexC P ops C Rel L rest (a.put o.dst (.float k r))) : rLexC P ops C Rel L (o :: rest) a := by
  have hop := isAr_or hop'
  have hrun : ∀ w, ∃ r n, (execOp a.eval o).run P w = .ok (.value (.float k r)) (w.drewN n) ∧ FOp op k bx b r := fun w => by
    obtain ⟨r, n, hr, h1, _⟩ := run_arith_any (P := P) w op hop t k bx b
    refine ⟨r, n, ?_, h1⟩
    have hgd : (eqGuard op t x y (.float k bx) (.float k b)).run P w = .ok () w := by
      rcases hop with rfl | rfl | rfl | rfl <;> simp [eqGuard]
    unfold execOp
    simp only [ho, hx, hy, Sem.run_bind, hgd, Result.andThen_ok, hr, Sem.run_pure]
  have hw1 : Region.wanted o (yielded ops a.tmps) = true := by simp [Region.wanted, hg]
  refine ⟨fun _ w hw => ?_, ?_, fun u hu => ?_⟩
  · obtain ⟨r, n, h1, _⟩ := hrun w
    exact .inl ⟨_, _, h1, hd w n hw⟩
  · obtain ⟨w, hw⟩ := hC
    obtain ⟨r, n, h1, _⟩ := hrun w
    exact ⟨_, .inl ⟨hw1, w, _, hw, .inl h1⟩⟩
  · rcases hu with ⟨_, w, w', hw, hr | ⟨f, args, hr, _⟩⟩ | ⟨g, _⟩
    · obtain ⟨r, n, h1, h2⟩ := hrun w
      rw [h1] at hr
      injection hr with hr
      injection hr with hr
      rw [← hr]
      exact h r h2
    · obtain ⟨r, n, h1, h2⟩ := hrun w
      rw [h1] at hr
      injection hr with hr
      cases hr
    · rw [hw1] at g; cases g
/-- A call, of which Rel tells what it may give. -/
theorem rC_call {o : Oper} {rest : List Oper} {a : Act} (hC : ∃ w, C w) (hw1 : Region.wanted o (yielded ops a.tmps) = true) (f : FuncId) (args : Array Value) (hrun : ∀ w, C w → (execOp a.eval o).run P w = .ok (.enter f args) w)
    (hcall : ∀ w, C w → Calls P f args w fun e w' => ∃ v, e = .returned v ∧ Rel f args v ∧ C w') (h : ∀ v, Rel f args v → rLexC P ops C Rel L rest (a.put o.dst v)) : rLexC P ops C Rel L (o :: rest) a := by
  refine ⟨fun _ w hw => .inr ⟨f, args, w, hrun w hw, hcall w hw⟩, ?_, fun u hu => ?_⟩
  · obtain ⟨w, hw⟩ := hC
    obtain ⟨e, w', fr, ⟨v, _, hv, _⟩, _⟩ := hcall w hw []
    exact ⟨v, .inl ⟨hw1, w, w, hw, .inr ⟨f, args, hrun w hw, hv⟩⟩⟩
  · rcases hu with ⟨_, w, w', hw, hr | ⟨f', args', hr, hv⟩⟩ | ⟨g, _⟩
    · rw [hrun w hw] at hr; injection hr with hr; cases hr
    · rw [hrun w hw] at hr
      injection hr with hr
      injection hr with h1 h2
      subst h1 h2
      exact h u hv
    · rw [hw1] at g; cases g
end

end Go.Proofs.Ytnbgnaenlbphcaa
