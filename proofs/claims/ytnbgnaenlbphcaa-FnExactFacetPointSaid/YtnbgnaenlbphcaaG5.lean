/-
  A region that draws its order, of reads, then of what makes memory, then of ONE store at the end, which waits for all others and may turn what the reads have read.
  Own work; imports nothing of the program.
-/
import Derived.StillTail
import Derived.Deep.RegionHeld3
import Derived.WalkKit
import Derived.Test.YtnbgnaenlbphcaaFl
namespace Go.Proofs.Ytnbgnaenlbphcaa
open Go Go.RowKit

section
variable {P : Program} {ops : Array Oper} {md : Region.Mode} {Q : Exit → Act → World → Prop} {S : World → Prop}

/-- Whatever order is picked: S holds behind all operations but the last one. -/
def wpEnd (P : Program) (md : Region.Mode) (ops : Array Oper) (Q : Exit → Act → World → Prop) (S : World → Prop) (last : Nat) : Nat → Array Bool → Act → World → Prop
  | 0, listed, a, w => Region.ready md ops listed = [] ∧ Q .normal a w
  | fuel + 1, listed, a, w =>
    (Region.ready md ops listed = [] → Q .normal a w) ∧
    ∀ i ∈ Region.ready md ops listed, wpOp P ops Q i (fun a' w' => (i = last ∨ S w') ∧ wpEnd P md ops Q S last fuel (listed.setIfInBounds i true) a' w') a w

theorem wpAny_of_end {last : Nat} : ∀ (fuel : Nat) (listed : Array Bool) (a : Act) (w : World), wpEnd P md ops Q S last fuel listed a w → wpAny P md ops Q fuel listed a w
  | 0, _, _, _, h => h
  | fuel + 1, _, _, _, h => ⟨h.1, fun i hi => wpOp_mono (fun a' w' h' => wpAny_of_end fuel _ a' w' h'.2) (h.2 i hi)⟩

theorem unlisted_of_ready {i : Nat} {listed : Array Bool} {j : Nat} {oj : Oper} (hr : i ∈ Region.ready md ops listed) (hall : ∀ e ∈ oj.after, Region.binds md e = true → listed.getD e.on false = true) (_ : ops[j]? = some oj) :
    ∀ e ∈ oj.after, Region.binds md e = true → e.on ≠ i := fun e he hb heq => by
  have h1 := hall e he hb
  have h0 := (mem_ready.1 hr).1
  rw [heq] at h1
  rcases Nat.lt_or_ge i listed.size with h' | h'
  · simp [h'] at h0 h1; rw [h0] at h1; cases h1
  · simp [Array.getElem?_eq_none h'] at h1

theorem wpEnd_first {last i : Nat} {oi : Oper} {v : Value} (hi : ops[i]? = some oi) (hsel : ∀ (j : Nat) (o : Oper) cs b, ops[j]? = some o → o.op ≠ .select cs b)
    (hQ : ∀ c a w, Q (.panic c) (a.put oi.dst v) w → Q (.panic c) a w) (hwait : Region.waitsFor md ops last i = true) :
    ∀ (fuel : Nat) (listed : Array Bool) (a : Act) (w : World),
      (∀ j oj, ops[j]? = some oj → j ≠ i → listed.getD j true = false → (∀ e ∈ oj.after, Region.binds md e = true → e.on ≠ i) → oi.apart ops oj = true) →
      i ∈ Region.ready md ops listed → YieldsIf P ops S oi v a → S w →
      wpEnd P md ops Q S last fuel (listed.setIfInBounds i true) (a.put oi.dst v) w → wpEnd P md ops Q S last (fuel + 1) listed a w := by
  obtain ⟨ol, hol, el, hel, hbl, honl⟩ := Region.waitsFor_spec hwait
  intro fuel
  induction fuel with
  | zero =>
    intro listed a w _ hr hy hS H
    refine ⟨fun h => (by rw [h] at hr; cases hr), fun j hj => ?_⟩
    by_cases hji : j = i
    · subst hji; exact hy.wpOp hi hS ⟨.inr hS, H⟩
    · have h1 := ready_mono hj hji
      rw [H.1] at h1
      cases h1
  | succ fuel ih =>
    intro listed a w hfree hr hy hS H
    refine ⟨fun h => (by rw [h] at hr; cases hr), fun j hj => ?_⟩
    by_cases hji : j = i
    · subst hji; exact hy.wpOp hi hS ⟨.inr hS, H⟩
    · have h1 := H.2 j (ready_mono hj hji)
      obtain ⟨hjun, oj, hoj, hall⟩ := mem_ready.1 hj
      have hnot := unlisted_of_ready hr hall hoj
      have hjl : j ≠ last := fun e => by
        subst e
        rw [hol] at hoj
        injection hoj with hoj
        subst hoj
        exact hnot el hel hbl honl
      have h2 := wpOp_putIf hoj (hfree j oj hoj hji hjun hnot) (fun cs b => hsel i oi cs b hi) (fun cs b => hsel j oj cs b hoj) hQ hy h1
      have hfree' : ∀ k ok, ops[k]? = some ok → k ≠ i → (listed.setIfInBounds j true).getD k true = false →
          (∀ e ∈ ok.after, Region.binds md e = true → e.on ≠ i) → oi.apart ops ok = true := fun k ok hk hki hun hno => by
        refine hfree k ok hk hki ?_ hno
        by_cases hjk : j = k
        · subst hjk; exact hjun
        · rw [getD_set_ne true hjk] at hun; exact hun
      refine wpOp_mono (fun a' w' h3 => ?_) h2
      have hSw : S w' := h3.2.1.resolve_left hjl
      refine ⟨.inr hSw, ih (listed.setIfInBounds j true) a' w' hfree' (ready_mono hr (Ne.symm hji)) h3.1 hSw ?_⟩
      rw [Array.setIfInBounds_comm _ _ hji]
      exact h3.2.2

/-- What makes memory, in the order of the text, and the store at the end. -/
def wpTail (P : Program) (ops : Array Oper) (Q : Exit → Act → World → Prop) (S : World → Prop) : List Oper → Act → World → Prop
  | [], a, w => Q .normal a w
  | o :: rest, a, w => ∀ K : Act → World → Prop, Shut (∀ a' w', (rest.isEmpty = true ∨ S w') → wpTail P ops Q S rest a' w' → K a' w') → if Region.wanted o (yielded ops a.tmps) = true then Oper.wp P o a w K Q else K (a.put o.dst undef) w

theorem wpTail_cons {o : Oper} {rest : List Oper} {a : Act} {w : World} (h : ∀ K : Act → World → Prop, Shut (∀ a' w', (rest.isEmpty = true ∨ S w') → wpTail P ops Q S rest a' w' → K a' w') → if Region.wanted o (yielded ops a.tmps) = true then Oper.wp P o a w K Q else K (a.put o.dst undef) w) : wpTail P ops Q S (o :: rest) a w := h
theorem wpTail_nil {a : Act} {w : World} (h : Q .normal a w) : wpTail P ops Q S [] a w := h

theorem wpTail_done {a : Act} {w : World} (h : Q .normal a w) : wpTail P ops (NoPanic Q) S [] a w := h

theorem wpEnd_of_seq {last : Nat} : ∀ (l : List Oper) (k : Nat) (listed : Array Bool) (a : Act) (w : World), (∀ j, l[j]? = ops[k + j]?) → k + l.length = last + 1 →
    Region.seqB md ops l.length k listed = true → wpTail P ops Q S l a w → wpEnd P md ops Q S last l.length listed a w
  | [], _, _, _, _, _, _, hB, h => ⟨by simpa [Region.seqB] using hB, h⟩
  | o :: l, k, listed, a, w, hl, hk, hB, h => by
    have h0 : ops[k]? = some o := by simpa using (hl 0).symm
    simp only [List.length_cons, Region.seqB, Bool.and_eq_true, decide_eq_true_eq] at hB
    refine ⟨fun h1 => (by rw [hB.1] at h1; cases h1), fun i hi => ?_⟩
    rw [hB.1] at hi
    have hik : i = k := by simpa using hi
    subst hik
    refine wpOp_step h0 (fun K' hK => h K' (fun a' w' hS hT => hK a' w' ⟨?_, wpEnd_of_seq l (i + 1) _ a' w' (fun j => by have := hl (j + 1); simpa [Nat.add_assoc, Nat.add_comm 1 j] using this) (by simp only [List.length_cons] at hk; omega) hB.2 hT⟩))
    rcases hS with hS | hS
    · left
      have : l = [] := by simpa using hS
      subst this
      simp at hk
      omega
    · exact .inr hS

/-- The reads, in the order of the text. -/
def eLex (P : Program) (ops : Array Oper) (S : World → Prop) (L : Act → Prop) : List Oper → Act → Prop
  | [], a => L a
  | o :: rest, a => ∃ v, YieldsIf P ops S o v a ∧ eLex P ops S L rest (a.put o.dst v)
theorem eLex_cons {L : Act → Prop} {o : Oper} {rest : List Oper} {a : Act} {v : Value} (hy : YieldsIf P ops S o v a) (h : eLex P ops S L rest (a.put o.dst v)) : eLex P ops S L (o :: rest) a := ⟨v, hy, h⟩
theorem eLex_nil {L : Act → Prop} {a : Act} (h : L a) : eLex P ops S L [] a := h

def endHead (md : Region.Mode) (ops : Array Oper) (last g : Nat) : Nat → Nat → Array Bool → Bool
  | 0, k, listed => Region.seqB md ops g k listed
  | f + 1, k, listed => (Region.ready md ops listed).contains k && Region.free md ops listed k && Region.waitsFor md ops last k && endHead md ops last g f (k + 1) (listed.setIfInBounds k true)

theorem wpEnd_lex {last : Nat} {w : World} (hS : S w) (hsel : Region.noSelect ops = true) (hQ : ∀ c a (d : Option Tmp) v w, Q (.panic c) (a.put d v) w → Q (.panic c) a w) (tl : List Oper) :
    ∀ (l : List Oper) (k : Nat) (listed : Array Bool) (a : Act), (∀ j, (l ++ tl)[j]? = ops[k + j]?) → k + (l.length + tl.length) = last + 1 → endHead md ops last tl.length l.length k listed = true →
      eLex P ops S (fun a' => wpTail P ops Q S tl a' w) l a → wpEnd P md ops Q S last (l.length + tl.length) listed a w
  | [], k, listed, a, hl, hk, hB, h => by
    have := wpEnd_of_seq (last := last) tl k listed a w (by simpa using hl) (by simpa using hk) hB h
    simpa using this
  | o :: l, k, listed, a, hl, hk, hB, h => by
    have h0 : ops[k]? = some o := by simpa using (hl 0).symm
    simp only [List.length_cons, endHead, Bool.and_eq_true] at hB
    obtain ⟨⟨⟨hr, hf⟩, hw⟩, hB'⟩ := hB
    obtain ⟨v, hy, hK⟩ := h
    have e : (o :: l).length + tl.length = (l.length + tl.length) + 1 := by simp only [List.length_cons]; omega
    rw [e]
    refine wpEnd_first h0 (Region.noSelect_spec hsel) (fun c a w => hQ c a _ v w) hw _ listed a w (Region.free_spec h0 hf) (by simpa using hr) hy hS ?_
    exact wpEnd_lex hS hsel hQ tl l (k + 1) _ _ (fun j => by have := hl (j + 1); simpa [Nat.add_assoc, Nat.add_comm 1 j] using this) (by simp only [List.length_cons] at hk; omega) hB' hK

theorem region_end {id : Nat} {Q : Exit → Act → World → Prop} {a : Act} {w : World} {l : List Oper} (n : Nat) (S : World → Prop) (hm : P.follows .mixedOrders = true)
    (hB : (Region.noSelect l.toArray && decide (n ≤ l.length) && decide (0 < l.length) && endHead .any l.toArray (l.length - 1) (l.length - n) n 0 (Array.replicate l.length false)) = true) (hS : S w.drew)
    (h : eLex P l.toArray S (fun a' => wpTail P l.toArray (NoPanic Q) S (l.drop n) a' w.drew) (l.take n) a) : (Code.region id l.toArray true).wp P Q a w := by
  simp only [Bool.and_eq_true, decide_eq_true_eq] at hB
  obtain ⟨⟨⟨hsel, hn⟩, hpos⟩, hlex⟩ := hB
  refine wp_region_noPanic (wp_region_any hm (wpAny_of_end (S := S) (last := l.length - 1) _ _ _ _ ?_))
  have htl : (l.take n).length = n := by simp; omega
  have hdl : (l.drop n).length = l.length - n := by simp
  have H := wpEnd_lex (md := .any) (last := l.length - 1) hS hsel (fun _ _ _ _ _ h => h) (l.drop n) (l.take n) 0 (Array.replicate l.toArray.size false) a
    (fun j => by rw [List.take_append_drop]; simp) (by rw [htl, hdl]; omega) (by rw [htl, hdl]; simpa using hlex) h
  rw [htl, hdl, show n + (l.length - n) = l.length by omega] at H
  simpa using H

/-! Branching over what may come up, by hand. -/
def AllE (P : Program) (md : Region.Mode) (ops : Array Oper) (Q : Exit → Act → World → Prop) (S : World → Prop) (last fuel : Nat) (listed : Array Bool) (a : Act) (w : World) (rs : List Nat) : Prop :=
  ∀ i ∈ rs, wpOp P ops Q i (fun a' w' => (i = last ∨ S w') ∧ wpEnd P md ops Q S last fuel (listed.setIfInBounds i true) a' w') a w
theorem AllE.nil {last fuel : Nat} {listed : Array Bool} {a : Act} {w : World} : AllE P md ops Q S last fuel listed a w [] := fun _ h => by cases h
theorem AllE.cons {l : List Oper} {last fuel : Nat} {listed : Array Bool} {a : Act} {w : World} {i : Nat} {o : Oper} {rs : List Nat} (ho : l[i]? = some o)
    (h : ∀ K' : Act → World → Prop, Shut (∀ a' w', (i = last ∨ S w') → wpEnd P md l.toArray Q S last fuel (listed.setIfInBounds i true) a' w' → K' a' w') → if Region.wanted o (yielded l.toArray a.tmps) = true then Oper.wp P o a w K' Q else K' (a.put o.dst undef) w)
    (hs : AllE P md l.toArray Q S last fuel listed a w rs) : AllE P md l.toArray Q S last fuel listed a w (i :: rs) := fun j hj => by
  rcases List.mem_cons.1 hj with rfl | hj
  · exact wpOp_step (by simpa using ho) (fun K' hK => h K' (fun a' w' hS hW => hK a' w' ⟨hS, hW⟩))
  · exact hs j hj
theorem wpEnd_ready {last fuel : Nat} {listed : Array Bool} {a : Act} {w : World} (rs : List Nat) (hr : Region.ready md ops listed = rs) (hne : rs.isEmpty = false)
    (h : AllE P md ops Q S last fuel listed a w rs) : wpEnd P md ops Q S last (fuel + 1) listed a w :=
  ⟨(fun h0 => by rw [hr] at h0; rw [h0] at hne; cases hne), fun i hi => h i (by rw [hr] at hi; exact hi)⟩
theorem wpEnd_done {last : Nat} {listed : Array Bool} {a : Act} {w : World} (hr : Region.ready md ops listed = []) (h : Q .normal a w) : wpEnd P md ops (NoPanic Q) S last 0 listed a w := ⟨hr, h⟩

/-- A read is taken first, by its number. -/
theorem wpEnd_take {l : List Oper} {last fuel : Nat} {listed : Array Bool} {a : Act} {w : World} {v : Value} (i : Nat) {o : Oper} (ho : l[i]? = some o)
    (hB : (Region.noSelect l.toArray && (Region.ready md l.toArray listed).contains i && Region.free md l.toArray listed i && Region.waitsFor md l.toArray last i) = true) (hS : S w)
    (hy : YieldsIf P l.toArray S o v a) (h : wpEnd P md l.toArray (NoPanic Q) S last fuel (listed.setIfInBounds i true) (a.put o.dst v) w) : wpEnd P md l.toArray (NoPanic Q) S last (fuel + 1) listed a w := by
  simp only [Bool.and_eq_true] at hB
  obtain ⟨⟨⟨hs, hr⟩, hf⟩, hw⟩ := hB
  have ho' : l.toArray[i]? = some o := by simpa using ho
  exact wpEnd_first ho' (Region.noSelect_spec hs) (fun _ _ _ h => h) hw fuel listed a w (Region.free_spec ho' hf) (by simpa using hr) hy hS h

theorem region_hand {id : Nat} {Q : Exit → Act → World → Prop} {a : Act} {w : World} {l : List Oper} (last : Nat) (S : World → Prop) (hm : P.follows .mixedOrders = true)
    (h : wpEnd P .any l.toArray (NoPanic Q) S last l.length (Array.replicate l.length false) a w.drew) : (Code.region id l.toArray true).wp P Q a w := by
  refine wp_region_noPanic (wp_region_any hm (wpAny_of_end (S := S) (last := last) _ _ _ _ ?_))
  simpa using h

/-- Arithmetic on floats, whatever it may leave. -/
theorem step_arith {o : Oper} {a : Act} {w : World} {K : Act → World → Prop} {E : Prop} (hg : o.guard = none) (op : BinOp) (t t' : TypeId) (x y : Operand) (ho : o.op = .binOp op t x y t') (hop' : Fl.isAr op = true) (k : FloatKind) (bx b : Nat) (hx : a.eval x = .float k bx) (hy : a.eval y = .float k b)
    (h : ∀ r n, Fl.FOp op k bx b r → r < 2 ^ k.format.width → K (a.put o.dst (.float k r)) (w.drewN n)) : if Region.wanted o (yielded ops a.tmps) = true then Oper.wp P o a w K Q else E := by
  have hw : Region.wanted o (yielded ops a.tmps) = true := by simp [Region.wanted, hg]
  rw [if_pos hw]
  have hop := Fl.isAr_or hop'
  obtain ⟨r, n, hr, h1, h2⟩ := Fl.run_arith_any (P := P) w op hop t k bx b
  unfold Oper.wp execOp
  have hgd : (eqGuard op t x y (.float k bx) (.float k b)).run P w = .ok () w := by
    rcases hop with rfl | rfl | rfl | rfl <;> simp [eqGuard]
  simp only [ho, hx, hy, Sem.run_bind, hgd, Result.andThen_ok, hr, Sem.run_pure]
  exact h r n h1 h2
end

end Go.Proofs.Ytnbgnaenlbphcaa
