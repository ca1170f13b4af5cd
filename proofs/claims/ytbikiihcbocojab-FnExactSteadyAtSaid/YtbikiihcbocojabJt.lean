/-
  A region that draws its order, of reads and of arithmetic on floats, whose results hang on the tape: each operation may leave any value of a relation, and one walk in the order of the text, for all of these values, serves every order.
  Own work; imports nothing of the program.
-/
import Derived.Test.YtbikiihcbocojabFl
import Derived.BigQuiet
import Derived.WalkKit
import Derived.Deep.Draws
namespace Go.Proofs.Ytbikiihcbocojab
open Go Go.RowKit Fl

section
variable {P : Program} {ops : Array Oper} {md : Region.Mode} {C : World → Prop} {Q : Act → Prop}

/-- What an operation may leave: a value of R, in a world of the class. -/
def mayUpon (C : World → Prop) (R : Value → Prop) : Result Next → Prop
  | .ok (.value u) w' => C w' ∧ R u
  | .ok .skip w' => C w' ∧ R undef
  | _ => False
theorem mayUpon_all {ι : Type} {R : ι → Value → Prop} {r : Result Next} (i0 : ι) (h : ∀ i, mayUpon C (R i) r) : mayUpon C (fun u => ∀ i, R i u) r := by
  have h0 := h i0
  match r, h0, h with
  | .ok (.value u) w', h0, h => exact ⟨h0.1, fun i => (h i).2⟩
  | .ok .skip w', h0, h => exact ⟨h0.1, fun i => (h i).2⟩
theorem mayUpon_some {R : Value → Prop} {r : Result Next} (h : mayUpon C R r) : ∃ u, ∀ S, mayUpon C S r → S u := by
  match r, h with
  | .ok (.value u) w', h => exact ⟨u, fun S hS => hS.2⟩
  | .ok .skip w', h => exact ⟨undef, fun S hS => hS.2⟩

def May (P : Program) (ops : Array Oper) (C : World → Prop) (o : Oper) (a : Act) (R : Value → Prop) : Prop :=
  (Region.wanted o (yielded ops a.tmps) = true ∧ ∀ w, C w → mayUpon C R ((execOp a.eval o).run P w)) ∨ (Region.wanted o (yielded ops a.tmps) = false ∧ R undef)
theorem May.moved {o : Oper} {a : Act} {x : Option Tmp} {v : Value} {R : Value → Prop} (hs : ∀ cs b, o.op ≠ .select cs b) (h : ∀ d, x = some d → d ∉ o.looksAt ops) : May P ops C o (a.put x v) R ↔ May P ops C o a R := by
  unfold May
  rw [wanted_put o a x v h, execOp_put o hs a x v h]

/-- Whatever order is picked from here on. -/
def rAny (P : Program) (md : Region.Mode) (ops : Array Oper) (C : World → Prop) (Q : Act → Prop) : Nat → Array Bool → Act → Prop
  | 0, listed, a => Region.ready md ops listed = [] ∧ Q a
  | fuel + 1, listed, a => (Region.ready md ops listed = [] → Q a) ∧
    ∀ i ∈ Region.ready md ops listed, ∃ o, ops[i]? = some o ∧ ∃ R : Value → Prop, (∃ v, R v) ∧ May P ops C o a R ∧ ∀ v, R v → rAny P md ops C Q fuel (listed.setIfInBounds i true) (a.put o.dst v)

theorem rAny_sound {Q' : Exit → Act → World → Prop} (hQ : ∀ a w, C w → Q a → Q' .normal a w) : ∀ (fuel : Nat) (listed : Array Bool) (a : Act) (w : World), C w → rAny P md ops C Q fuel listed a → wpAny P md ops Q' fuel listed a w
  | 0, _, _, _, hw, h => ⟨h.1, hQ _ _ hw h.2⟩
  | fuel + 1, listed, a, w, hw, h => ⟨fun h0 => hQ _ _ hw (h.1 h0), fun i hi => by
      obtain ⟨o, ho, R, _, hm, hk⟩ := h.2 i hi
      unfold wpOp
      simp only [ho]
      rcases hm with ⟨hw1, hg⟩ | ⟨hw1, hu⟩
      · rw [if_pos hw1]
        left
        have hg := hg w hw
        unfold Oper.wp
        revert hg
        generalize Sem.run P (execOp a.eval o) w = r
        intro hg
        match r, hg with
        | .ok (.value u) w', hg => exact rAny_sound hQ fuel _ _ _ hg.1 (hk u hg.2)
        | .ok .skip w', hg => exact rAny_sound hQ fuel _ _ _ hg.1 (hk undef hg.2)
      · rw [if_neg (by rw [hw1]; simp)]
        exact rAny_sound hQ fuel _ _ _ hw (hk undef hu)⟩

/-- An operation that may come up now may come first, if whatever else has not come up yet waits for it or is apart from it. -/
theorem rAny_first (hC : ∃ w, C w) {i : Nat} {oi : Oper} (hi : ops[i]? = some oi) (hsel : ∀ (j : Nat) (o : Oper) cs b, ops[j]? = some o → o.op ≠ .select cs b) :
    ∀ (fuel : Nat) (listed : Array Bool) (a : Act) (R : Value → Prop),
      (∀ j oj, ops[j]? = some oj → j ≠ i → listed.getD j true = false → (∀ e ∈ oj.after, Region.binds md e = true → e.on ≠ i) → oi.apart ops oj = true) →
      i ∈ Region.ready md ops listed → (∃ v, R v) → May P ops C oi a R →
      (∀ v, R v → rAny P md ops C Q fuel (listed.setIfInBounds i true) (a.put oi.dst v)) → rAny P md ops C Q (fuel + 1) listed a := by
  intro fuel
  induction fuel with
  | zero =>
    intro listed a R _ hr hne hm H
    refine ⟨fun h => absurd hr (by rw [h]; simp), fun j hj => ?_⟩
    by_cases hji : j = i
    · subst hji
      exact ⟨oi, hi, R, hne, hm, H⟩
    · obtain ⟨v, hv⟩ := hne
      have h1 := ready_mono hj hji
      rw [(H v hv).1] at h1
      cases h1
  | succ fuel ih =>
    intro listed a R hfree hr hne hm H
    refine ⟨fun h => absurd hr (by rw [h]; simp), fun j hj => ?_⟩
    by_cases hji : j = i
    · subst hji
      exact ⟨oi, hi, R, hne, hm, H⟩
    obtain ⟨hun, oj, hoj, hall⟩ := mem_ready.1 hj
    have hnot : ∀ e ∈ oj.after, Region.binds md e = true → e.on ≠ i := fun e he hb heq => by
      have g1 := hall e he hb
      rw [heq] at g1
      have g0 := (mem_ready.1 hr).1
      rcases Nat.lt_or_ge i listed.size with h' | h'
      · simp [h'] at g0 g1
        rw [g0] at g1
        cases g1
      · simp [Array.getElem?_eq_none h'] at g1
    obtain ⟨a1, a2, a3⟩ := Oper.apart_spec (hfree j oj hoj hji hun hnot)
    have hsi : ∀ cs b, oi.op ≠ .select cs b := fun cs b => hsel i oi cs b hi
    have hsj : ∀ cs b, oj.op ≠ .select cs b := fun cs b => hsel j oj cs b hoj
    have each : ∀ x : { v // R v }, ∃ S : Value → Prop, May P ops C oj (a.put oi.dst x.1) S ∧ ∀ u, S u → rAny P md ops C Q fuel ((listed.setIfInBounds i true).setIfInBounds j true) ((a.put oi.dst x.1).put oj.dst u) := fun x => by
      obtain ⟨o', ho', S, _, hS⟩ := (H x.1 x.2).2 j (ready_mono hj hji)
      rw [hoj] at ho'
      cases ho'
      exact ⟨S, hS⟩
    obtain ⟨f, hf⟩ := Classical.axiomOfChoice each
    obtain ⟨v0, hv0⟩ := hne
    have hmay : ∀ x, May P ops C oj a (f x) := fun x => (May.moved hsj a1).1 (hf x).1
    have hall' : May P ops C oj a (fun u => ∀ x, f x u) ∧ ∃ u, ∀ x, f x u := by
      cases hw : Region.wanted oj (yielded ops a.tmps)
      · have hu : ∀ x, f x undef := fun x => by
          rcases hmay x with ⟨h1, _⟩ | ⟨_, h1⟩
          · rw [hw] at h1; cases h1
          · exact h1
        exact ⟨.inr ⟨hw, hu⟩, undef, hu⟩
      · have hg : ∀ x w, C w → mayUpon C (f x) ((execOp a.eval oj).run P w) := fun x => by
          rcases hmay x with ⟨_, h1⟩ | ⟨h1, _⟩
          · exact h1
          · rw [hw] at h1; cases h1
        obtain ⟨w, hCw⟩ := hC
        obtain ⟨u, hu⟩ := mayUpon_some (hg ⟨v0, hv0⟩ w hCw)
        exact ⟨.inl ⟨hw, fun w hw' => mayUpon_all ⟨v0, hv0⟩ (fun x => hg x w hw')⟩, u, fun x => hu _ (hg x w hCw)⟩
    refine ⟨oj, hoj, fun u => ∀ x, f x u, hall'.2, hall'.1, fun u hu => ih (listed.setIfInBounds j true) (a.put oj.dst u) R ?_ (ready_mono hr (Ne.symm hji)) ⟨v0, hv0⟩ ((May.moved hsi a3).2 hm) (fun v hv => ?_)⟩
    · intro k ok hk hki hunk hno
      refine hfree k ok hk hki ?_ hno
      by_cases hjk : j = k
      · subst hjk; exact hun
      · rw [getD_set_ne true hjk] at hunk; exact hunk
    · have h := (hf ⟨v, hv⟩).2 u (hu ⟨v, hv⟩)
      rw [Act.put_comm a v u a2] at h
      rw [Array.setIfInBounds_comm _ _ hji]
      exact h

/-- The walk in the order of the text. -/
def rLex (P : Program) (ops : Array Oper) (C : World → Prop) (Q : Act → Prop) : List Oper → Act → Prop
  | [], a => Q a
  | o :: rest, a => ∃ R : Value → Prop, (∃ v, R v) ∧ May P ops C o a R ∧ ∀ v, R v → rLex P ops C Q rest (a.put o.dst v)

theorem rAny_lex (hC : ∃ w, C w) (hs : Region.noSelect ops = true) : ∀ (l : List Oper) (k : Nat) (listed : Array Bool) (a : Act), (∀ j, l[j]? = ops[k + j]?) →
    Region.lexFrom md ops l.length k listed = true → rLex P ops C Q l a → rAny P md ops C Q l.length listed a
  | [], _, _, _, _, hB, h => ⟨by simpa [Region.lexFrom] using hB, h⟩
  | o :: l, k, listed, a, hl, hB, h => by
    have h0 : ops[k]? = some o := by simpa using (hl 0).symm
    simp only [List.length_cons, Region.lexFrom, Bool.and_eq_true] at hB
    obtain ⟨⟨hr, hf⟩, hB'⟩ := hB
    obtain ⟨R, hne, hm, hk⟩ := h
    exact rAny_first hC h0 (Region.noSelect_spec hs) l.length listed a R (Region.free_spec h0 hf) (by simpa using hr) hne hm
      (fun v hv => rAny_lex hC hs l (k + 1) _ _ (fun j => by have := hl (j + 1); simpa [Nat.add_assoc, Nat.add_comm 1 j] using this) hB' (hk v hv))

theorem region_lex {id : Nat} {Q : Exit → Act → World → Prop} {a : Act} {w : World} {l : List Oper} (hm : P.follows .mixedOrders = true) (hB : Region.lexB .any l.toArray = true)
    (h : rLex P l.toArray (fun w' => ∃ n, w' = w.drewN n) (fun a' => ∀ n, Q .normal a' (w.drewN n)) l a) : (Code.region id l.toArray true).wp P Q a w := by
  simp only [Region.lexB, Bool.and_eq_true] at hB
  refine wp_region_any hm (rAny_sound (C := fun w' => ∃ n, w' = w.drewN n) (Q := fun a' => ∀ n, Q .normal a' (w.drewN n)) (fun a' w' ⟨n, hn⟩ h => by rw [hn]; exact h n) _ _ _ _ ⟨1, rfl⟩ ?_)
  have h1 := rAny_lex (C := fun w' => ∃ n, w' = w.drewN n) (md := .any) ⟨w, 0, rfl⟩ hB.1 l 0 (Array.replicate l.toArray.size false) a (by simp) (by simpa using hB.2) h
  simpa using h1

/-- Operations that call nothing. -/
def plainOp : Op → Bool
  | .move _ | .assign _ | .load _ _ | .binOp .. | .unOp .. | .convert .. | .slice .. | .fieldAddr .. | .field .. | .indexAddr .. | .extract .. | .build .. => true
  | _ => false
theorem plain_next {o : Oper} (h : plainOp o.op = true) (ρ : Operand → Value) (w : World) (f : FuncId) (args : Array Value) (w' : World) : (execOp ρ o).run P w ≠ .ok (.enter f args) w' := by
  have key : ∀ m : Sem Value, (do let x ← m; pure (Next.value x) : Sem Next).run P w ≠ .ok (.enter f args) w' := fun m => by
    simp only [Sem.run_bind]
    cases Sem.run P m w <;> simp [Result.andThen, Sem.run_pure]
  unfold execOp
  cases ho : o.op <;> rw [ho] at h <;> first | (cases h; done) | exact key _ | simp [Sem.run_pure]

theorem rLex_nil {a : Act} (h : Q a) : rLex P ops C Q [] a := h
theorem rLex_one {o : Oper} {rest : List Oper} {a : Act} (hp : plainOp o.op = true) (h : wpQuiet P ops C (rLex P ops C Q rest) [o] a) : rLex P ops C Q (o :: rest) a := by
  unfold wpQuiet at h
  by_cases hw : Region.wanted o (yielded ops a.tmps) = true
  · rw [if_pos hw] at h
    obtain ⟨v, hv, hn⟩ := h
    refine ⟨fun u => u = v, ⟨v, rfl⟩, .inl ⟨hw, fun w hCw => ?_⟩, fun u hu => by rw [hu]; exact hn⟩
    have h1 := hv w hCw
    unfold Oper.quietAt at h1
    have h2 := plain_next (P := P) hp a.eval w
    revert h1 h2
    generalize Sem.run P (execOp a.eval o) w = r
    intro h1 h2
    match r, h1, h2 with
    | .ok (.value u) w', h1, _ => exact ⟨by rw [h1.1]; exact hCw, h1.2⟩
    | .ok .skip w', h1, _ => exact ⟨by rw [h1.1]; exact hCw, h1.2.symm⟩
    | .ok (.enter f args) w', _, h2 => exact absurd rfl (h2 f args w')
  · rw [if_neg hw] at h
    exact ⟨fun u => u = undef, ⟨undef, rfl⟩, .inr ⟨by simpa using hw, rfl⟩, fun u hu => by rw [hu]; exact h⟩

theorem rLex_arith {w0 : World} {o : Oper} {rest : List Oper} {a : Act} (hg : o.guard = none) (op : BinOp) (t t' : TypeId) (x y : Operand) (ho : o.op = .binOp op t x y t') (hop' : isAr op = true) (k : FloatKind) (bx b : Nat) (hx : a.eval x = .float k bx) (hy : a.eval y = .float k b)
    (h : ∀ r, FOp op k bx b r → rLex P ops (fun w' => ∃ n, w' = w0.drewN n) Q rest (a.put o.dst (.float k r))) : rLex P ops (fun w' => ∃ n, w' = w0.drewN n) Q (o :: rest) a := by
  have hop := isAr_or hop'
  have hrun : ∀ w, ∃ r n, (execOp a.eval o).run P w = .ok (.value (.float k r)) (w.drewN n) ∧ FOp op k bx b r := fun w => by
    obtain ⟨r, n, hr, h1, _⟩ := run_arith_any (P := P) w op hop t k bx b
    refine ⟨r, n, ?_, h1⟩
    have hgd : (eqGuard op t x y (.float k bx) (.float k b)).run P w = .ok () w := by
      rcases hop with rfl | rfl | rfl | rfl <;> simp [eqGuard]
    unfold execOp
    simp only [ho, hx, hy, Sem.run_bind, hgd, Result.andThen_ok, hr, Sem.run_pure]
  obtain ⟨r0, _, _, hr0⟩ := hrun w0
  refine ⟨fun u => ∃ r, u = .float k r ∧ FOp op k bx b r, ⟨_, r0, rfl, hr0⟩, .inl ⟨by simp [Region.wanted, hg], ?_⟩, ?_⟩
  · rintro w ⟨n, rfl⟩
    obtain ⟨r, m, h1, h2⟩ := hrun (w0.drewN n)
    rw [h1]
    exact ⟨⟨n + m, World.drewN_drewN _ _ _⟩, r, rfl, h2⟩
  · rintro u ⟨r, rfl, hr⟩
    exact h r hr
end

end Go.Proofs.Ytbikiihcbocojab
