/-
  A quiet region that draws its order, walked once in the round of a loop over an iterator: what a defer statement would do is shut out by its quietness itself.
-/
import Derived.Sort.QuietIn
import Derived.TacticsIn
namespace Go.Proofs.Ytfkdkdocbecjmaa
open Go

section
variable {F : Fence} {n : Nat} {P : Program} {ops : Array Oper} {md : Region.Mode} {C : World → Prop}

theorem jq_no_defer {o : Oper} {a : Act} {w : World} {v : Value} (h : o.quietAtIn F n P a C w v) (c : Call) : o.op ≠ .defer c := by
  intro hc
  unfold Oper.quietAtIn execOp at h
  rw [hc] at h
  simp only [Sem.run_bind] at h
  generalize Sem.run P _ w = r at h
  cases r <;> simp [Result.andThen, Oper.quietUponIn, Sem.run_pure] at h

theorem jq_step {o : Oper} {a : Act} {K : Act → Prop} {K' : Act → World → Prop} {Q' : Exit → Act → World → Prop} {w : World} (hw : C w) (h : ∀ a w', C w' → K a → K' a w')
    (ha : o.askedIn F P a C) (hh : o.quietIn F n P a C K) : o.wpIn F n P a w K' Q' := by
  obtain ⟨v, h1, h2⟩ := hh
  have h3 := h1 w hw
  refine ⟨ha w hw, ?_⟩
  rw [Oper.semAt_eq _ _ _ (jq_no_defer h3)]
  unfold Oper.quietAtIn at h3
  revert h3
  generalize Sem.run P (execOp a.eval o) w = r
  intro h3
  match r, h3 with
  | .ok (.value u) w', ⟨e1, e2⟩ => subst e1; subst e2; exact h _ _ hw h2
  | .ok .skip w', ⟨e1, e2⟩ => subst e1; subst e2; exact h _ _ hw h2
  | .ok (.enter f args) w', ⟨e1, hd, hcl⟩ =>
    subst e1
    refine ⟨hd, hcl.mono fun e w'' he => ?_⟩
    obtain ⟨rfl, hw''⟩ := he
    exact h _ _ hw'' h2

theorem jq_op {i : Nat} {a : Act} {K : Act → Prop} {K' : Act → World → Prop} {Q' : Exit → Act → World → Prop} {w : World} (hC : C w) (h : ∀ a w', C w' → K a → K' a w')
    (hh : qOpIn F n P ops C i K a) : wpOpIn F n P ops Q' i K' a w := by
  unfold qOpIn at hh
  unfold wpOpIn
  cases ho : ops[i]? with
  | none => rw [ho] at hh; exact h _ _ hC hh
  | some o =>
    rw [ho] at hh
    dsimp only at hh ⊢
    obtain ⟨ha, hh⟩ := hh
    by_cases hw : Region.wanted o (yielded ops a.tmps) = true
    · rw [if_pos hw] at hh ⊢
      exact jq_step hC h ha hh
    · rw [if_neg hw] at hh ⊢
      exact ⟨ha w hC, h _ _ hC hh⟩

theorem jq_any {Q : Act → Prop} {Q' : Exit → Act → World → Prop} (hQ : ∀ a w, C w → Q a → Q' .normal a w) : ∀ (fuel : Nat) (listed : Array Bool) (a : Act) (w : World), C w →
    wpAnyQIn F n P md ops C Q fuel listed a → wpAnyIn F n P md ops Q' fuel listed a w
  | 0, _, _, _, hw, h => ⟨h.1, hQ _ _ hw h.2⟩
  | fuel + 1, _, _, _, hw, h => ⟨fun h0 => hQ _ _ hw (h.1 h0), fun i hi => jq_op hw (fun a' w' hw' => jq_any hQ fuel _ a' w' hw') (h.2 i hi)⟩

theorem jq_region {id : Nat} {Q : Exit → Act → World → Prop} {a : Act} {w : World} {l : List Oper} (hm : P.follows .mixedOrders = true) (hB : Region.lexB .any l.toArray = true)
    (h : wpQuietIn F n P l.toArray (fun w' => ∃ n, w' = w.drewN n) (fun a' => ∀ w', (∃ n, w' = w.drewN n) → Q .normal a' w') l a) : (Code.region id l.toArray true).wpIn F n P Q a w := by
  simp only [Region.lexB, Bool.and_eq_true] at hB
  refine wpIn_region_any hm (jq_any (Q := fun a' => ∀ w', (∃ n, w' = w.drewN n) → Q .normal a' w') (C := fun w' => ∃ n, w' = w.drewN n) (fun _ w' hw' h => h w' hw') _ _ _ _ ⟨1, rfl⟩ ?_)
  have := wpAnyQIn_lex (F := F) (n := n) (P := P) (C := fun w' => ∃ n, w' = w.drewN n) (md := .any) hB.1 l 0 (Array.replicate l.toArray.size false) a (by simp) (by simpa using hB.2) h
  simpa using this
end

end Go.Proofs.Ytfkdkdocbecjmaa
