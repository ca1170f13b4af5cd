/-
  Cutting lists of spots: the specification's cutting.
-/
import Derived.Test.YtnbgnaenlbphcaaH5
namespace Go.Proofs.Ytnbgnaenlbphcaa
open Go.RowKit Fl Go.WideShapes Go.Deep
attribute [local go_sem] kstore_f kalloc_drewN kset_drewN hstore_i hstore_s

def sliceLen : Value → Nat
  | .slice _ n _ => n
  | _ => 0

/-- A slice's block is new since w. -/
def NewB (w : World) (A : Option Addr) : Prop := ∀ b off, A = some ⟨b, off, none⟩ → w.heap.size ≤ b
theorem NewB.mono {w w' : World} {A : Option Addr} (h : NewB w' A) (hs : w.heap.size ≤ w'.heap.size) : NewB w A := fun b off e => Nat.le_trans hs (h b off e)
theorem OwnedS.rdF {w w0 : World} {v : Value} {xs : List (Nat × Nat × Nat)} (h : OwnedS w w0.heap.size v xs) : ∃ A c, v = .slice A xs.length c ∧ RdS w A xs ∧ NewB w0 A := by
  obtain ⟨A, c, rfl, hR⟩ := h.rd
  refine ⟨A, c, rfl, hR, fun b off e => ?_⟩
  subst e
  rcases h.2 with ⟨h0, _⟩ | ⟨g, cap, cur, e, hg, _⟩
  · injection h0 with h0; cases h0
  · injection e with e1
    injection e1 with e1
    injection e1 with e1
    omega

end Go.Proofs.Ytnbgnaenlbphcaa
