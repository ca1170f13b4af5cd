/-
  CornerSheet, walked on both sides; sheets that are handed out.
-/
import Derived.Test.YtnbgnaenlbphcaaKq
namespace Go.Proofs.Ytnbgnaenlbphcaa
open Go.RowKit Fl Go.WideShapes Go.Deep
attribute [local go_sem] kstore_f kalloc_drewN kset_drewN hstore_i hstore_s

/-- A sheet that is handed out: itself if it is valid, else nothing. -/
structure ShO (w : World) (B : Nat) (a b : Int) (xs : List (Nat × Nat × Nat)) (a' b' : Int) (v : Value) (ok : Bool) : Prop where
  k : ok = shB a b xs
  t : ok = true → a' = a ∧ b' = b ∧ OwS w B v xs.length ∧ ∃ A c, v = .slice A xs.length c ∧ RdS w A xs
  f : ok = false → a' = 0 ∧ b' = 0 ∧ v = .slice none 0 0
theorem ShO.below {w w' : World} {B : Nat} {a b a' b' : Int} {xs : List (Nat × Nat × Nat)} {v : Value} {ok : Bool} (h : ShO w B a b xs a' b' v ok) (hB : Below w.heap.size w w') : ShO w' B a b xs a' b' v ok := by
  refine ⟨h.k, fun e => ?_, h.f⟩
  obtain ⟨h1, h2, h3, A, c, h4, h5⟩ := h.t e
  exact ⟨h1, h2, h3.below hB, A, c, h4, h5.below hB⟩
theorem OwS.set {w : World} {B n k i : Nat} {v u : Value} (h : OwS w B v n) (hk : k < B) : OwS (w.setCell ⟨k, i, none⟩ u) B v n := ⟨by
  rcases h.h with h1 | ⟨g, cap, cs, rfl, hg, hh, hs⟩
  · exact .inl h1
  · exact .inr ⟨g, cap, cs, rfl, hg, by rw [Below.heap_setCell _ _ _ _ (by simp; omega)]; exact hh, hs⟩⟩

end Go.Proofs.Ytnbgnaenlbphcaa
