/-
  MoveSpot: a spot of an own slice is put anew; the program's side.
-/
import Derived.Test.YtnbgnaenlbphcaaKl
import Derived.Test.YtnbgnaenlbphcaaKd
namespace Go.Proofs.Ytnbgnaenlbphcaa
open Go.RowKit Fl Go.WideShapes Go.Deep
attribute [local go_sem] kstore_f kalloc_drewN kset_drewN hstore_i hstore_s

theorem sx_set (xs : List (Nat × Nat × Nat)) (k j : Nat) (p : Nat × Nat × Nat) (hk : k < xs.length) : sx (xs.set k p) j = (if j = k then p.1 else sx xs j) ∧ sy (xs.set k p) j = (if j = k then p.2.1 else sy xs j) ∧ sz (xs.set k p) j = (if j = k then p.2.2 else sz xs j) := by
  have h : (xs.set k p).getD j (0, 0, 0) = if j = k then p else xs.getD j (0, 0, 0) := by
    rw [List.getD_eq_getElem?_getD, List.getD_eq_getElem?_getD, List.getElem?_set]
    by_cases e : j = k
    · subst e; simp [hk]
    · rw [if_neg (fun e' => e e'.symm), if_neg e]
  unfold sx sy sz
  rw [h]
  split <;> exact ⟨rfl, rfl, rfl⟩

/-- An own slice of spots, one of them put anew. -/
theorem put_spot {w : World} {B g cap k x y z : Nat} {xs : List (Nat × Nat × Nat)} (h : OwnedS w B (.slice (some ⟨g, 0, none⟩) xs.length cap) xs) (hk : k < xs.length) :
    RdS (((w.setCell ⟨g, k * 3, none⟩ (.float .f32 x)).setCell ⟨g, k * 3 + 1, none⟩ (.float .f32 y)).setCell ⟨g, k * 3 + 2, none⟩ (.float .f32 z)) (some ⟨g, 0, none⟩) (xs.set k (x, y, z)) ∧
    OwS (((w.setCell ⟨g, k * 3, none⟩ (.float .f32 x)).setCell ⟨g, k * 3 + 1, none⟩ (.float .f32 y)).setCell ⟨g, k * 3 + 2, none⟩ (.float .f32 z)) B (.slice (some ⟨g, 0, none⟩) xs.length cap) xs.length := by
  obtain ⟨A, c, e, hr⟩ := h.rd
  injection e with e1 _ _
  subst e1
  obtain ⟨b, off, e, hlt, hc⟩ := hr.h (by omega)
  injection e with e
  injection e with e1 e2
  subst e1 e2
  rcases h.ow.h with ⟨h1, _⟩ | ⟨g', cap', cs, hv, hg, hh, hs⟩
  · cases h1
  · injection hv with hv _ _
    injection hv with hv
    injection hv with hv
    subst hv
    refine ⟨⟨fun _ => ⟨g, 0, rfl, by simpa using hlt, fun j hj => ?_⟩⟩, ⟨.inr ⟨g, cap, _, rfl, hg, heap_setS _ (heap_setS _ (heap_setS _ hh)), by simpa using hs⟩⟩⟩
    rw [List.length_set] at hj
    obtain ⟨q1, q2, q3⟩ := sx_set xs k j (x, y, z) hk
    rw [q1, q2, q3]
    obtain ⟨c0, c1, c2⟩ := hc j hj
    obtain ⟨d0, d1, d2⟩ := hc k hk
    rw [Nat.zero_add] at c0 c1 c2 d0 d1 d2
    have ne : ∀ m m', m ≠ m' → (⟨g, m, none⟩ : Addr) ≠ ⟨g, m', none⟩ := fun m m' hm e => by injection e with _ e; exact hm e
    by_cases e : j = k
    · subst e
      simp only
      rw [Nat.zero_add]
      refine ⟨?_, ?_, ?_⟩
      · rw [World.cell?_setCell_other _ _ _ _ (ne _ _ (by omega)), World.cell?_setCell_other _ _ _ _ (ne _ _ (by omega))]
        exact World.cell?_setCell_same' _ _ _ (by rw [d0]; rfl)
      · rw [World.cell?_setCell_other _ _ _ _ (ne _ _ (by omega))]
        exact World.cell?_setCell_same' _ _ _ (by rw [World.cell?_setCell_other _ _ _ _ (ne _ _ (by omega)), d1]; rfl)
      · exact World.cell?_setCell_same' _ _ _ (by rw [World.cell?_setCell_other _ _ _ _ (ne _ _ (by omega)), World.cell?_setCell_other _ _ _ _ (ne _ _ (by omega)), d2]; rfl)
    · simp only [if_neg e]
      rw [Nat.zero_add]
      refine ⟨?_, ?_, ?_⟩
      · rw [World.cell?_setCell_other _ _ _ _ (ne _ _ (by omega)), World.cell?_setCell_other _ _ _ _ (ne _ _ (by omega)), World.cell?_setCell_other _ _ _ _ (ne _ _ (by omega))]; exact c0
      · rw [World.cell?_setCell_other _ _ _ _ (ne _ _ (by omega)), World.cell?_setCell_other _ _ _ _ (ne _ _ (by omega)), World.cell?_setCell_other _ _ _ _ (ne _ _ (by omega))]; exact c1
      · rw [World.cell?_setCell_other _ _ _ _ (ne _ _ (by omega)), World.cell?_setCell_other _ _ _ _ (ne _ _ (by omega)), World.cell?_setCell_other _ _ _ _ (ne _ _ (by omega))]; exact c2

/-- A spot of a sheet may be put anew. -/
def mvB (a b : Int) (xs : List (Nat × Nat × Nat)) (i : Int) (x y z : Nat) : Bool := shB a b xs && (decide (0 ≤ i) && decide (i < xs.length)) && fin3 x y z

end Go.Proofs.Ytnbgnaenlbphcaa
