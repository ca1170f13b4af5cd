/-
  EdgeOfSheet, walked on both sides.
-/
import Derived.Test.YtnbgnaenlbphcaaH1
namespace Go.Proofs.Ytnbgnaenlbphcaa
open Go.RowKit Fl Go.WideShapes Go.Deep
attribute [local go_sem] kstore_f kalloc_drewN kset_drewN hstore_i hstore_s

/-- Where the spots of an edge lie; how many there are. -/
def edgeF (p q : Nat) (side : Int) : Nat → Nat := fun j => if side = 0 then j else if side = 1 then (q - 1) * p + j else if side = 2 then j * p else j * p + (p - 1)
def edgeM (p q : Nat) (side : Int) : Nat := if side < 2 then p else q
def edgeB (a b : Int) (xs : List (Nat × Nat × Nat)) (side : Int) : Bool := shB a b xs && (decide (0 ≤ side) && decide (side ≤ 3))
def edgeL (a b : Int) (xs : List (Nat × Nat × Nat)) (side : Int) : List (Nat × Nat × Nat) := partL xs (edgeF a.toNat b.toNat side) (edgeM a.toNat b.toNat side)

/-- What a call hands out. -/
def OutS (K : Bool) (N : Nat) (Z : List (Nat × Nat × Nat)) (W : World) (e : Ending) (w' : World) : Prop :=
  ∃ A c, e = .returned (.tuple #[.slice A N c, .bool K]) ∧ RdS w' A Z ∧ OwS w' W.heap.size (.slice A N c) N ∧ Below W.heap.size W w'

theorem shB_open {a b : Int} {xs : List (Nat × Nat × Nat)} {n : Nat} (hx : n = xs.length) (h : shB a b xs = true) : ∃ p q : Nat, a = (p : Int) ∧ b = (q : Int) ∧ (2 ≤ p ∧ p ≤ 6) ∧ (2 ≤ q ∧ q ≤ 6) ∧ n = p * q := by
  unfold shB at h
  simp only [Bool.and_eq_true, decide_eq_true_eq] at h
  obtain ⟨⟨h3, h4⟩, -⟩ := h
  obtain ⟨⟨a1, a2⟩, ⟨b1, b2⟩, -, -⟩ := cntB_mul h3
  obtain ⟨p, rfl⟩ := Int.eq_ofNat_of_zero_le (by omega : 0 ≤ a)
  obtain ⟨q, rfl⟩ := Int.eq_ofNat_of_zero_le (by omega : 0 ≤ b)
  refine ⟨p, q, rfl, rfl, by omega, by omega, ?_⟩
  rw [hx]
  exact_mod_cast h4

theorem rowOut {w' : World} {B m : Nat} {v : Value} {L : List (Nat × Nat × Nat)} (hO : OwnedS w' B v L) (hm : L.length = m) : ∃ A c, v = .slice A m c ∧ RdS w' A L ∧ OwS w' B (.slice A m c) m := by
  obtain ⟨A, c, rfl, hr⟩ := hO.rd
  have ho := hO.ow
  rw [hm] at ho ⊢
  exact ⟨A, c, rfl, hr, ho⟩

end Go.Proofs.Ytnbgnaenlbphcaa
