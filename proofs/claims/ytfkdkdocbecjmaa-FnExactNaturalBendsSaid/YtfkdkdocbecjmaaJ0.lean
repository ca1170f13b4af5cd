/-
  What lies below a bound and stays: small words for walks.
-/
import Derived.WalkKit
import Derived.Deep.Draws
import Derived.Test.YtfkdkdocbecjmaaSc
namespace Go.Proofs.Ytfkdkdocbecjmaa
open Go.RowKit

theorem jrd_of {n : Nat} {w w' : World} (h : Below n w w') : ∀ b i, b < n → w'.cell? ⟨b, i, none⟩ = w.cell? ⟨b, i, none⟩ := fun _ _ hb => h.cell hb
theorem jfz_of {n : Nat} {w w' : World} (h : Below n w w') : ∀ b i, b < n → w'.frozen? ⟨b, i, none⟩ = w.frozen? ⟨b, i, none⟩ := fun _ _ hb => h.frozen hb
theorem jsz_of {n : Nat} {w w' : World} (h : Below n w w') : ∀ m, m < w.heap.size → m < w'.heap.size := fun _ hm => Nat.lt_of_lt_of_le hm h.size
theorem jbelow_al {B : Nat} {a w : World} (o : Obj) (h : B ≤ w.heap.size ∧ Below B a w) : B ≤ (w.alloc o).heap.size ∧ Below B a (w.alloc o) := ⟨by simp; omega, h.2.alloc h.1 o⟩
theorem jbelow_dn {B : Nat} {a w : World} (n : Nat) (h : B ≤ w.heap.size ∧ Below B a w) : B ≤ (w.drewN n).heap.size ∧ Below B a (w.drewN n) := ⟨h.1, below_drewN h.2 n⟩
theorem jbelow_sc {B : Nat} {a w : World} {p : Addr} (hp : B ≤ p.block) (h : B ≤ w.heap.size ∧ Below B a w) (u : Value) : B ≤ (w.setCell p u).heap.size ∧ Below B a (w.setCell p u) := ⟨by simpa using h.1, h.2.setCell hp u⟩
theorem jbel_of {B : Nat} {a w : World} (h : B ≤ w.heap.size ∧ Below B a w) : Below B a w := h.2
theorem jbelow_st (w : World) : w.heap.size ≤ w.heap.size ∧ Below w.heap.size w w := ⟨Nat.le_refl _, Below.refl _ _⟩
theorem jbelow_ch {B C : Nat} {a w w' : World} (h : B ≤ w.heap.size ∧ Below B a w) (hB : Below C w w') (hC : C = w.heap.size) : B ≤ w'.heap.size ∧ Below B a w' := by
  subst hC
  exact ⟨Nat.le_trans h.1 hB.size, h.2.trans (hB.mono h.1)⟩
theorem jdrewN (w : World) (m k : Nat) : (w.drewN m).drewN k = w.drewN (m + k) := by
  simp [World.drewN, Nat.add_assoc]

theorem below_stepJ {w w1 w2 : World} {n : Nat} (h : Below w.heap.size w w1) (h2 : Below (w1.drewN n).heap.size (w1.drewN n) w2) : Below w.heap.size w w2 :=
  (below_drewN h n).trans (h2.mono h.size)

end Go.Proofs.Ytfkdkdocbecjmaa
