/-
  FlipSheet, the program's side: the sheet that is made of a function of places.
-/
import Derived.Test.YtohbanchaggnmaaK9
import Derived.Deep.RegionLaw
namespace Go.Proofs.Ytohbanchaggnmaa
open Go.RowKit Fl Go.WideShapes Go.Deep
attribute [local go_sem] kstore_f kalloc_drewN kset_drewN hstore_i hstore_s

theorem ownsRow_call {w W : World} {base : Nat} {e : TypeId} {size : Nat} {v : Value} {n : Nat} {xs : List Value} (h : w.ownsRow base e size v n xs) (hB : Below w.heap.size w W) : W.ownsRow base e size v n xs :=
  ⟨h.1, h.2.imp id fun ⟨g, cap, cur, h1, h2, h3, h4⟩ => ⟨g, cap, cur, h1, h2, (by rw [hB.block g (Array.getElem?_eq_some_iff.1 h3).1]; exact h3), h4⟩⟩
theorem Below.call' {B : Nat} {a W w' : World} (h0 : B ≤ a.heap.size) (h : Below B a W) (hB : Below W.heap.size W w') : Below B a w' := h.trans (hB.mono (Nat.le_trans h0 h.size))
theorem SK_of0 {n : Nat} {wc W : World} (h : n ≤ W.heap.size ∧ SK n wc [] W) : SK n wc [] W := h.2
theorem SK_all0 {n : Nat} {wc W : World} (h : SK n wc [] W) : n ≤ W.heap.size ∧ SK n wc [] W := ⟨h.s, h⟩
theorem flip_place {p q j i : Nat} (hi : i < q) : (j * q + i) % q * p + (j * q + i) / q = i * p + j := by
  have h1 : (j * q + i) % q = i := by rw [Nat.mul_comm, Nat.mul_add_mod, Nat.mod_eq_of_lt hi]
  have h2 : (j * q + i) / q = j := by rw [Nat.mul_comm, Nat.mul_add_div (by omega), Nat.div_eq_of_lt hi, Nat.add_zero]
  rw [h1, h2]

end Go.Proofs.Ytohbanchaggnmaa
