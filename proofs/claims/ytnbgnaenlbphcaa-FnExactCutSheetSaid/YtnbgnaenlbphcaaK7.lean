/-
  The law of MoveSpot, walked.
-/
import Derived.Test.YtnbgnaenlbphcaaK6
namespace Go.Proofs.Ytnbgnaenlbphcaa
open Go.RowKit Fl Go.WideShapes Go.Deep
attribute [local go_sem] kstore_f kalloc_drewN kset_drewN hstore_i hstore_s

theorem RdS.call {W w' : World} {A : Option Addr} {xs : List (Nat × Nat × Nat)} (h : RdS W A xs) (hB : Below W.heap.size W w') : RdS w' A xs := h.below hB
theorem RdS.alloc' {W : World} {A : Option Addr} {xs : List (Nat × Nat × Nat)} (h : RdS W A xs) (o : Obj) : RdS (W.alloc o) A xs := h.below ((Below.refl _ _).alloc (Nat.le_refl _) o)
theorem RdS.drewN' {W : World} {A : Option Addr} {xs : List (Nat × Nat × Nat)} (h : RdS W A xs) (k : Nat) : RdS (W.drewN k) A xs := h.below (below_drewN (Below.refl _ _) k)
theorem RdS.drew' {W : World} {A : Option Addr} {xs : List (Nat × Nat × Nat)} (h : RdS W A xs) : RdS W.drew A xs := h.below (Below.refl _ _).drew

end Go.Proofs.Ytnbgnaenlbphcaa
