/-
  slices.Chunk of integers, three by three: what it hands to its loop.
-/
import Derived.Test.YtnbgnaenlbphcaaJg
import Derived.Test.YtnbgnaenlbphcaaZi
namespace Go.Proofs.Ytnbgnaenlbphcaa
open Go.RowKit Go.Shelf Fl Ieee
attribute [local go_sem] Oper.semAt_some

def encCh (b : Nat) {m : Nat} (x : Fin m) : Array Value := #[.slice (some ⟨b, 3 * x.val, none⟩) 3 3]
theorem grown_drew (W : World) : W.grownBy W.drew none := ⟨rfl, rfl, rfl, Nat.le_refl _, fun _ _ _ => rfl⟩

end Go.Proofs.Ytnbgnaenlbphcaa
