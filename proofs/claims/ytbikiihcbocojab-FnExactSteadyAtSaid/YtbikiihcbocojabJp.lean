/-
  A region that draws its order, whose callees may make memory but change none, and hand back no address: walked once, in the order of the text.
  Own work; imports nothing of the program.
-/
import Derived.BigQuiet
import Derived.WalkKit
import Derived.Deep.Draws
namespace Go.Proofs.Ytbikiihcbocojab
open Go Go.RowKit

/-- A world in which whatever lay in w lies as it lay. -/
structure Grown (w : World) where
  W : World
  b : Below w.heap.size w W
instance grownNonempty (w : World) : Nonempty (Grown w) := ⟨⟨w, Below.refl _ _⟩⟩
theorem Grown.cell {w : World} (q : Grown w) {b i : Nat} {v : Value} (hb : b < w.heap.size) (h : w.cell? ⟨b, i, none⟩ = some v) : q.W.cell? ⟨b, i, none⟩ = some v := (q.b.cell (p := ⟨b, i, none⟩) hb).trans h
theorem calls_grown {P : Program} {f : FuncId} {args : Array Value} {w : World} {v : Value} {q : Grown w} (h : Calls P f args q.W fun e w' => e = .returned v ∧ Below q.W.heap.size q.W w') :
    Calls P f args q.W fun e w'' => e = .returned v ∧ ∃ q' : Grown w, w'' = q'.W :=
  h.mono fun _ w' ⟨he, hb⟩ => ⟨he, ⟨w', q.b.trans (hb.mono q.b.size)⟩, rfl⟩
theorem calls_grown_drew {P : Program} {f : FuncId} {args : Array Value} {w : World} {v : Value} {q : Grown w} (h : Calls P f args q.W fun e w' => e = .returned v ∧ ∃ m, w' = q.W.drewN m) :
    Calls P f args q.W fun e w'' => e = .returned v ∧ ∃ q' : Grown w, w'' = q'.W :=
  calls_grown (h.mono fun _ w' ⟨he, m, hm⟩ => ⟨he, by rw [hm]; exact ⟨rfl, rfl, rfl, Nat.le_refl _, fun _ _ => rfl⟩⟩)
theorem calls_grown_same {P : Program} {f : FuncId} {args : Array Value} {w : World} {v : Value} {q : Grown w} (h : Calls P f args q.W fun e w' => e = .returned v ∧ q.W = w') :
    Calls P f args q.W fun e w'' => e = .returned v ∧ ∃ q' : Grown w, w'' = q'.W :=
  calls_grown (h.mono fun _ w' ⟨he, hm⟩ => ⟨he, by rw [← hm]; exact Below.refl _ _⟩)

theorem region_grown {P : Program} {id : Nat} {Q : Exit → Act → World → Prop} {a : Act} {w : World} {l : List Oper} (hm : P.follows .mixedOrders = true) (hB : Region.lexB .any l.toArray = true)
    (h : wpQuiet P l.toArray (fun w' => ∃ q : Grown w, w' = q.W) (fun a' => ∀ w', (∃ q : Grown w, w' = q.W) → Q .normal a' w') l a) : (Code.region id l.toArray true).wp P Q a w :=
  wp_region_quiet (C := fun w' => ∃ q : Grown w, w' = q.W) hm hB ⟨⟨{ w with drawn := w.drawn + 1 }, ⟨rfl, rfl, rfl, Nat.le_refl _, fun _ _ => rfl⟩⟩, rfl⟩ (by simpa using h)

end Go.Proofs.Ytbikiihcbocojab
