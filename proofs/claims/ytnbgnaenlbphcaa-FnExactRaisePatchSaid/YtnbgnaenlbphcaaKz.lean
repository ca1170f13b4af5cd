/-
  CornerSheet, walked on both sides.
-/
import Derived.Test.YtnbgnaenlbphcaaKy
namespace Go.Proofs.Ytnbgnaenlbphcaa
open Go.RowKit Fl Go.WideShapes Go.Deep
attribute [local go_sem] kstore_f kalloc_drewN kset_drewN hstore_i hstore_s

theorem four_rd (W : World) (g : Nat) (hg : g = W.heap.size) (x0 y0 z0 x1 y1 z1 x2 y2 z2 x3 y3 z3 : Nat) : RdS (W.alloc (.cells #[.float .f32 x0, .float .f32 y0, .float .f32 z0, .float .f32 x1, .float .f32 y1, .float .f32 z1, .float .f32 x2, .float .f32 y2, .float .f32 z2, .float .f32 x3, .float .f32 y3, .float .f32 z3] 57)) (some ⟨g, 0, none⟩) [(x0, y0, z0), (x1, y1, z1), (x2, y2, z2), (x3, y3, z3)] ∧ OwS (W.alloc (.cells #[.float .f32 x0, .float .f32 y0, .float .f32 z0, .float .f32 x1, .float .f32 y1, .float .f32 z1, .float .f32 x2, .float .f32 y2, .float .f32 z2, .float .f32 x3, .float .f32 y3, .float .f32 z3] 57)) g (.slice (some ⟨g, 0, none⟩) 4 4) 4 := by
  subst hg
  refine ⟨⟨fun _ => ⟨W.heap.size, 0, rfl, by simp, fun j hj => ?_⟩⟩, ⟨.inr ⟨W.heap.size, 4, #[.float .f32 x0, .float .f32 y0, .float .f32 z0, .float .f32 x1, .float .f32 y1, .float .f32 z1, .float .f32 x2, .float .f32 y2, .float .f32 z2, .float .f32 x3, .float .f32 y3, .float .f32 z3], rfl, Nat.le_refl _, by show (W.heap.push _)[W.heap.size]? = _; simp, by simp⟩⟩⟩
  have hj4 : j < 4 := hj
  rcases (by omega : j = 0 ∨ j = 1 ∨ j = 2 ∨ j = 3) with rfl | rfl | rfl | rfl <;> refine ⟨?_, ?_, ?_⟩ <;> (rw [World.cell?_alloc_new]; rfl)

end Go.Proofs.Ytnbgnaenlbphcaa
