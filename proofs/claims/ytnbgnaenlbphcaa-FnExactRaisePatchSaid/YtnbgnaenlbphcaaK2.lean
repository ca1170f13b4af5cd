/-
  FlatSheet: quotients, the closure; the specification's sheet.
-/
import Derived.Test.YtnbgnaenlbphcaaKg
import Derived.Test.YtnbgnaenlbphcaaKy
import Derived.Deep.DeepCutAuto
namespace Go.Proofs.Ytnbgnaenlbphcaa
open Go.RowKit Fl Go.WideShapes Go.Deep
attribute [local go_sem] kstore_f kalloc_drewN kset_drewN hstore_i hstore_s

/-- A quotient of two integers, as 32-bit numbers. -/
def QuoI (a b : Int) (r : Nat) : Prop := FOp .quo .f32 (floatOfInt .f32 a) (floatOfInt .f32 b) r

set_option maxRecDepth 100000 in
theorem quotient_calls (a b : Int) (w : World) : Calls Try.prog 155 #[.int .i64 a, .int .i64 b] w fun e w' => ∃ r m, e = .returned (.float .f32 r) ∧ QuoI a b r ∧ w' = w.drewN m := by
  unfold QuoI
  go_enter Try.func155, Try.ntmps155
  go_wp2_with (refine wpList_arith rfl _ _ _ _ _ rfl rfl _ _ _ rfl rfl ?_; intro r n hr hl)
  go_ret
  exact ⟨_, _, rfl, hr, rfl⟩

/-- A spot of a flat sheet. -/
def FlatR (m n : Int) (wide long : Nat) (i j : Int) (x y : Nat) : Prop := (∃ q, QuoI i (m - 1) q ∧ FOp .mul .f32 wide q x) ∧ ∃ q, QuoI j (n - 1) q ∧ FOp .mul .f32 long q y
theorem FlatR.same {m n i j : Int} {wide long x y x' y' : Nat} (h : FlatR m n wide long i j x y) (g : FlatR m n wide long i j x' y') : FSame .f32 x x' ∧ FSame .f32 y y' := by
  obtain ⟨⟨_, h1, h2⟩, ⟨_, h3, h4⟩⟩ := h
  obtain ⟨⟨_, g1, g2⟩, ⟨_, g3, g4⟩⟩ := g
  exact ⟨FOp.same (FSame.refl _ _) (FOp.same (FSame.refl _ _) (FSame.refl _ _) h1 g1) h2 g2, FOp.same (FSame.refl _ _) (FOp.same (FSame.refl _ _) (FSame.refl _ _) h3 g3) h4 g4⟩

end Go.Proofs.Ytnbgnaenlbphcaa
