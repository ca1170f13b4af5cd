/-
  The logarithm, walked on both sides.
-/
import Derived.Test.YtbdmmpkphiilkaaSw
import Derived.Test.YtbdmmpkphiilkaaLg
namespace Go.Proofs.Ytbdmmpkphiilkaa
open Go.RowKit Fl


def DownAt (y : Nat) (w : World) (xv ev : Value) (wr : World) : Prop := ∃ j x : Nat, ev = .int .i64 (j : Int) ∧ xv = .float .f64 x ∧ Down y j x ∧ x < 2 ^ FloatKind.f64.format.width ∧ ∃ m, wr = w.drewN m
def UpAt (y j0 : Nat) (w : World) (xv ev : Value) (wr : World) : Prop := ∃ i x : Nat, ev = .int .i64 ((j0 : Int) - (i : Int)) ∧ xv = .float .f64 x ∧ Up y i x ∧ x < 2 ^ FloatKind.f64.format.width ∧ ∃ m, wr = w.drewN m
def SumLAt (u : Nat) (w : World) (pv kv : Value) (wr : World) : Prop := ∃ j p : Nat, j ≤ 13 ∧ kv = .int .i64 (25 - 2 * (j : Int)) ∧ pv = .float .f64 p ∧ PolyL u j p ∧ p < 2 ^ FloatKind.f64.format.width ∧ ∃ m, wr = w.drewN m
theorem suml_step {u j p : Nat} (h : PolyL u j p) : ∀ d m z, FOp .quo .f64 4607182418800017408 (floatOfInt .f64 (25 - 2 * (j : Int))) d → FOp .mul .f64 u p m → FOp .add .f64 d m z → PolyL u (j + 1) z :=
  fun d m _ h1 h2 h3 => ⟨p, d, m, h, h1, h2, h3⟩
theorem down_more {y j x : Nat} (h : Down y j x) (hg : geB x = true) : ∀ z, FOp .quo .f64 x 4611686018427387904 z → Down y (j + 1) z := fun _ hz => ⟨x, h, hg, hz⟩
theorem up_more {y j x : Nat} (h : Up y j x) (hg : ltB x = true) : ∀ z, FOp .mul .f64 x 4611686018427387904 z → Up y (j + 1) z := fun _ hz => ⟨x, h, hg, hz⟩
theorem ge_cases (f : Nat) : FloatKind.f64.format.order f 4609434218613702656 = some Ordering.gt ∨ FloatKind.f64.format.order f 4609434218613702656 = some Ordering.eq ∨
    ((FloatKind.f64.format.order f 4609434218613702656 == some Ordering.gt) = false ∧ (FloatKind.f64.format.order f 4609434218613702656 == some Ordering.eq) = false) := by
  cases FloatKind.f64.format.order f 4609434218613702656 with
  | none => exact .inr (.inr ⟨rfl, rfl⟩)
  | some o => cases o
              · exact .inr (.inr ⟨rfl, rfl⟩)
              · exact .inr (.inl rfl)
              · exact .inl rfl
theorem geB_gt {f : Nat} (h : FloatKind.f64.format.order f 4609434218613702656 = some Ordering.gt) : geB f = true := by unfold geB; rw [h]; rfl
theorem geB_eq {f : Nat} (h : FloatKind.f64.format.order f 4609434218613702656 = some Ordering.eq) : geB f = true := by unfold geB; rw [h]; rfl
theorem geB_not {f : Nat} (h : (FloatKind.f64.format.order f 4609434218613702656 == some Ordering.gt) = false ∧ (FloatKind.f64.format.order f 4609434218613702656 == some Ordering.eq) = false) : geB f = false := by unfold geB; rw [h.1, h.2]; rfl

end Go.Proofs.Ytbdmmpkphiilkaa
