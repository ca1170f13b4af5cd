/-
  Tenths of decibels, walked on both sides.
-/
import Derived.Test.YtbdmmpkphiilkaaLy
import Derived.Test.YtbdmmpkphiilkaaTn
namespace Go.Proofs.Ytbdmmpkphiilkaa
open Go.RowKit Fl Ieee

theorem run_floor {P : Program} (w : World) {x : Nat} {k : Int} (h : WLe x k) : (Extern.MathFloor.toIntegral "math.archFloor" .down #[.float .f64 x]).run P w = .ok (.float .f64 (floorW x)) w := by
  obtain ⟨s, m, p, e, _⟩ := h
  have hd : FloatKind.f64.decode x = .number s m p := e
  have key : Extern.MathFloor.toIntegral "math.archFloor" .down #[.float .f64 x] = (match FloatKind.f64.decode x with
    | .nan s t => if FloatKind.f64.format.quiet t = t then pure (.float .f64 x) else do
      pure (.float .f64 (if (← choose (.extern "math.Floor,Ceil,Trunc,RoundToEven.signallingNaN kept" 2)) == 1 then x else FloatKind.f64.encode (.nan s (FloatKind.f64.format.quiet t))))
    | d => pure (.float .f64 (FloatKind.f64.encode (d.integral .down)))) := rfl
  rw [key, hd]
  have e2 : floorW x = FloatKind.f64.encode ((Datum.number s m p).integral .down) := by unfold floorW; rw [e]; rfl
  rw [e2]
  rfl

/-- Which numbers have tenths. -/
def posB (b : Nat) : Bool := fin .f32 b && FloatKind.f32.format.order b 0 == some Ordering.gt

/-- What both sides give. -/
def TenGives (b : Nat) (w : World) (e : Ending) (w' : World) : Prop :=
  ∃ n t m, e = .returned (.tuple #[.int .i64 n, .bool t]) ∧ ((posB b = true ∧ t = true ∧ TenV b n) ∨ (posB b = false ∧ t = false ∧ n = 0)) ∧ w' = w.drewN m

theorem fin_order {b : Nat} (h : fin .f32 b = true) : FloatKind.f32.format.order b 0 = some Ordering.lt ∨ FloatKind.f32.format.order b 0 = some Ordering.eq ∨ FloatKind.f32.format.order b 0 = some Ordering.gt := by
  have h32 : FloatKind.f32.format = single := rfl
  unfold fin at h
  rw [h32] at h ⊢
  unfold Format.order
  rw [zero32]
  cases hr : single.read b with
  | nan s t => rw [hr] at h; cases h
  | infinity s => rw [hr] at h; cases h
  | number s m p =>
    rw [order_zero]
    split
    · exact .inr (.inl rfl)
    · split
      · exact .inl rfl
      · exact .inr (.inr rfl)

theorem pos_kinds {b y : Nat} (hb : b < 4294967296) (hf : fin .f32 b = true) (ho : FloatKind.f32.format.order b 0 = some Ordering.gt) (h : FCv .f32 .f64 b y) :
    isNan .f64 y = false ∧ FloatKind.f64.format.order y 0 = some Ordering.gt ∧ WGe y (-149) ∧ WLe y 128 := by
  rcases log_kinds hb h with ⟨g1, _⟩ | ⟨_, _, o1, _⟩ | ⟨_, _, o1, _⟩ | ⟨g1, _⟩ | ⟨_, g2, _, _, o2, g4, g5⟩
  · have := fin_eq .f32 b
    rw [hf, g1] at this
    cases this
  · rw [ho] at o1; cases o1
  · rw [ho] at o1; cases o1
  · subst g1
    have : fin .f32 2139095040 = false := by decide
    rw [this] at hf; cases hf
  · exact ⟨g2, o2, g4, g5⟩

theorem ten_same {b : Nat} {n n' : Int} {t t' : Bool} (h : (posB b = true ∧ t = true ∧ TenV b n) ∨ (posB b = false ∧ t = false ∧ n = 0)) (h' : (posB b = true ∧ t' = true ∧ TenV b n') ∨ (posB b = false ∧ t' = false ∧ n' = 0)) : n' = n ∧ t' = t := by
  rcases h with ⟨h1, h2, h3⟩ | ⟨h1, h2, h3⟩ <;> rcases h' with ⟨g1, g2, g3⟩ | ⟨g1, g2, g3⟩
  · exact ⟨TenV.det h3 g3, by rw [h2, g2]⟩
  · rw [h1] at g1; cases g1
  · rw [h1] at g1; cases g1
  · exact ⟨by rw [h3, g3], by rw [h2, g2]⟩

end Go.Proofs.Ytbdmmpkphiilkaa
