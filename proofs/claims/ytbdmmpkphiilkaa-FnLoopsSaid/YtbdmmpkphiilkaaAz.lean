/-
  AngleTurns against its law, walked.
-/
import Derived.Test.YtbdmmpkphiilkaaAy
namespace Go.Proofs.Ytbdmmpkphiilkaa
open Go.RowKit Fl

theorem angleTurns_calls (b c : Nat) (w : World) : Calls Try.prog 84 #[.float .f32 b, .float .f32 c] w (Gives .f32 (AngleV b c) w) := by
  cases fb : fin .f32 b
  · exact angleTurns_nan b c (.inl fb) w
  · cases fc : fin .f32 c
    · exact angleTurns_nan b c (.inr fc) w
    · cases hz : ((FloatKind.f32.format.order b 0 == some Ordering.eq) && (FloatKind.f32.format.order c 0 == some Ordering.eq))
      · exact angleTurns_some b c fb fc hz w
      · rw [Bool.and_eq_true] at hz
        exact angleTurns_zero b c fb fc hz.1 hz.2 w

end Go.Proofs.Ytbdmmpkphiilkaa
