/-
  Shares, walked on both sides.
-/
import Derived.Test.YtnbgnaenlbphcaaOw
import Derived.Maps.AppendAt
namespace Go.Proofs.Ytnbgnaenlbphcaa
open Go.RowKit Fl Ieee

theorem cmp_swap (a b : Int) : compare b a = (compare a b).swap := by
  rcases Int.lt_trichotomy a b with h | h | h
  · rw [cmp_lt h, cmp_gt h]; rfl
  · subst h; rw [compare_self]; rfl
  · rw [cmp_gt h, cmp_lt h]; rfl
theorem datum_swap (d e : Datum) : e.order d = (d.order e).map Ordering.swap := by
  cases d with
  | nan s u => cases e <;> rfl
  | infinity s =>
    cases e with
    | nan u v => rfl
    | infinity u => cases s <;> cases u <;> rfl
    | number u m p => cases s <;> rfl
  | number s m p =>
    cases e with
    | nan u v => rfl
    | infinity u => cases u <;> rfl
    | number u n q =>
      simp only [Datum.order, Option.map_some]
      rw [← cmp_swap, Int.min_comm]
theorem order_swap (k : FloatKind) (x y : Nat) : k.format.order y x = (k.format.order x y).map Ordering.swap := datum_swap _ _

theorem isShare_calls (t : Nat) (w : World) : Calls Try.prog 61 #[.float .f32 t] w fun e w' => e = .returned (.bool (isShareB t)) ∧ w = w' := by
  have e0 : isShareB t = ((FloatKind.f32.format.order 0 t == some Ordering.lt || FloatKind.f32.format.order 0 t == some Ordering.eq) && (FloatKind.f32.format.order t 1065353216 == some Ordering.lt || FloatKind.f32.format.order t 1065353216 == some Ordering.eq)) := by
    unfold isShareB
    rw [order_swap .f32 t 0]
    cases FloatKind.f32.format.order t 0 with
    | none => rfl
    | some o => cases o <;> rfl
  rw [e0]
  clear e0
  go_enter Try.func61, Try.ntmps61
  go_wp2
  all_goals
    go_ret
    simp [*]

theorem l02Share_calls (t : Nat) (w : World) : Calls Try.prog 57 #[.float .f32 t] w fun e w' => e = .returned (.bool (isShareB t)) ∧ w = w' := by
  unfold isShareB
  go_enter Try.func57, Try.ntmps57
  go_wp2
  all_goals
    go_ret
    simp [*]

/-- What both give where there is an answer, and where there is none. -/
def SharesOk (n : Int) (t : Nat) (w : World) (e : Ending) (w' : World) : Prop :=
  ∃ g cap ys, e = .returned (.tuple #[.slice (some ⟨g, 0, none⟩) ys.length cap, .bool true]) ∧ ShR t n.toNat ys ∧ OwnF w' w.heap.size (.slice (some ⟨g, 0, none⟩) ys.length cap) ys ∧ Below w.heap.size w w'
def SharesNo (w : World) (e : Ending) (w' : World) : Prop := e = .returned (.tuple #[.slice none 0 0, .bool false]) ∧ w' = w

/-- The round of the program: the numbers from the end on are the next list's. -/
def Half (t : Nat) (ys zs : List Nat) (i : Nat) : Prop :=
  zs.length = ys.length + 1 ∧ (∀ q, q + i < ys.length + 1 → zs.getD q 0 = ys.getD q 0) ∧ ∀ q, ys.length + 1 ≤ q + i → q ≤ ys.length → ShStep t (ys.getD q 0) (before ys q) (zs.getD q 0)

theorem half_start (t : Nat) (ys : List Nat) : Half t ys (ys ++ [0]) 0 := by
  refine ⟨by simp, fun q hq => ?_, fun q h1 h2 => by omega⟩
  rw [getD_snoc]
  split
  · rename_i h; rw [h, getD_none (by omega)]
  · rfl
theorem half_stepS {t : Nat} {ys zs : List Nat} {i q r : Nat} (h : Half t ys zs i) (hq : q + i = ys.length) (hr : ShStep t (ys.getD q 0) (before ys q) r) : Half t ys (zs.set q r) (i + 1) := by
  obtain ⟨h1, h2, h3⟩ := h
  refine ⟨by simpa using h1, fun p hp => ?_, fun p g1 g2 => ?_⟩
  · rw [getD_set _ _ _ _ (by omega), if_neg (by omega)]
    exact h2 p (by omega)
  · rw [getD_set _ _ _ _ (by omega)]
    by_cases hp : p = q
    · rw [if_pos hp, hp]; exact hr
    · rw [if_neg hp]; exact h3 p (by omega) g2
theorem half_end {t j : Nat} {ys zs : List Nat} (hy : ShR t j ys) (h : Half t ys zs (ys.length + 1)) : ShR t (j + 1) zs :=
  ⟨ys, hy, h.1, fun q hq => h.2.2 q (by omega) hq⟩

end Go.Proofs.Ytnbgnaenlbphcaa
