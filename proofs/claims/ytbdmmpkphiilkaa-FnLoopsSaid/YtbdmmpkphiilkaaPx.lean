/-
  The phasor, walked on both sides.
-/
import Derived.Test.YtbdmmpkphiilkaaSw
import Derived.Test.YtbdmmpkphiilkaaPh
import Derived.Laws.ComplexArith
namespace Go.Proofs.Ytbdmmpkphiilkaa
open Go.RowKit Fl Ieee

theorem few_of_le {x : Nat} {k : Int} (h : WLe x k) (hk : k < 52) : fin .f64 x = true ∧ x % 9223372036854775808 < 4841369599423283200 := by
  have hf : FloatKind.f64.format = double := rfl
  have es : double.signWeight = 9223372036854775808 := by decide
  obtain ⟨s, m, p, hr, hb⟩ := h
  have hfin : fin .f64 x = true := by unfold fin; rw [hf, hr]
  refine ⟨hfin, ?_⟩
  rcases Nat.lt_or_ge (x % 9223372036854775808) 4841369599423283200 with h | h
  · exact h
  · exfalso
    have ha := read_abs double x
    rw [es, hr] at ha
    have hi := fin_rung hfin
    generalize x % 9223372036854775808 = r at h ha hi
    have e0 : double.word false r = r := rfl
    have h0 := read_word double false r (by rw [dsw]; omega)
    rw [e0, ha, dbin, dinf, dl, if_neg (by omega), if_pos hi] at h0
    obtain ⟨e, he⟩ : ∃ e, r / 4503599627370496 - 1 = e := ⟨_, rfl⟩
    have he1 : 1074 ≤ e := by omega
    rw [he] at h0
    obtain ⟨hm, hp⟩ : m = 4503599627370496 + r % 4503599627370496 ∧ p = -1074 + (e : Int) := by cases h0; exact ⟨rfl, rfl⟩
    obtain ⟨j, j1, j2⟩ := hb.resolve_left (by omega)
    have hj : 52 ≤ j := by
      have : (2 : Nat) ^ 52 ≤ 2 ^ j := Nat.le_trans (by rw [p52]; omega) j1
      exact pow_le_iff.1 this
    omega

theorem gq_cases (f : Nat) : FloatKind.f64.format.order f 4598175219545276416 = some Ordering.gt ∨ FloatKind.f64.format.order f 4598175219545276416 = some Ordering.eq ∨
    ((FloatKind.f64.format.order f 4598175219545276416 == some Ordering.gt) = false ∧ (FloatKind.f64.format.order f 4598175219545276416 == some Ordering.eq) = false) := by
  cases FloatKind.f64.format.order f 4598175219545276416 with
  | none => exact .inr (.inr ⟨rfl, rfl⟩)
  | some o => cases o
              · exact .inr (.inr ⟨rfl, rfl⟩)
              · exact .inr (.inl rfl)
              · exact .inl rfl
theorem gqB_gt {f : Nat} (h : FloatKind.f64.format.order f 4598175219545276416 = some Ordering.gt) : gqB f = true := by unfold gqB; rw [h]; rfl
theorem gqB_eq {f : Nat} (h : FloatKind.f64.format.order f 4598175219545276416 = some Ordering.eq) : gqB f = true := by unfold gqB; rw [h]; rfl
theorem gqB_not {f : Nat} (h : (FloatKind.f64.format.order f 4598175219545276416 == some Ordering.gt) = false ∧ (FloatKind.f64.format.order f 4598175219545276416 == some Ordering.eq) = false) : gqB f = false := by unfold gqB; rw [h.1, h.2]; rfl
theorem quart_more {f j x : Nat} (h : Quart f j x) (hg : gqB x = true) : ∀ z, FOp .sub .f64 x 4598175219545276416 z → Quart f (j + 1) z := fun _ hz => ⟨x, h, hg, hz⟩

/-- What comes back: a complex number of two 32-bit numbers. -/
def GivesC (R : Nat → Nat → Prop) (w : World) (e : Ending) (w' : World) : Prop := ∃ re im n, e = .returned (.complex .f32 re im) ∧ R re im ∧ re < 2 ^ FloatKind.f32.format.width ∧ im < 2 ^ FloatKind.f32.format.width ∧ w' = w.drewN n

open Classical in
/-- What a phasor may be. -/
def PhasV (y re im : Nat) : Prop :=
  if fin .f64 y = false then isNan .f32 re = true ∧ isNan .f32 im = true
  else if 4841369599423283200 ≤ y % 9223372036854775808 then re = 1065353216 ∧ im = 0
  else PhasR y re im
theorem PhasV.same {y re im re' im' : Nat} (h : PhasV y re im) (h' : PhasV y re' im') : FSame .f32 re re' ∧ FSame .f32 im im' := by
  unfold PhasV at h h'
  split at h
  · rename_i c
    rw [if_pos c] at h'
    exact ⟨.inr ⟨h.1, h'.1⟩, .inr ⟨h.2, h'.2⟩⟩
  · rename_i c
    rw [if_neg c] at h'
    split at h
    · rename_i c2
      rw [if_pos c2] at h'
      exact ⟨.inl (by rw [h.1, h'.1]), .inl (by rw [h.2, h'.2])⟩
    · rename_i c2
      rw [if_neg c2] at h'
      have hf : fin .f64 y = true := by cases hq : fin .f64 y with | true => rfl | false => exact absurd hq c
      exact PhasR.same (turns_few hf (by omega)).2.2.2 h h'
theorem PhasV.nan {y re im : Nat} (h : fin .f64 y = false) (h1 : isNan .f32 re = true) (h2 : isNan .f32 im = true) : PhasV y re im := by unfold PhasV; rw [if_pos h]; exact ⟨h1, h2⟩
theorem PhasV.many {y re im : Nat} (h : fin .f64 y = true) (hm : 4841369599423283200 ≤ y % 9223372036854775808) (h1 : re = 1065353216) (h2 : im = 0) : PhasV y re im := by
  unfold PhasV; rw [if_neg (by rw [h]; exact Bool.noConfusion), if_pos hm]; exact ⟨h1, h2⟩
theorem PhasV.few {y re im : Nat} (h : fin .f64 y = true) (hm : y % 9223372036854775808 < 4841369599423283200) (h1 : PhasR y re im) : PhasV y re im := by
  unfold PhasV; rw [if_neg (by rw [h]; exact Bool.noConfusion), if_neg (by omega)]; exact h1

set_option maxHeartbeats 1000000 in
theorem narrowComplex_calls (a b : Nat) (w : World) : Calls Try.prog 85 #[.complex .f64 a b] w (GivesC (fun re im => FCv .f64 .f32 a re ∧ FCv .f64 .f32 b im) w) := by
  go_enter Try.func85, Try.ntmps85
  go_wp2_with (go_at_call 81; refine (narrowNumber_calls _ _).mono ?_; rintro e w' ⟨z, n, rfl, hz, hzl, rfl⟩)
  rename_i re n1 h1 l1
  go_ret
  exact ⟨_, _, _, rfl, ⟨h1, hz⟩, l1, hzl, rfl⟩

theorem g_le {x g : Nat} (h : FOp .sub .f64 4598175219545276416 x g) (hx : WLe x 2) : WLe g 3 := (FOp.sub_le h (quarter_le.mono (show (0 : Int) ≤ 2 by omega)) hx (by omega) (by omega)).mono (by omega)

theorem PhasR.mk1 {y f x g c s a re im : Nat} (h1 : PartR y f) (h2 : Quart f 1 x) (h3 : gqB x = false) (h4 : FOp .sub .f64 4598175219545276416 x g) (h5 : SineR g c) (h6 : SineR x s) (h7 : FOp .sub .f64 0 s a) (h8 : FCv .f64 .f32 a re) (h9 : FCv .f64 .f32 c im) : PhasR y re im :=
  ⟨f, 1, x, g, c, s, a, c, h1, h2, h3, h4, h5, h6, by unfold Pick; rw [if_pos rfl]; exact ⟨h7, rfl⟩, h8, h9⟩
theorem PhasR.mk2 {y f x g c s a b re im : Nat} (h1 : PartR y f) (h2 : Quart f 2 x) (h3 : gqB x = false) (h4 : FOp .sub .f64 4598175219545276416 x g) (h5 : SineR g c) (h6 : SineR x s) (h7 : FOp .sub .f64 0 c a) (h7' : FOp .sub .f64 0 s b) (h8 : FCv .f64 .f32 a re) (h9 : FCv .f64 .f32 b im) : PhasR y re im :=
  ⟨f, 2, x, g, c, s, a, b, h1, h2, h3, h4, h5, h6, by unfold Pick; rw [if_neg (by omega), if_pos rfl]; exact ⟨h7, h7'⟩, h8, h9⟩
theorem PhasR.mk3 {y f x g c s b re im : Nat} (h1 : PartR y f) (h2 : Quart f 3 x) (h3 : gqB x = false) (h4 : FOp .sub .f64 4598175219545276416 x g) (h5 : SineR g c) (h6 : SineR x s) (h7 : FOp .sub .f64 0 c b) (h8 : FCv .f64 .f32 s re) (h9 : FCv .f64 .f32 b im) : PhasR y re im :=
  ⟨f, 3, x, g, c, s, s, b, h1, h2, h3, h4, h5, h6, by unfold Pick; rw [if_neg (by omega), if_neg (by omega), if_pos rfl]; exact ⟨rfl, h7⟩, h8, h9⟩
theorem PhasR.mk0 {y f x g c s re im j : Nat} (j1 : j ≠ 1) (j2 : j ≠ 2) (j3 : j ≠ 3) (h1 : PartR y f) (h2 : Quart f j x) (h3 : gqB x = false) (h4 : FOp .sub .f64 4598175219545276416 x g) (h5 : SineR g c) (h6 : SineR x s) (h8 : FCv .f64 .f32 c re) (h9 : FCv .f64 .f32 s im) : PhasR y re im :=
  ⟨f, j, x, g, c, s, c, s, h1, h2, h3, h4, h5, h6, by unfold Pick; rw [if_neg j1, if_neg j2, if_neg j3]; exact ⟨rfl, rfl⟩, h8, h9⟩

def QuartAt (f : Nat) (w : World) (xv jv : Value) (wr : World) : Prop := ∃ j x : Nat, jv = .int .i64 (j : Int) ∧ xv = .float .f64 x ∧ Quart f j x ∧ x < 2 ^ FloatKind.f64.format.width ∧ ∃ m, wr = w.drewN m

end Go.Proofs.Ytbdmmpkphiilkaa
