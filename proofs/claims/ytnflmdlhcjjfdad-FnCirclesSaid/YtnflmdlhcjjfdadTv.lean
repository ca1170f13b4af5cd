/-
  A slice of bytes that comes in, opened: what it reads as.
-/
/-
  The phasor, walked on both sides.
-/
/-
  The specification's angle, walked.
-/
/-
  AngleTurns against its law, walked.
-/
/-
  The small functions of FnCircles, walked.
-/
/-
  What the steps of FnCircles make, one by one.
-/
/-
  FnCircles: the law, walked.
-/
import Derived.Test.YtnflmdlhcjjfdadSc
import Derived.Deep.Slices
import Derived.ChangeShapes
import Derived.ChangeSlices
import Derived.Test.YtnflmdlhcjjfdadSw
import Derived.Test.YtnflmdlhcjjfdadPh
import Derived.Laws.ComplexArith
import Derived.Test.YtnflmdlhcjjfdadAx
import Derived.Test.YtnflmdlhcjjfdadMx
import Derived.Test.YtnflmdlhcjjfdadMv
import Derived.Test.YtnflmdlhcjjfdadMv1
import Derived.Test.YtnflmdlhcjjfdadMv2
import Derived.Test.YtnflmdlhcjjfdadMv3
import Derived.Test.YtnflmdlhcjjfdadTh
import Derived.Test.YtnflmdlhcjjfdadTg0
import Derived.Test.YtnflmdlhcjjfdadTg1
import Derived.Test.YtnflmdlhcjjfdadTg2
import Derived.Test.YtnflmdlhcjjfdadTg3
import Derived.Test.YtnflmdlhcjjfdadTx
namespace Go.Proofs.Ytnflmdlhcjjfdad
open Go.RowKit Go.WideShapes Go.Deep Fl

/-- A slice of bytes that reads as the list. -/
def RdB (w : World) (A : Option Addr) (zs : List Nat) : Prop :=
  0 < zs.length → ∃ b off, A = some ⟨b, off, none⟩ ∧ b < w.heap.size ∧ ∀ j, j < zs.length → w.cell? ⟨b, off + j, none⟩ = some (.int .u8 ((zs.getD j 0 : Nat) : Int)) ∧ zs.getD j 0 < 256

def byteV : Value → Int | .int _ n => n | _ => 0

theorem open_u8s {H : Type} {enc : TypeId × Value → H} {P : Program} {w : World} {r : Reach} {b0 base : Nat} {spare : Nat → Bool} {held : Bool} {t e : TypeId} {v : Value} {d : DataW H} {ps : List MemPlace}
    (ht : P.underlying t = some (.slice e)) (he : P.underlying e = some (.int .u8)) (hc : P.cellsOf e = 1) (hval : Value.okWide P w r b0 t v)
    (h : DataW.Trod enc P w base spare held t v d ps) (hsp : ∀ b, spare b = true) :
    ∃ A zs c, v = .slice A zs.length c ∧ zs.length ≤ maxLen ∧ RdB w A zs := by
  obtain ⟨a, len, cap, rfl⟩ := okWide_slice ht hval
  obtain ⟨fuel, hf⟩ := h
  rcases open_slice1 ht hc hf with ⟨hcs, _⟩ | ⟨a', len', cap', m, n, V, D, Pl, hcs, _, hl, hm, hmm, _, hx⟩
  · simp [Value.cells] at hcs
    obtain ⟨rfl, rfl, rfl⟩ := hcs
    exact ⟨none, [], 0, rfl, Nat.zero_le _, fun h0 => absurd h0 (by simp)⟩
  · simp [Value.cells] at hcs
    obtain ⟨rfl, rfl, rfl⟩ := hcs
    rw [hsp, if_pos rfl] at hmm
    subst hmm
    have hv : ∀ i, i < m → ∃ z : Nat, V i = .int .u8 (z : Int) ∧ z < 256 := fun i hi => by
      obtain ⟨z, h1, _, hw⟩ := DataW.trod_int he (hx i hi).2
      have h1 : V i = .int .u8 z := by simpa using h1
      have e1 : IntKind.u8.min = 0 := rfl
      have e2 : IntKind.u8.max = 255 := rfl
      have hb : 0 ≤ z ∧ z ≤ 255 := by simpa only [Lit.wf, e1, e2, Bool.and_eq_true, decide_eq_true_eq] using hw
      exact ⟨z.toNat, by rw [h1]; congr 1; omega, by omega⟩
    have hb : ∀ i, i < m → V i = .int .u8 (((byteV (V i)).toNat : Nat) : Int) ∧ (byteV (V i)).toNat < 256 := fun i hi => by
      obtain ⟨z, h1, h2⟩ := hv i hi
      rw [h1]
      exact ⟨by simp [byteV], by simpa [byteV] using h2⟩
    refine ⟨some a', (List.range len).map (fun i => (byteV (V i)).toNat), m, by simp, by simp; omega, ?_⟩
    intro h0
    simp at h0
    obtain ⟨b, off, spot⟩ := a'
    have c0 := (hx 0 (by omega)).1
    have hspot : spot = none := by simpa [Addr.add] using World.cell?_spot c0
    subst hspot
    refine ⟨b, off, rfl, ?_, fun j hj => ?_⟩
    · have := World.block_lt_of_cell? w _ c0
      simpa [add_plain] using this
    · simp at hj
      have cj := (hx j (by omega)).1
      obtain ⟨k1, k2⟩ := hb j (by omega)
      rw [add_plain, k1] at cj
      have e : ((List.range len).map (fun i => (byteV (V i)).toNat)).getD j 0 = (byteV (V j)).toNat := by simp [List.getD, hj]
      rw [e]
      exact ⟨cj, k2⟩

end Go.Proofs.Ytnflmdlhcjjfdad

namespace Go.Proofs.Ytnflmdlhcjjfdad
open Go.RowKit Fl Ieee

theorem few_of_le {x : Nat} {k : Int} (h : WLe x k) (hk : k < 52) : fin .f64 x = true ∧ x % 9223372036854775808 < 4841369599423283200 := by
  have hf : FloatKind.f64.format = double := rfl
  have es : double.signWeight = 9223372036854775808 := by decide
  obtain ⟨s, m, p, hr, hb⟩ := h
  have hfin : fin .f64 x = true := by unfold fin; rw [hf, hr]
  refine ⟨hfin, ?_⟩
  rcases Nat.lt_or_ge (x % 9223372036854775808) 4841369599423283200 with h | h
  · exact h
  · exfalso
    have ha := read_abs double x
    rw [es, hr] at ha
    have hi := fin_rung hfin
    generalize x % 9223372036854775808 = r at h ha hi
    have e0 : double.word false r = r := rfl
    have h0 := read_word double false r (by rw [dsw]; omega)
    rw [e0, ha, dbin, dinf, dl, if_neg (by omega), if_pos hi] at h0
    obtain ⟨e, he⟩ : ∃ e, r / 4503599627370496 - 1 = e := ⟨_, rfl⟩
    have he1 : 1074 ≤ e := by omega
    rw [he] at h0
    obtain ⟨hm, hp⟩ : m = 4503599627370496 + r % 4503599627370496 ∧ p = -1074 + (e : Int) := by cases h0; exact ⟨rfl, rfl⟩
    obtain ⟨j, j1, j2⟩ := hb.resolve_left (by omega)
    have hj : 52 ≤ j := by
      have : (2 : Nat) ^ 52 ≤ 2 ^ j := Nat.le_trans (by rw [p52]; omega) j1
      exact pow_le_iff.1 this
    omega

theorem gq_cases (f : Nat) : FloatKind.f64.format.order f 4598175219545276416 = some Ordering.gt ∨ FloatKind.f64.format.order f 4598175219545276416 = some Ordering.eq ∨
    ((FloatKind.f64.format.order f 4598175219545276416 == some Ordering.gt) = false ∧ (FloatKind.f64.format.order f 4598175219545276416 == some Ordering.eq) = false) := by
  cases FloatKind.f64.format.order f 4598175219545276416 with
  | none => exact .inr (.inr ⟨rfl, rfl⟩)
  | some o => cases o
              · exact .inr (.inr ⟨rfl, rfl⟩)
              · exact .inr (.inl rfl)
              · exact .inl rfl
theorem gqB_gt {f : Nat} (h : FloatKind.f64.format.order f 4598175219545276416 = some Ordering.gt) : gqB f = true := by unfold gqB; rw [h]; rfl
theorem gqB_eq {f : Nat} (h : FloatKind.f64.format.order f 4598175219545276416 = some Ordering.eq) : gqB f = true := by unfold gqB; rw [h]; rfl
theorem gqB_not {f : Nat} (h : (FloatKind.f64.format.order f 4598175219545276416 == some Ordering.gt) = false ∧ (FloatKind.f64.format.order f 4598175219545276416 == some Ordering.eq) = false) : gqB f = false := by unfold gqB; rw [h.1, h.2]; rfl
theorem quart_more {f j x : Nat} (h : Quart f j x) (hg : gqB x = true) : ∀ z, FOp .sub .f64 x 4598175219545276416 z → Quart f (j + 1) z := fun _ hz => ⟨x, h, hg, hz⟩

/-- What comes back: a complex number of two 32-bit numbers. -/
def GivesC (R : Nat → Nat → Prop) (w : World) (e : Ending) (w' : World) : Prop := ∃ re im n, e = .returned (.complex .f32 re im) ∧ R re im ∧ re < 2 ^ FloatKind.f32.format.width ∧ im < 2 ^ FloatKind.f32.format.width ∧ w' = w.drewN n

open Classical in
/-- What a phasor may be. -/
def PhasV (y re im : Nat) : Prop :=
  if fin .f64 y = false then isNan .f32 re = true ∧ isNan .f32 im = true
  else if 4841369599423283200 ≤ y % 9223372036854775808 then re = 1065353216 ∧ im = 0
  else PhasR y re im
theorem PhasV.same {y re im re' im' : Nat} (h : PhasV y re im) (h' : PhasV y re' im') : FSame .f32 re re' ∧ FSame .f32 im im' := by
  unfold PhasV at h h'
  split at h
  · rename_i c
    rw [if_pos c] at h'
    exact ⟨.inr ⟨h.1, h'.1⟩, .inr ⟨h.2, h'.2⟩⟩
  · rename_i c
    rw [if_neg c] at h'
    split at h
    · rename_i c2
      rw [if_pos c2] at h'
      exact ⟨.inl (by rw [h.1, h'.1]), .inl (by rw [h.2, h'.2])⟩
    · rename_i c2
      rw [if_neg c2] at h'
      have hf : fin .f64 y = true := by cases hq : fin .f64 y with | true => rfl | false => exact absurd hq c
      exact PhasR.same (turns_few hf (by omega)).2.2.2 h h'
theorem PhasV.nan {y re im : Nat} (h : fin .f64 y = false) (h1 : isNan .f32 re = true) (h2 : isNan .f32 im = true) : PhasV y re im := by unfold PhasV; rw [if_pos h]; exact ⟨h1, h2⟩
theorem PhasV.many {y re im : Nat} (h : fin .f64 y = true) (hm : 4841369599423283200 ≤ y % 9223372036854775808) (h1 : re = 1065353216) (h2 : im = 0) : PhasV y re im := by
  unfold PhasV; rw [if_neg (by rw [h]; exact Bool.noConfusion), if_pos hm]; exact ⟨h1, h2⟩
theorem PhasV.few {y re im : Nat} (h : fin .f64 y = true) (hm : y % 9223372036854775808 < 4841369599423283200) (h1 : PhasR y re im) : PhasV y re im := by
  unfold PhasV; rw [if_neg (by rw [h]; exact Bool.noConfusion), if_neg (by omega)]; exact h1

set_option maxHeartbeats 1000000 in
theorem narrowComplex_calls (a b : Nat) (w : World) : Calls Try.prog 49 #[.complex .f64 a b] w (GivesC (fun re im => FCv .f64 .f32 a re ∧ FCv .f64 .f32 b im) w) := by
  go_enter Try.func49, Try.ntmps49
  go_wp2_with (go_at_call 55; refine (narrowNumber_calls _ _).mono ?_; rintro e w' ⟨z, n, rfl, hz, hzl, rfl⟩)
  rename_i re n1 h1 l1
  go_ret
  exact ⟨_, _, _, rfl, ⟨h1, hz⟩, l1, hzl, rfl⟩

theorem g_le {x g : Nat} (h : FOp .sub .f64 4598175219545276416 x g) (hx : WLe x 2) : WLe g 3 := (FOp.sub_le h (quarter_le.mono (show (0 : Int) ≤ 2 by omega)) hx (by omega) (by omega)).mono (by omega)

theorem PhasR.mk1 {y f x g c s a re im : Nat} (h1 : PartR y f) (h2 : Quart f 1 x) (h3 : gqB x = false) (h4 : FOp .sub .f64 4598175219545276416 x g) (h5 : SineR g c) (h6 : SineR x s) (h7 : FOp .sub .f64 0 s a) (h8 : FCv .f64 .f32 a re) (h9 : FCv .f64 .f32 c im) : PhasR y re im :=
  ⟨f, 1, x, g, c, s, a, c, h1, h2, h3, h4, h5, h6, by unfold Pick; rw [if_pos rfl]; exact ⟨h7, rfl⟩, h8, h9⟩
theorem PhasR.mk2 {y f x g c s a b re im : Nat} (h1 : PartR y f) (h2 : Quart f 2 x) (h3 : gqB x = false) (h4 : FOp .sub .f64 4598175219545276416 x g) (h5 : SineR g c) (h6 : SineR x s) (h7 : FOp .sub .f64 0 c a) (h7' : FOp .sub .f64 0 s b) (h8 : FCv .f64 .f32 a re) (h9 : FCv .f64 .f32 b im) : PhasR y re im :=
  ⟨f, 2, x, g, c, s, a, b, h1, h2, h3, h4, h5, h6, by unfold Pick; rw [if_neg (by omega), if_pos rfl]; exact ⟨h7, h7'⟩, h8, h9⟩
theorem PhasR.mk3 {y f x g c s b re im : Nat} (h1 : PartR y f) (h2 : Quart f 3 x) (h3 : gqB x = false) (h4 : FOp .sub .f64 4598175219545276416 x g) (h5 : SineR g c) (h6 : SineR x s) (h7 : FOp .sub .f64 0 c b) (h8 : FCv .f64 .f32 s re) (h9 : FCv .f64 .f32 b im) : PhasR y re im :=
  ⟨f, 3, x, g, c, s, s, b, h1, h2, h3, h4, h5, h6, by unfold Pick; rw [if_neg (by omega), if_neg (by omega), if_pos rfl]; exact ⟨rfl, h7⟩, h8, h9⟩
theorem PhasR.mk0 {y f x g c s re im j : Nat} (j1 : j ≠ 1) (j2 : j ≠ 2) (j3 : j ≠ 3) (h1 : PartR y f) (h2 : Quart f j x) (h3 : gqB x = false) (h4 : FOp .sub .f64 4598175219545276416 x g) (h5 : SineR g c) (h6 : SineR x s) (h8 : FCv .f64 .f32 c re) (h9 : FCv .f64 .f32 s im) : PhasR y re im :=
  ⟨f, j, x, g, c, s, c, s, h1, h2, h3, h4, h5, h6, by unfold Pick; rw [if_neg j1, if_neg j2, if_neg j3]; exact ⟨rfl, rfl⟩, h8, h9⟩

set_option maxHeartbeats 1000000 in
theorem phasorOf_nan (y : Nat) (hyl : y < 2 ^ FloatKind.f64.format.width) (hf : fin .f64 y = false) (w : World) : Calls Try.prog 9 #[.float .f64 y] w (GivesC (PhasV y) w) := by
  have HF := Frame.hid hf
  clear hf
  go_enter Try.func9, Try.ntmps9
  go_wp2_with (first | (go_at_call 48; refine (isFiniteWide_calls _ (lt64 hyl) _).mono ?_; rintro e w' ⟨rfl, n, rfl⟩; rw [HF.out]) | (go_at_call 50; refine (nan_calls _).mono ?_; rintro e w' ⟨rfl, rfl⟩) | (go_at_call 49; refine (narrowComplex_calls _ _ _).mono ?_; rintro e w' ⟨re, im, n, rfl, ⟨h1, h2⟩, l1, l2, rfl⟩))
  go_ret
  exact ⟨_, _, _, rfl, PhasV.nan HF.out (narrow_nan nan_word h1) (narrow_nan nan_word h2), l1, l2, rfl⟩

set_option maxHeartbeats 1000000 in
theorem phasorOf_many (y : Nat) (hyl : y < 2 ^ FloatKind.f64.format.width) (hf : fin .f64 y = true) (hm : 4841369599423283200 ≤ y % 9223372036854775808) (w : World) : Calls Try.prog 9 #[.float .f64 y] w (GivesC (PhasV y) w) := by
  have HF := Frame.hid hf
  have HM := Frame.hid hm
  obtain ⟨o1, _⟩ := turns_many hf hm
  clear hf hm
  rcases o1 with o1 | o1
  all_goals
    go_enter Try.func9, Try.ntmps9
    go_wp2_with (first | (go_at_call 48; refine (isFiniteWide_calls _ (lt64 hyl) _).mono ?_; rintro e w' ⟨rfl, n, rfl⟩; rw [HF.out]) | (go_at_call 51; refine (abs_calls _ (lt64 hyl) _).mono ?_; rintro e w' ⟨rfl, rfl⟩))
    go_ret
    exact ⟨_, _, _, rfl, PhasV.many HF.out HM.out rfl rfl, by decide, by decide, rfl⟩

def QuartAt (f : Nat) (w : World) (xv jv : Value) (wr : World) : Prop := ∃ j x : Nat, jv = .int .i64 (j : Int) ∧ xv = .float .f64 x ∧ Quart f j x ∧ x < 2 ^ FloatKind.f64.format.width ∧ ∃ m, wr = w.drewN m

set_option maxHeartbeats 4000000 in
theorem phasorOf_few (y : Nat) (hyl : y < 2 ^ FloatKind.f64.format.width) (hf : fin .f64 y = true) (hm : y % 9223372036854775808 < 4841369599423283200) (w : World) : Calls Try.prog 9 #[.float .f64 y] w (GivesC (PhasV y) w) := by
  obtain ⟨o1, _, _, hw⟩ := turns_few hf hm
  have HF := Frame.hid hf
  have HM := Frame.hid hm
  have HW := Frame.hid hw
  clear hf hm hw
  go_enter Try.func9, Try.ntmps9
  go_wp2_with (first | (go_at_call 48; refine (isFiniteWide_calls _ (lt64 hyl) _).mono ?_; rintro e w' ⟨rfl, n, rfl⟩; rw [HF.out]) | (go_at_call 51; refine (abs_calls _ (lt64 hyl) _).mono ?_; rintro e w' ⟨rfl, rfl⟩) | (go_at_call 52; refine (partOfTurn_calls y HW.out _).mono ?_; rintro e w1 ⟨f, n, rfl, hf, hfl, rfl⟩))
  have HFR := Frame.hid hf
  have HFL := Frame.hid (PartR.le HW.out hf)
  clear hf o1
  go_loopw [3, 4] (fun xv jv wr => QuartAt f w xv jv wr) (fun _ jv _ => (16 - intOf jv).toNat)
  case atStart => exact ⟨0, _, rfl, rfl, rfl, hfl, _, rfl⟩
  case round =>
    obtain ⟨j, x, rfl, rfl, hq, hxl, m, rfl⟩ := hrel
    rcases gq_cases x with ho | ho | ho
    · have hg := gqB_gt ho
      have hj := Quart.few HFL.out hq hg
      have HP := Frame.hid (quart_more hq hg)
      clear hq hg
      go_wp2_with (refine wpList_arith rfl _ _ _ _ _ rfl rfl _ _ _ rfl rfl ?_; intro r n hr hl)
      go_roundw
      case rel => exact ⟨j + 1, _, rfl, rfl, HP.out _ hr, hl, _, rfl⟩
      case measure => simp [intOf]; omega
    · have hg := gqB_eq ho
      have hj := Quart.few HFL.out hq hg
      have HP := Frame.hid (quart_more hq hg)
      clear hq hg
      go_wp2_with (refine wpList_arith rfl _ _ _ _ _ rfl rfl _ _ _ rfl rfl ?_; intro r n hr hl)
      go_roundw
      case rel => exact ⟨j + 1, _, rfl, rfl, HP.out _ hr, hl, _, rfl⟩
      case measure => simp [intOf]; omega
    · have HG := Frame.hid (gqB_not ho)
      obtain ⟨ho1, ho2⟩ := ho
      have HX := Frame.hid (Quart.one HFL.out hq).1.1
      have HQ := Frame.hid hq
      clear hq
      rcases (by omega : j = 1 ∨ j = 2 ∨ j = 3 ∨ (j ≠ 1 ∧ j ≠ 2 ∧ j ≠ 3)) with h | h | h | ⟨h1, h2, h3⟩
      · subst h
        go_wp2_with (first | (refine wpList_arith rfl _ _ _ _ _ rfl rfl _ _ _ rfl rfl ?_; intro r n hr hl) | (go_at_call 53; refine (wideSine_calls _ (by first | exact HX.out.mono (by omega) | exact (g_le (by with_reducible assumption) HX.out).mono (by omega)) _).mono ?_; rintro e w' ⟨q, n, rfl, hq, hql, rfl⟩) | (go_at_call 49; refine (narrowComplex_calls _ _ _).mono ?_; rintro e w' ⟨re, im, n, rfl, ⟨k1, k2⟩, l1, l2, rfl⟩))
        go_ret
        exact ⟨_, _, _, rfl, PhasV.few HF.out HM.out (PhasR.mk1 HFR.out HQ.out HG.out (by assumption) (by assumption) hq hr k1 k2), l1, l2, rfl⟩
      · subst h
        go_wp2_with (first | (refine wpList_arith rfl _ _ _ _ _ rfl rfl _ _ _ rfl rfl ?_; intro r n hr hl) | (go_at_call 53; refine (wideSine_calls _ (by first | exact HX.out.mono (by omega) | exact (g_le (by with_reducible assumption) HX.out).mono (by omega)) _).mono ?_; rintro e w' ⟨q, n, rfl, hq, hql, rfl⟩) | (go_at_call 49; refine (narrowComplex_calls _ _ _).mono ?_; rintro e w' ⟨re, im, n, rfl, ⟨k1, k2⟩, l1, l2, rfl⟩))
        go_ret
        exact ⟨_, _, _, rfl, PhasV.few HF.out HM.out (PhasR.mk2 HFR.out HQ.out HG.out (by assumption) (by assumption) hq (by assumption) hr k1 k2), l1, l2, rfl⟩
      · subst h
        go_wp2_with (first | (refine wpList_arith rfl _ _ _ _ _ rfl rfl _ _ _ rfl rfl ?_; intro r n hr hl) | (go_at_call 53; refine (wideSine_calls _ (by first | exact HX.out.mono (by omega) | exact (g_le (by with_reducible assumption) HX.out).mono (by omega)) _).mono ?_; rintro e w' ⟨q, n, rfl, hq, hql, rfl⟩) | (go_at_call 49; refine (narrowComplex_calls _ _ _).mono ?_; rintro e w' ⟨re, im, n, rfl, ⟨k1, k2⟩, l1, l2, rfl⟩))
        go_ret
        exact ⟨_, _, _, rfl, PhasV.few HF.out HM.out (PhasR.mk3 HFR.out HQ.out HG.out (by assumption) (by assumption) hq hr k1 k2), l1, l2, rfl⟩
      · have i1 : ¬ (j : Int) = 1 := by omega
        have i2 : ¬ (j : Int) = 2 := by omega
        have i3 : ¬ (j : Int) = 3 := by omega
        go_wp2_with (first | (refine wpList_arith rfl _ _ _ _ _ rfl rfl _ _ _ rfl rfl ?_; intro r n hr hl) | (go_at_call 53; refine (wideSine_calls _ (by first | exact HX.out.mono (by omega) | exact (g_le (by with_reducible assumption) HX.out).mono (by omega)) _).mono ?_; rintro e w' ⟨q, n, rfl, hq, hql, rfl⟩) | (go_at_call 49; refine (narrowComplex_calls _ _ _).mono ?_; rintro e w' ⟨re, im, n, rfl, ⟨k1, k2⟩, l1, l2, rfl⟩))
        go_ret
        exact ⟨_, _, _, rfl, PhasV.few HF.out HM.out (PhasR.mk0 h1 h2 h3 HFR.out HQ.out HG.out (by assumption) (by assumption) hq k1 k2), l1, l2, rfl⟩

end Go.Proofs.Ytnflmdlhcjjfdad

namespace Go.Proofs.Ytnflmdlhcjjfdad
open Go.RowKit Fl
attribute [local go_sem] unary_neg_f

end Go.Proofs.Ytnflmdlhcjjfdad

namespace Go.Proofs.Ytnflmdlhcjjfdad
open Go.RowKit Fl

theorem angleTurns_calls (b c : Nat) (w : World) : Calls Try.prog 54 #[.float .f32 b, .float .f32 c] w (Gives .f32 (AngleV b c) w) := by
  cases fb : fin .f32 b
  · exact angleTurns_nan b c (.inl fb) w
  · cases fc : fin .f32 c
    · exact angleTurns_nan b c (.inr fc) w
    · cases hz : ((FloatKind.f32.format.order b 0 == some Ordering.eq) && (FloatKind.f32.format.order c 0 == some Ordering.eq))
      · exact angleTurns_some b c fb fc hz w
      · rw [Bool.and_eq_true] at hz
        exact angleTurns_zero b c fb fc hz.1 hz.2 w

end Go.Proofs.Ytnflmdlhcjjfdad

namespace Go.Proofs.Ytnflmdlhcjjfdad
open Go.RowKit Fl Ieee

theorem angleOf_calls (x y : Nat) (w : World) : Calls Try.prog 10 #[.complex .f32 x y] w (Gives .f32 (AngleV y x) w) := by
  go_enter Try.func10, Try.ntmps10
  go_wp2_with fail
  refine (angleTurns_calls y x _).mono ?_
  rintro e w1 ⟨r, n, rfl, h, hl, rfl⟩
  have HH := Frame.hid h
  have HL := Frame.hid hl
  clear h hl
  go_wp2_with fail
  go_ret
  exact ⟨r, n, rfl, HH.out, HL.out, rfl⟩

theorem b10Long_c (A B : Option Addr) (m k c d : Nat) (_ : m ≤ maxLen) (_ : k ≤ maxLen) (w : World) : Calls Try.prog 7 #[.slice A m c, .slice B k d] w fun e w' => e = .returned (.bool (decide (1048576 < (m : Int)) || decide (1048576 < (k : Int)))) ∧ w = w' := by
  unfold maxLen at *
  go_enter Try.func7, Try.ntmps7
  go_wp2
  all_goals
    go_ret
    simp [*]

theorem b10At_c (i n : Nat) (hi : i ≤ 1) (hn2 : 2 ≤ n) (hn3 : n ≤ 256) (A : Option Addr) (zs : List Nat) (c : Nat) (hn : zs.length ≤ 1048576) (w : World) (hA : RdB w A zs) : Calls Try.prog 8 #[.slice A zs.length c, .int .i64 (i : Int), .int .i64 (n : Int)] w fun e w' => ∃ k : Nat, k < n ∧ e = .returned (.int .i64 k) ∧ w = w' := by
  obtain ⟨len, hxn⟩ : ∃ n, n = zs.length := ⟨_, rfl⟩
  rw [← hxn] at hn ⊢
  by_cases h0 : i < len
  · obtain ⟨b, off, rfl, hb, hc⟩ := hA (by omega)
    obtain ⟨c1, c2⟩ := hc i (by omega)
    generalize zs.getD i 0 = z at c1 c2
    have HZ := Frame.hid c2
    clear hc hA hxn
    go_enter Try.func8, Try.ntmps8
    go_wp2
    go_ret
    exact ⟨z % n, Nat.mod_lt _ (by omega), (by show Ending.returned (Value.int IntKind.i64 ((z : Int) % (n : Int))) = Ending.returned (Value.int IntKind.i64 (((z % n : Nat)) : Int)); rw [Int.natCast_emod]), rfl⟩
  · clear hA hxn hn
    go_enter Try.func8, Try.ntmps8
    go_wp2
    go_ret
    exact ⟨(i * 37 + 11) % n, Nat.mod_lt _ (by omega), (by show Ending.returned (Value.int IntKind.i64 (((i : Int) * 37 + 11) % (n : Int))) = Ending.returned (Value.int IntKind.i64 ((((i * 37 + 11) % n : Nat)) : Int)); rw [Int.natCast_emod]; push_cast; rfl), rfl⟩

theorem RdB.below {w w' : World} {A : Option Addr} {zs : List Nat} (h : RdB w A zs) (hb : Below w.heap.size w w') : RdB w' A zs := fun h0 => by
  obtain ⟨b, off, e, hlt, hc⟩ := h h0
  exact ⟨b, off, e, Nat.lt_of_lt_of_le hlt hb.size, fun j hj => ⟨(hb.cell (p := ⟨b, off + j, none⟩) hlt).trans (hc j hj).1, (hc j hj).2⟩⟩

theorem b10Gap_c (a b : Nat) (w : World) : Calls Try.prog 11 #[.float .f64 a, .float .f64 b] w (Gives .f64 (GapR a b) w) := by
  go_enter Try.func11, Try.ntmps11
  go_wp2_with (refine wpList_arith rfl _ _ _ _ _ rfl rfl _ _ _ rfl rfl ?_; intro r n hr hl)
  · rename_i hc
    go_ret
    exact ⟨_, _, rfl, by unfold GapR; rw [if_pos hc]; exact hr, hl, rfl⟩
  · rename_i hc
    go_ret
    exact ⟨_, _, rfl, by unfold GapR; rw [if_neg (by rw [hc]; decide)]; exact hr, hl, rfl⟩

theorem le_cases {g m : Nat} (h : leB g m = true) : FloatKind.f64.format.order g m = some Ordering.lt ∨ FloatKind.f64.format.order g m = some Ordering.eq := by
  unfold leB at h
  rw [Bool.or_eq_true] at h
  rcases h with h | h
  · exact .inl (eq_of_beq h)
  · exact .inr (eq_of_beq h)
theorem gap_le {x y m : Nat} (h : (gapLeO x y m == some true) = true) : ∀ a b g, FCv .f32 .f64 x a → FCv .f32 .f64 y b → GapR a b g → FloatKind.f64.format.order g m = some Ordering.lt ∨ FloatKind.f64.format.order g m = some Ordering.eq := by
  intro a b g h1 h2 h3
  obtain ⟨a', k1, k⟩ := bnd (eq_of_beq h)
  obtain ⟨b', k2, k⟩ := bnd k
  obtain ⟨g', k3, k⟩ := bnd k
  have e := fcv_eq k1 h1
  subst e
  have e := fcv_eq k2 h2
  subst e
  have e := gapO_eq k3 h3
  subst e
  exact le_cases (Option.some.inj k)

set_option maxRecDepth 100000 in
set_option maxHeartbeats 2000000 in
theorem b10Near_c (z1 z2 r1 r2 m : Nat) (h : nearO (z1, z2) (r1, r2) m = true) (w : World) : Calls Try.prog 13 #[.complex .f32 z1 z2, .complex .f32 r1 r2, .float .f64 m] w fun e w' => e = .returned (.bool true) ∧ ∃ n, w' = w.drewN n := by
  unfold nearO at h
  rw [Bool.and_eq_true] at h
  have H1 := Frame.hid (gap_le h.1)
  have H2 := Frame.hid (gap_le h.2)
  clear h
  go_enter Try.func13, Try.ntmps13
  go_wp2_with fail
  refine upon_conv _ _ .f32 .f64 _ (by decide) (.inl rfl) (by kernel_rfl) (by kernel_rfl) ?_
  intro a1 m1 ha1 _
  go_wp2_with fail
  refine upon_conv _ _ .f32 .f64 _ (by decide) (.inl rfl) (by kernel_rfl) (by kernel_rfl) ?_
  intro b1 m2 hb1 _
  have HA := Frame.hid (H1.out _ _ · ha1 hb1)
  clear ha1 hb1
  go_wp2_with fail
  refine (b10Gap_c a1 b1 _).mono ?_
  rintro e w1 ⟨g, n1, rfl, hg, _, rfl⟩
  have ho := HA.out _ hg
  clear hg
  rcases ho with ho | ho
  all_goals
    go_wp2_with fail
    refine upon_conv _ _ .f32 .f64 _ (by decide) (.inl rfl) (by kernel_rfl) (by kernel_rfl) ?_
    intro a2 m3 ha2 _
    go_wp2_with fail
    refine upon_conv _ _ .f32 .f64 _ (by decide) (.inl rfl) (by kernel_rfl) (by kernel_rfl) ?_
    intro b2 m4 hb2 _
    have HB := Frame.hid (H2.out _ _ · ha2 hb2)
    clear ha2 hb2 ho
    go_wp2_with fail
    refine (b10Gap_c a2 b2 _).mono ?_
    rintro e w1 ⟨g2, n2, rfl, hg2, _, rfl⟩
    have ho2 := HB.out _ hg2
    clear hg2
    rcases ho2 with ho2 | ho2
    all_goals
      go_wp2_with fail
      go_ret
      exact ⟨rfl, _, rfl⟩

end Go.Proofs.Ytnflmdlhcjjfdad

namespace Go.Proofs.Ytnflmdlhcjjfdad
open Go.RowKit Fl Ieee

def turnOk (a : Int) : Bool := match turnW a with | some y => fin .f64 y && decide (y % 9223372036854775808 < 4841369599423283200) | none => false
theorem turn_ok : ∀ a : Fin 511, turnOk ((a.val : Int) - 256) = true := by decide +kernel
theorem ph_num : ∀ k : Fin 64, (isNan .f32 (ph k.val).1 || isNan .f32 (ph k.val).2) = false := by decide +kernel
theorem ang_num : ∀ k : Fin 64, isNan .f32 (ang k.val) = false := by decide +kernel
theorem ph_small : ∀ k : Fin 64, (decide ((ph k.val).1 < 4294967296) && decide ((ph k.val).2 < 4294967296)) = true := by decide +kernel

theorem phas_at {a : Int} (h1 : -256 ≤ a) (h2 : a ≤ 254) {y r i : Nat} (hy : FOp .quo .f64 (floatOfInt .f64 a) 4634204016564240384 y) (h : PhasV y r i) : (r, i) = ph (a % 64).toNat := by
  obtain ⟨n, hn⟩ : ∃ n : Nat, a = (n : Int) - 256 := ⟨(a + 256).toNat, by omega⟩
  have hn1 : n < 511 := by omega
  have ht := turn_ok ⟨n, hn1⟩
  have hp := eq_of_beq (part_tab ⟨n, hn1⟩)
  obtain ⟨k, hk⟩ : ∃ k : Nat, a % 64 = (k : Int) := ⟨(a % 64).toNat, by omega⟩
  have hk1 : k < 64 := by omega
  have hq := eq_of_beq (ph_tab ⟨k, hk1⟩)
  have hm := ph_num ⟨k, hk1⟩
  simp only at ht hp hq hm
  rw [← hn] at ht hp
  rw [hk] at hp
  rw [hk, Int.toNat_natCast]
  obtain ⟨f, e1, e2⟩ := bnd hq
  rw [e1] at hp
  unfold turnOk at ht
  obtain ⟨y0, e3, e4⟩ := bnd hp
  rw [e3] at ht
  simp only [Bool.and_eq_true, decide_eq_true_eq] at ht
  have e := fop_eq (show floatBits .quo .f64 (floatOfInt .f64 a) 4634204016564240384 = some y0 from e3) hy
  subst e
  have hs := PhasV.same h (PhasV.few ht.1 ht.2 (phasFO_ok e4 e2))
  rw [Bool.or_eq_false_iff] at hm
  rcases hs with ⟨s1 | ⟨_, s1⟩, s2 | ⟨_, s2⟩⟩
  · rw [s1, s2]
  · rw [hm.2] at s2; cases s2
  · rw [hm.1] at s1; cases s1
  · rw [hm.1] at s1; cases s1
theorem ang_at {k : Nat} (hk : k < 64) {r : Nat} (h : AngleV (ph k).2 (ph k).1 r) : r = ang k := by
  have h1 := angO_ok (eq_of_beq (ang_tab ⟨k, hk⟩))
  have hm := ang_num ⟨k, hk⟩
  rcases AngleV.same h h1 with e | ⟨_, e⟩
  · exact e
  · rw [hm] at e; cases e

/-- The places of what is left of an angle. -/
theorem left_at {a : Int} (h1 : -128 ≤ a) (h2 : a ≤ 127) : ∃ t u n g, leftO a = some t ∧ floatBits .add .f64 t 4666723447345250304 = some u ∧ floatToIntVal .f64 u .i64 = some n ∧ gapO t (floatOfInt .f64 (n - 10000)) = some g ∧ gtB g 4562254508917369340 = false ∧ (n - 10000).tmod 64 = 0 ∧ 0 ≤ n ∧ n ≤ 20000 := by
  have h := left_tab ⟨(a + 128).toNat, by omega⟩
  simp only at h
  rw [show (((a + 128).toNat : Nat) : Int) - 128 = a by omega] at h
  unfold leftOk at h
  cases ht : leftO a with
  | none => rw [ht] at h; cases h
  | some t =>
    cases hw : wholeO a with
    | none => rw [ht, hw] at h; cases h
    | some n =>
      rw [ht, hw] at h
      obtain ⟨t', e1, hw⟩ := bnd hw
      rw [ht] at e1
      injection e1 with e1
      subst e1
      obtain ⟨u, e2, hw⟩ := bnd hw
      simp only [Bool.and_eq_true, decide_eq_true_eq] at h
      cases hg : gapO t (floatOfInt .f64 (n - 10000)) with
      | none => rw [hg] at h; exact absurd h.1.1.1 (by decide)
      | some g =>
        rw [hg] at h
        obtain ⟨⟨⟨g1, g2⟩, g3⟩, g4⟩ := h
        exact ⟨t, u, n, g, rfl, e2, hw, hg, by simpa using g1, g2, g3, g4⟩
theorem pow_at {k : Nat} (hk : k < 64) {p y g : Nat} (h1 : PowN (ph k).1 (ph k).2 p) (h2 : FCv .f32 .f64 p y) (h3 : GapR y 4607182418800017408 g) : gtB g 4547007122018943789 = false := by
  have h := pow_tab ⟨k, hk⟩
  simp only at h
  unfold powOk at h
  cases hp : powNO (ph k).1 (ph k).2 with
  | none => rw [hp] at h; cases h
  | some p' =>
    have e := powNO_eq hp h1
    subst e
    rw [hp] at h
    simp only [Option.bind_some] at h
    cases hy : floatToFloatBits .f32 p .f64 with
    | none => rw [hy] at h; cases h
    | some y' =>
      have e := fcv_eq hy h2
      subst e
      rw [hy] at h
      simp only [Option.bind_some] at h
      cases hg : gapO y 4607182418800017408 with
      | none => rw [hg] at h; cases h
      | some g' =>
        have e := gapO_eq hg h3
        subst e
        rw [hg] at h
        simpa using h
theorem pair_at {j k : Nat} (hj : j < 64) (hk : k < 64) : pairO j k = true := by
  rcases (by omega : j < 16 ∨ (16 ≤ j ∧ j < 32) ∨ (32 ≤ j ∧ j < 48) ∨ 48 ≤ j) with h | h | h | h
  · exact pair_tab0 ⟨j, h⟩ ⟨k, hk⟩
  · have e := pair_tab1 ⟨j - 16, by omega⟩ ⟨k, hk⟩
    simp only at e
    rwa [show 16 + (j - 16) = j by omega] at e
  · have e := pair_tab2 ⟨j - 32, by omega⟩ ⟨k, hk⟩
    simp only at e
    rwa [show 32 + (j - 32) = j by omega] at e
  · have e := pair_tab3 ⟨j - 48, by omega⟩ ⟨k, hk⟩
    simp only at e
    rwa [show 48 + (j - 48) = j by omega] at e
theorem mul_at {j k z1 z2 : Nat} (hj : j < 64) (hk : k < 64) (h : MulZ (ph j).1 (ph j).2 (ph k).1 (ph k).2 z1 z2) : nearO (z1, z2) (ph ((j + k) % 64)) 4547007122018943789 = true := by
  have hp := pair_at hj hk
  unfold pairO at hp
  cases hm : mulZO (ph j).1 (ph j).2 (ph k).1 (ph k).2 with
  | none => rw [hm] at hp; cases hp
  | some z =>
    rw [hm] at hp
    obtain ⟨e1, e2⟩ := mulZO_eq hm h
    rw [e1, e2]
    exact hp
theorem side_at {k : Nat} (hk : k < 4) {y g : Nat} (h1 : FCv .f32 .f64 (ph (16 * k)).1 y) (h2 : GapR y 0 g) : FloatKind.f64.format.order g 0 = some Ordering.eq ∨ FloatKind.f64.format.order g 4607182418800017408 = some Ordering.eq := by
  have h := side_tab ⟨k, hk⟩
  simp only at h
  unfold sideOk at h
  cases hy : floatToFloatBits .f32 (ph (16 * k)).1 .f64 with
  | none => rw [hy] at h; cases h
  | some y' =>
    have e := fcv_eq hy h1
    subst e
    rw [hy] at h
    simp only [Option.bind_some] at h
    cases hg : gapO y 0 with
    | none => rw [hg] at h; cases h
    | some g' =>
      have e := gapO_eq hg h2
      subst e
      rw [hg] at h
      simp only [Bool.or_eq_true] at h
      rcases h with h | h
      · exact .inl (eq_of_beq h)
      · exact .inr (eq_of_beq h)

/-! ### Tenths -/

theorem eight_w : (1090519040 : Nat) = sw 1 3 := by decide +kernel
theorem sw_eight (n : Nat) (h0 : n ≠ 0) (hn : n ≤ 5000) : sw (8 * n) (-6) = sw n (-3) := by
  have h := pl_near (k := .f32) (rg32 (n := n) (p := -3) h0 (by omega) (by omega) (by omega)) 3
  rw [show n * 2 ^ 3 = 8 * n by omega, show (-3 : Int) - ((3 : Nat) : Int) = -6 by omega] at h
  exact h
theorem eighth_at {i x : Nat} (hi : i < 200) (h : FOp .quo .f32 (floatOfInt .f32 (1 + (i : Int))) 1090519040 x) : x = sw (8 * (i + 1)) (-6) := by
  rw [sw_eight (i + 1) (by omega) (by omega)]
  have e : floatOfInt .f32 (1 + (i : Int)) = sw (i + 1) 0 := by
    rw [show (1 : Int) + (i : Int) = ((i + 1 : Nat) : Int) by omega, pl_of_int]
    rfl
  have hq := pl_quo (k := .f32) (n := i + 1) (P := 1) (p := 0) (q := 3) (by rw [Nat.mul_one]; exact rg32 (by omega) (by omega) (by omega) (by omega)) (rg32 (by omega) (by omega) (by omega) (by omega)) (rg32 (by omega) (by omega) (by omega) (by omega))
  rw [Nat.mul_one] at hq
  rw [e, eight_w] at h
  exact fop_eq hq h
theorem prod_sw {n m z : Nat} (hn : n ≠ 0) (hm : m ≠ 0) (hn1 : n ≤ 200) (hm1 : m ≤ 200) (h : FOp .mul .f32 (sw n (-3)) (sw m (-3)) z) : z = sw (n * m) (-6) := by
  have hle : n * m ≤ 200 * 200 := Nat.mul_le_mul hn1 hm1
  have h0 : n * m ≠ 0 := Nat.ne_of_gt (Nat.mul_pos (Nat.pos_of_ne_zero hn) (Nat.pos_of_ne_zero hm))
  have e := pl_mul (k := .f32) (n := n) (m := m) (p := -3) (q := -3) (rg32 hn (by omega) (by omega) (by omega)) (rg32 hm (by omega) (by omega) (by omega)) (rg32 h0 (by omega) (by omega) (by omega))
  rw [show (-3 : Int) + -3 = -6 by omega] at e
  exact fop_eq e h
theorem prod_at {i j z : Nat} (hi : i < 200) (hj : j < 200) (h : FOp .mul .f32 (sw (8 * (i + 1)) (-6)) (sw (8 * (j + 1)) (-6)) z) : z = sw ((i + 1) * (j + 1)) (-6) := by
  rw [sw_eight (i + 1) (by omega) (by omega), sw_eight (j + 1) (by omega) (by omega)] at h
  exact prod_sw (by omega) (by omega) (by omega) (by omega) h
theorem sw_pos {n : Nat} (h0 : n ≠ 0) (hn : n ≤ 40000) : posB (sw n (-6)) = true := by
  obtain ⟨t, h⟩ := pl_read (k := .f32) (rg32 (n := n) (p := -6) h0 hn (by omega) (by omega))
  have h : FloatKind.f32.format.read (sw n (-6)) = .number false (n * 2 ^ t) (-6 - (t : Int)) := h
  have hz : FloatKind.f32.format.read 0 = .number false 0 (-149) := by decide +kernel
  have hp := Nat.mul_pos (Nat.pos_of_ne_zero h0) (Nat.two_pow_pos t)
  unfold posB fin Format.order
  rw [h, hz]
  unfold Datum.order
  dsimp only
  have s1 : 0 < signed false (n * 2 ^ t) (-6 - (t : Int) - min (-6 - (t : Int)) (-149)).toNat := by
    unfold signed
    rw [shl_eq]
    exact Int.ofNat_lt.2 (Nat.mul_pos hp (Nat.two_pow_pos _))
  have s2 : signed false 0 (-149 - min (-6 - (t : Int)) (-149)).toNat = 0 := by
    unfold signed
    rw [shl_eq, Nat.zero_mul]
    rfl
  rw [s2]
  generalize signed false (n * 2 ^ t) (-6 - (t : Int) - min (-6 - (t : Int)) (-149)).toNat = v at *
  have e : compare v (0 : Int) = Ordering.gt := by
    simp only [compare, compareOfLessAndEq]
    rw [if_neg (by omega), if_neg (by omega)]
  rw [e]
  rfl
theorem ten_is {i j : Nat} (hi : i < 200) (hj : j < 200) {n : Int} {t : Bool} (h : (posB (sw ((i + 1) * (j + 1)) (-6)) = true ∧ t = true ∧ TenV (sw ((i + 1) * (j + 1)) (-6)) n) ∨ (posB (sw ((i + 1) * (j + 1)) (-6)) = false ∧ t = false ∧ n = 0)) : t = true ∧ n = tenT ((i + 1) * (j + 1)) := by
  have hle : (i + 1) * (j + 1) ≤ 200 * 200 := Nat.mul_le_mul (by omega) (by omega)
  have h0 : (i + 1) * (j + 1) ≠ 0 := Nat.ne_of_gt (Nat.mul_pos (by omega) (by omega))
  rcases h with ⟨_, h1, h2⟩ | ⟨h1, _⟩
  · exact ⟨h1, TenV.det (ten_pair hi hj) h2⟩
  · rw [sw_pos h0 (by omega)] at h1; cases h1
theorem pairs_at {i j : Nat} (hi : i < 200) (hj : j < 200) : tenT (8 * (i + 1)) + tenT (8 * (j + 1)) - tenT ((i + 1) * (j + 1)) ≤ 1 ∧ tenT ((i + 1) * (j + 1)) - tenT (8 * (i + 1)) - tenT (8 * (j + 1)) ≤ 1 := by
  rcases (by omega : i < 50 ∨ (50 ≤ i ∧ i < 100) ∨ (100 ≤ i ∧ i < 150) ∨ 150 ≤ i) with h | h | h | h
  · have e := ten_pairs0 ⟨i, h⟩ ⟨j, hj⟩
    simpa only [pairOk_0, Nat.zero_add, Bool.and_eq_true, decide_eq_true_eq] using e
  · have e := ten_pairs1 ⟨i - 50, by omega⟩ ⟨j, hj⟩
    simp only [pairOk_1, show 50 + (i - 50) = i by omega, Bool.and_eq_true, decide_eq_true_eq] at e
    exact e
  · have e := ten_pairs2 ⟨i - 100, by omega⟩ ⟨j, hj⟩
    simp only [pairOk_2, show 100 + (i - 100) = i by omega, Bool.and_eq_true, decide_eq_true_eq] at e
    exact e
  · have e := ten_pairs3 ⟨i - 150, by omega⟩ ⟨j, hj⟩
    simp only [pairOk_3, show 150 + (i - 150) = i by omega, Bool.and_eq_true, decide_eq_true_eq] at e
    exact e

end Go.Proofs.Ytnflmdlhcjjfdad

namespace Go.Proofs.Ytnflmdlhcjjfdad
open Go.RowKit Fl

theorem count_bd (n : Nat) : ∀ f c, count n f c + 1 ≤ c + 2 ^ f
  | 0, c => by unfold count; omega
  | f + 1, c => by
    unfold count
    have h := count_bd n f (if (stepAt (c + 2 ^ f - 1)).ble n then c + 2 ^ f else c)
    have e : 2 ^ (f + 1) = 2 ^ f + 2 ^ f := by rw [Nat.pow_succ]; omega
    rw [e]
    have hle : (if (stepAt (c + 2 ^ f - 1)).ble n = true then c + 2 ^ f else c) ≤ c + 2 ^ f := by
      have hp := Nat.two_pow_pos f
      generalize 2 ^ f = q at *
      split <;> omega
    generalize (if (stepAt (c + 2 ^ f - 1)).ble n = true then c + 2 ^ f else c) = v at *
    omega
theorem tenT_bd (n : Nat) : -181 ≤ tenT n ∧ tenT n ≤ 400 := by
  have h := count_bd n 9 0
  unfold tenT
  omega
theorem left_eq {a : Int} {t y z t' : Nat} (h : leftO a = some t) (h1 : FCv .f32 .f64 (ang (a % 64).toNat) y) (h2 : FOp .mul .f64 y 4634204016564240384 z) (h3 : FOp .sub .f64 z (floatOfInt .f64 a) t') : t' = t := by
  obtain ⟨y', k1, h⟩ := bnd h
  obtain ⟨z', k2, h⟩ := bnd h
  have e := fcv_eq k1 h1
  subst e
  have e := fop_eq k2 h2
  subst e
  exact fop_eq h h3
theorem gt_false {g m : Nat} (h : gtB g m = false) : (FloatKind.f64.format.order g m == some Ordering.gt) = false := h
theorem side2 {k : Nat} (hk : k < 4) : ∃ g0, (∀ y g, FCv .f32 .f64 (ph (16 * k)).1 y → GapR y 0 g → g = g0) ∧ (FloatKind.f64.format.order g0 0 = some Ordering.eq ∨ FloatKind.f64.format.order g0 4607182418800017408 = some Ordering.eq) := by
  have h := side_tab ⟨k, hk⟩
  simp only at h
  unfold sideOk at h
  cases hy : floatToFloatBits .f32 (ph (16 * k)).1 .f64 with
  | none => rw [hy] at h; cases h
  | some y' =>
    rw [hy] at h
    simp only [Option.bind_some] at h
    cases hg : gapO y' 0 with
    | none => rw [hg] at h; cases h
    | some g' =>
      refine ⟨g', fun y g h1 h2 => ?_, ?_⟩
      · have e := fcv_eq hy h1
        subst e
        exact gapO_eq hg h2
      · rw [hg] at h
        simp only [Bool.or_eq_true] at h
        rcases h with h | h
        · exact .inl (eq_of_beq h)
        · exact .inr (eq_of_beq h)
theorem conv_left (u : Nat) (n : Int) (h : floatToIntVal .f64 u .i64 = some n) (W : World) : (convert 27 2 (.float .f64 u)).run Try.prog W = .ok (.int .i64 n) W :=
  run_convert_float_int W 27 2 .f64 .i64 u n (by kernel_rfl) (by kernel_rfl) h

theorem one_w : (1065353216 : Nat) = sw 64 (-6) := by decide +kernel
theorem ten_one : tenT ((7 + 1) * (7 + 1)) = 0 := by decide +kernel
theorem ph_16 : ph 16 = (0, 1065353216) := by decide +kernel
theorem ang_16 : ang 16 = 1048576000 := by decide +kernel
theorem ang_one {r : Nat} (h : AngleV 1065353216 0 r) : r = 1048576000 := by
  rw [← ang_16]
  exact ang_at (k := 16) (by omega) (by rw [ph_16]; exact h)
theorem same_no : (bitsV 1048576000 == bitsV 0) = false := by decide +kernel
theorem phasor_c (y : Nat) (hyl : y < 2 ^ FloatKind.f64.format.width) (w : World) : Calls Try.prog 9 #[.float .f64 y] w (GivesC (PhasV y) w) := by
  cases hf : fin .f64 y
  · exact phasorOf_nan y hyl hf w
  · rcases Nat.lt_or_ge (y % 9223372036854775808) 4841369599423283200 with h | h
    · exact phasorOf_few y hyl hf h w
    · exact phasorOf_many y hyl hf h w

set_option maxRecDepth 100000 in
set_option maxHeartbeats 8000000 in
theorem circles_law (A B : Option Addr) (zs ys : List Nat) (c d : Nat) (hz : zs.length ≤ 1048576) (hy : ys.length ≤ 1048576) (w : World) (hA : RdB w A zs) (hB : RdB w B ys) :
    Calls Try.prog 3 #[.slice A zs.length c, .slice B ys.length d] w fun e w' => e = .returned (.bool true) ∧ Below w.heap.size w w' := by
  have HA := Frame.hid hA
  have HB := Frame.hid hB
  have HZ := Frame.hid hz
  have HY := Frame.hid hy
  have hL : (decide (1048576 < (zs.length : Int)) || decide (1048576 < (ys.length : Int))) = false := by
    rw [Bool.or_eq_false_iff, decide_eq_false_iff_not, decide_eq_false_iff_not]; omega
  have HL := Frame.hid hL
  clear hA hB hz hy hL
  go_enter Try.func3, Try.ntmps3
  go_wp2_with fail
  refine (b10Long_c _ _ _ _ _ _ (by have := HZ.out; unfold maxLen; omega) (by have := HY.out; unfold maxLen; omega) _).mono ?_
  rintro e w0 ⟨rfl, rfl⟩
  rw [HL.out]
  go_wp2_with fail
  refine (b10At_c 0 256 (by omega) (by omega) (by omega) A zs c HZ.out _ HA.out).mono ?_
  rintro e w1 ⟨k1, hk1, rfl, rfl⟩
  go_wp2_with fail
  refine (b10At_c 1 256 (by omega) (by omega) (by omega) A zs c HZ.out _ HA.out).mono ?_
  rintro e w1 ⟨k2, hk2, rfl, rfl⟩
  go_wp2_with fail
  refine upon_arith _ _ _ _ _ rfl ?_
  intro Y1 n1 hY1 hl1
  have HY1 := Frame.hid hY1
  clear hY1
  go_wp2_with fail
  refine (phasor_c Y1 hl1 _).mono ?_
  rintro e w2 ⟨p1, p2, n2, rfl, hp, _, _, rfl⟩
  have HP := Frame.hid (phas_at (by omega) (by omega) HY1.out hp)
  clear hp hl1
  go_wp2_with fail
  refine upon_arith _ _ _ _ _ rfl ?_
  intro Y2 n3 hY2 hl2
  have HY2 := Frame.hid hY2
  clear hY2
  go_wp2_with fail
  refine (phasor_c Y2 hl2 _).mono ?_
  rintro e w3 ⟨q1, q2, n4, rfl, hp, _, _, rfl⟩
  have HQ := Frame.hid (phas_at (by omega) (by omega) HY2.out hp)
  clear hp hl2
  go_wp2_with fail
  refine upon_arith _ _ _ _ _ rfl ?_
  intro Y3 n5 hY3 hl3
  have HY3 := Frame.hid hY3
  clear hY3
  go_wp2_with fail
  refine (phasor_c Y3 hl3 _).mono ?_
  rintro e w4 ⟨r1, r2, n6, rfl, hp, _, _, rfl⟩
  have HR := Frame.hid (phas_at (by omega) (by omega) HY3.out hp)
  clear hp HY1 HY2 HY3 hl3
  obtain ⟨ka, hka⟩ : ∃ ka : Nat, ka = (((k1 : Int) - 128) % 64).toNat := ⟨_, rfl⟩
  obtain ⟨kb, hkb⟩ : ∃ kb : Nat, kb = (((k2 : Int) - 128) % 64).toNat := ⟨_, rfl⟩
  have hkc : (((k1 : Int) - 128 + ((k2 : Int) - 128)) % 64).toNat = (ka + kb) % 64 := by omega
  have hka1 : ka < 64 := by omega
  have hkb1 : kb < 64 := by omega
  rw [hkc] at HR
  rw [← hka] at HP
  rw [← hkb] at HQ
  have HKA := Frame.hid hka
  clear hkb hkc hka
  go_wp2_with fail
  refine (angleOf_calls p1 p2 _).mono ?_
  rintro e w5 ⟨g1, n7, rfl, hg, _, rfl⟩
  have HG : Hid (g1 = ang ka) := Frame.hid (ang_at hka1 (by have h := HP.out; rw [← h]; exact hg))
  clear hg
  go_wp2_with fail
  refine upon_conv _ _ .f32 .f64 _ (by decide) (.inl rfl) (by kernel_rfl) (by kernel_rfl) ?_
  intro y1 n8 hy1 _
  have hy1' : FCv .f32 .f64 (ang (((k1 : Int) - 128) % 64).toNat) y1 := by rw [← HKA.out, ← HG.out]; exact hy1
  have HY1 := Frame.hid hy1'
  clear hy1 hy1'
  go_wp2_with fail
  refine upon_arith _ _ _ _ _ rfl ?_
  intro z1 n9 hz1 _
  have HZ1 := Frame.hid hz1
  clear hz1
  go_wp2_with fail
  refine upon_arith _ _ _ _ _ rfl ?_
  intro t1 n10 ht1 _
  obtain ⟨t0, u, n, g, e1, e2, e3, e4, e5, hmod, e7, e8⟩ := left_at (a := (k1 : Int) - 128) (by omega) (by omega)
  obtain rfl := left_eq e1 HY1.out HZ1.out ht1
  have HGAP : Hid (∀ x, GapR t1 (floatOfInt .f64 (n - 10000)) x → (FloatKind.f64.format.order x 4562254508917369340 == some Ordering.gt) = false) := Frame.hid fun x hx => by rw [gapO_eq e4 hx]; exact gt_false e5
  have hcv := conv_left u n e3
  have HE2 := Frame.hid e2
  clear e1 e2 e3 e4 e5 ht1
  go_wp2_with fail
  refine upon_arith _ _ _ _ _ rfl ?_
  intro u1 n11 hu1 _
  obtain rfl := fop_eq HE2.out hu1
  clear hu1
  go_wp2_with fail
  clear hcv
  refine (powerOfZ_calls p1 p2 _).mono ?_
  rintro e w6 ⟨pw, n12, rfl, hpw, _, rfl⟩
  have HPW := Frame.hid hpw
  clear hpw
  go_wp2_with fail
  refine upon_conv _ _ .f32 .f64 _ (by decide) (.inl rfl) (by kernel_rfl) (by kernel_rfl) ?_
  intro py n13 hpy _
  have HPOW : Hid (∀ g, GapR py 4607182418800017408 g → (FloatKind.f64.format.order g 4547007122018943789 == some Ordering.gt) = false) := Frame.hid fun g hg => gt_false (pow_at hka1 (by have h := HP.out; rw [← h]; exact HPW.out) hpy hg)
  clear hpy
  go_wp2_with fail
  refine (b10Gap_c py 4607182418800017408 _).mono ?_
  rintro e w7 ⟨g2, n14, rfl, hg2, _, rfl⟩
  have ho1 := HPOW.out _ hg2
  clear hg2
  go_wp2_with fail
  refine (mulComplexZ_calls p1 p2 q1 q2 _).mono ?_
  rintro e w8 ⟨z1, z2, n15, rfl, hz, _, _, rfl⟩
  have HN : Hid (nearO (z1, z2) (r1, r2) 4547007122018943789 = true) := Frame.hid (by rw [HR.out]; exact mul_at hka1 hkb1 (by have h1 := HP.out; have h2 := HQ.out; rw [← h1, ← h2]; exact hz))
  clear hz ho1
  go_wp2_with fail
  refine (b10Near_c z1 z2 r1 r2 4547007122018943789 HN.out _).mono ?_
  rintro e w9 ⟨rfl, n16, rfl⟩
  go_wp2_with fail
  refine (b10Gap_c t1 (floatOfInt .f64 (n - 10000)) _).mono ?_
  rintro e w10 ⟨g3, n17, rfl, hg3, _, rfl⟩
  have ho2 := HGAP.out _ hg3
  clear hg3
  rcases Decidable.em (((k1 : Int) - 128).tmod 16 = 0) with h16 | h16
  rotate_left
  go_wp2_with fail
  clear h16
  rotate_left
  have hk16 : ka = 16 * (ka / 16) := by
    have h := HKA.out
    have h2 : ((k1 : Int) - 128) % 16 = 0 := Int.emod_eq_zero_of_dvd (Int.dvd_of_tmod_eq_zero h16)
    omega
  obtain ⟨g0, hs1, hs2⟩ := side2 (k := ka / 16) (by omega)
  rw [← hk16] at hs1
  have HS : Hid (∀ y g, FCv .f32 .f64 p1 y → GapR y 0 g → g = g0) := Frame.hid fun y g h1 h2 => hs1 y g (by have h := HP.out; rw [← h]; exact h1) h2
  clear hs1 hk16
  go_wp2_with fail
  clear h16
  refine upon_conv _ _ .f32 .f64 _ (by decide) (.inl rfl) (by kernel_rfl) (by kernel_rfl) ?_
  intro s1 n18 hs _
  have HS1 := Frame.hid hs
  clear hs
  go_wp2_with fail
  refine (b10Gap_c s1 0 _).mono ?_
  rintro e w11 ⟨g4, n19, rfl, hg4, _, rfl⟩
  obtain rfl := HS.out _ _ HS1.out hg4
  clear hg4
  rcases Decidable.em (FloatKind.f64.format.order g4 0 = some Ordering.eq) with h00 | h00
  go_wp2_with fail
  clear h00 hs2
  rotate_left
  have h01 : FloatKind.f64.format.order g4 4607182418800017408 = some Ordering.eq := by
    rcases hs2 with h | h
    · exact absurd h h00
    · exact h
  clear hs2
  go_wp2_with fail
  refine upon_conv _ _ .f32 .f64 _ (by decide) (.inl rfl) (by kernel_rfl) (by kernel_rfl) ?_
  intro s2 n20 hs _
  have HS2 := Frame.hid hs
  clear hs
  go_wp2_with fail
  refine (b10Gap_c s2 0 _).mono ?_
  rintro e w12 ⟨g5, n21, rfl, hg5, _, rfl⟩
  obtain rfl := HS.out _ _ HS2.out hg5
  clear hg5
  go_wp2_with fail
  clear h00 h01
  all_goals
    clear ho2 hmod
    refine (b10At_c 0 200 (by omega) (by omega) (by omega) B ys d HY.out _ (RdB.below (w := w) HB.out (below_drewN (Below.refl _ _) _))).mono ?_
    rintro e w13 ⟨i, hi, rfl, rfl⟩
    go_wp2_with fail
    refine upon_arith _ _ _ _ _ rfl ?_
    intro x nx hx hxl
    have HX := Frame.hid (eighth_at hi hx)
    have HXL : Unit → (x : Int) < 4294967296 := fun _ => Int.ofNat_lt.2 (lt32 hxl)
    clear hx hxl
    go_wp2_with fail
    refine (b10At_c 1 200 (by omega) (by omega) (by omega) B ys d HY.out _ (RdB.below (w := w) HB.out (below_drewN (Below.refl _ _) _))).mono ?_
    rintro e w14 ⟨j, hj, rfl, rfl⟩
    go_wp2_with fail
    refine upon_arith _ _ _ _ _ rfl ?_
    intro y ny hy hyl
    have HYY := Frame.hid (eighth_at hj hy)
    have HYL : Unit → (y : Int) < 4294967296 := fun _ => Int.ofNat_lt.2 (lt32 hyl)
    clear hy hyl
    go_wp2_with fail
    refine (tenthsOf_calls x (HXL ()) _).mono ?_
    rintro e w15 ⟨v1, b1, n22, rfl, hv, rfl⟩
    obtain ⟨rfl, hv1⟩ := ten_is (i := 7) (j := i) (by omega) hi (by rw [HX.out] at hv; exact hv)
    have HV1 := Frame.hid hv1
    clear hv hv1
    go_wp2_with fail
    refine (tenthsOf_calls y (HYL ()) _).mono ?_
    rintro e w16 ⟨v2, b2, n23, rfl, hv, rfl⟩
    obtain ⟨rfl, hv2⟩ := ten_is (i := 7) (j := j) (by omega) hj (by rw [HYY.out] at hv; exact hv)
    have HV2 := Frame.hid hv2
    clear hv hv2
    go_wp2_with fail
    refine upon_arith _ _ _ _ _ rfl ?_
    intro z nz hzz hzl
    have HZZ : Hid (z = sw ((i + 1) * (j + 1)) (-6)) := Frame.hid (prod_at hi hj (by rw [HX.out, HYY.out] at hzz; exact hzz))
    have HZL : Unit → (z : Int) < 4294967296 := fun _ => Int.ofNat_lt.2 (lt32 hzl)
    clear hzz hzl
    go_wp2_with fail
    refine (tenthsOf_calls z (HZL ()) _).mono ?_
    rintro e w17 ⟨v3, b3, n24, rfl, hv, rfl⟩
    obtain ⟨rfl, hv3⟩ := ten_is (i := i) (j := j) hi hj (by rw [HZZ.out] at hv; exact hv)
    have HV3 := Frame.hid hv3
    clear hv hv3
    go_wp2_with fail
    refine (tenthsOf_calls 1065353216 (by omega) _).mono ?_
    rintro e w18 ⟨v4, b4, n25, rfl, hv, rfl⟩
    obtain ⟨rfl, hv4⟩ := ten_is (i := 7) (j := 7) (by omega) (by omega) (by rw [one_w] at hv; exact hv)
    obtain rfl : v4 = 0 := hv4.trans ten_one
    have hq : v1 + v2 - v3 ≤ 1 ∧ v3 - v1 - v2 ≤ 1 ∧ -181 ≤ v1 ∧ v1 ≤ 400 ∧ -181 ≤ v2 ∧ v2 ≤ 400 ∧ -181 ≤ v3 ∧ v3 ≤ 400 := by
      have h1 := pairs_at hi hj
      have c1 : v1 = tenT (8 * (i + 1)) := HV1.out
      have c2 : v2 = tenT (8 * (j + 1)) := HV2.out
      have c3 := HV3.out
      have b1 := tenT_bd (8 * (i + 1))
      have b2 := tenT_bd (8 * (j + 1))
      have b3 := tenT_bd ((i + 1) * (j + 1))
      rw [← c1] at h1 b1
      rw [← c2] at h1 b2
      rw [← c3] at h1 b3
      exact ⟨h1.1, h1.2, b1.1, b1.2, b2.1, b2.2, b3.1, b3.2⟩
    obtain ⟨hq1, hq2, hq3, hq4, hq5, hq6, hq7, hq8⟩ := hq
    clear hv hv4
    go_wp2_with fail
    refine (angleOf_calls 0 1065353216 _).mono ?_
    rintro e w19 ⟨g6, n26, rfl, hg6, _, rfl⟩
    obtain rfl : g6 = 1048576000 := ang_one hg6
    clear hg6
    go_wp2_with fail
    refine (specSameNumber_calls 1048576000 0 (by omega) (by omega) _).mono ?_
    rintro e w20 ⟨rfl, rfl⟩
    rw [same_no]
    go_wp2_with fail
    go_ret
    exact ⟨rfl, below_drewN (Below.refl _ _) _⟩

set_option maxRecDepth 100000 in
theorem fnCircles_walk (A : Option Addr) (zs : List Nat) (c : Nat) (B : Option Addr) (ys : List Nat) (d : Nat) (hz : zs.length ≤ maxLen) (hy : ys.length ≤ maxLen) (w : World) (hA : RdB w A zs) (hB : RdB w B ys) :
    Calls Try.prog 3 #[.slice A zs.length c, .slice B ys.length d] w fun e w' => e = .returned (.bool true) ∧ Below w.heap.size w w' := by
  by_cases h : zs.length ≤ 1048576 ∧ ys.length ≤ 1048576
  · exact circles_law A B zs ys c d h.1 h.2 w hA hB
  · have hL : (decide (1048576 < (zs.length : Int)) || decide (1048576 < (ys.length : Int))) = true := by
      rw [Bool.or_eq_true, decide_eq_true_eq, decide_eq_true_eq]; omega
    clear hA hB h
    go_enter Try.func3, Try.ntmps3
    go_wp2_with fail
    refine (b10Long_c _ _ _ _ _ _ hz hy _).mono ?_
    rintro e w0 ⟨rfl, rfl⟩
    rw [hL]
    go_wp2_with fail
    go_ret
    exact ⟨rfl, Below.refl _ _⟩

end Go.Proofs.Ytnflmdlhcjjfdad
