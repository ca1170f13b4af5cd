/-
  FnExactSameSheet answers true at every input and leaves its input as it was. No condition.
-/
import Derived.Test.YtoldefcajampcaaKw
import Derived.Test.YtoldefcajampcaaRows
import Derived.Test.YtoldefcajampcaaFrame
import Derived.WalkKit
import Derived.ProofKit
import Derived.OpenShut
import Derived.ShutString
import Derived.Laws.Cover2
import Derived.Lib.SmallJoins
namespace Go.Proofs.Ytoldefcajampcaa.fnExactSameSheet
open Go.ChangeShapes Go.WideShapes Go.ChangeAt Go.RowKit Go.Joins

theorem own : ownKnob Try.prog.godebug = none := by kernel_rfl
theorem laidOut : laidOutB Try.prog = true := by kernel_rfl
theorem wf32 {b : Nat} (h : (Lit.float .f32 b).wf = true) : (b : Int) < 4294967296 := by
  have h1 : b < 4294967296 := by simpa [Lit.wf] using h
  omega
theorem wi64 {n : Int} (h : (Lit.int .i64 n).wf = true) : -9223372036854775808 ≤ n ∧ n ≤ 9223372036854775807 := by
  have e1 : IntKind.i64.min = -9223372036854775808 := rfl
  have e2 : IntKind.i64.max = 9223372036854775807 := rfl
  simpa only [Lit.wf, e1, e2, Bool.and_eq_true, decide_eq_true_eq] using h
theorem cellsSheet : Try.prog.cellsOf 39 = 3 := by kernel_rfl

set_option maxRecDepth 100000 in
theorem fnExactSameSheet_lifted (os : Os) (started : os.Started) (H : Type) (enc : TypeId × Value → H) :
    ReturnsInHanded {} Try.checked os 8 .any (Rows.fnExactSameSheetSpec.pre6 enc Try.prog Try.f8 Rows.fnExactSameSheetRow.domain false) (Rows.fnExactSameSheetSpec.post enc Try.prog Try.f8 false true false false) := by
  refine returnsInHanded_of_change (C := Try.checked) own started (by kernel_rfl) Try.func8
    (ChangeSpec.witness6 (enc := enc) (C := Try.checked) false ⟨#[], #[.agg #[.int .i64 0, .int .i64 0, .slice none 0 0], .agg #[.int .i64 0, .int .i64 0, .slice none 0 0]], []⟩ 8 (by kernel_rfl) (by kernel_rfl) (by kernel_rfl) (by kernel_rfl)) ?_
  intro W base args ds gs before hval0 hW _ _
  have hval : ∀ (j : Nat) t v, Try.f8.params[j]? = some t → args[j]? = some v → Value.okWide Try.prog W .any base t v := hval0
  have hW' := hW
  obtain ⟨p, q, hA0, hV, rfl, hfz, hnd⟩ := hW
  have hA : DataW.TrodAll enc Try.prog W 0 (fun _ => true) true Try.f8.params.toList args.toList ds p := hA0
  rw [Try.params8] at hA hval
  obtain ⟨v0, v1, d0, d1, p0, p1, rfl, rfl, rfl, h0, h1⟩ := trodAll_two hA
  obtain ⟨rfl, rfl⟩ := trodVars_none hV
  obtain ⟨e0a, e0b, e0c, y0a, y0b, y0c, m0, rfl, rfl, rfl, t0a, t0b, t0c⟩ := open_agg3 Try.underlying39 (by kernel_rfl) cellsSheet (hval 0 39 v0 rfl rfl) h0
  obtain ⟨a0, rfl, wa0⟩ := int_cell t0a
  obtain ⟨b0, rfl, wb0⟩ := int_cell t0b
  obtain ⟨A0, xs0, c0, rfl, hl0, hr0, hf0⟩ := open_spots_cell t0c (fun _ => rfl)
  obtain ⟨e1a, e1b, e1c, y1a, y1b, y1c, m1, rfl, rfl, rfl, t1a, t1b, t1c⟩ := open_agg3 Try.underlying39 (by kernel_rfl) cellsSheet (hval 1 39 v1 rfl rfl) h1
  obtain ⟨a1, rfl, wa1⟩ := int_cell t1a
  obtain ⟨b1, rfl, wb1⟩ := int_cell t1b
  obtain ⟨A1, xs1, c1, rfl, hl1, hr1, hf1⟩ := open_spots_cell t1c (fun _ => rfl)
  clear hA0 hval0
  refine (fnExactSameSheet_walk a0 b0 A0 xs0 c0 hl0 a1 b1 A1 xs1 c1 hl1 hf0 hf1 W hr0 hr1).mono fun e W' ⟨he, hB⟩ => ?_
  subst he
  exact ⟨_, rfl, Frame.law_done (tb := 4) Try.underlying4 (by kernel_rfl) rfl laidOut (by intro t ht; rw [Try.params8] at ht; simp only [List.mem_cons, List.not_mem_nil, or_false] at ht; rcases ht with rfl | rfl <;> exact ⟨by kernel_rfl, of_decide_eq_true (by kernel_rfl)⟩) hW' rfl hB⟩

theorem fnExactSameSheet_holds : Rows.FnExactSameSheetSaid :=
  OpenClaim.holds_of_wide 8 Try.f8 rfl rfl rfl rfl rfl rfl rfl ⟨rfl, rfl, rfl, rfl, rfl⟩ rfl rfl rfl rfl rfl (by kernel_rfl) Try.func8 (by kernel_rfl)
    (of_decide_eq_true (by kernel_rfl)) (by unfold Func.isWrapper; first | (rw [if_pos (by decide +kernel)]; kernel_rfl) | (rw [if_neg (by decide +kernel)]; exact ⟨rfl, rfl⟩))
    (fun os started H enc _ => fnExactSameSheet_lifted os started H enc)
end Go.Proofs.Ytoldefcajampcaa.fnExactSameSheet
