/-
  Slices of 32-bit numbers: equal lists, marks, what is held.
-/
import Derived.Test.YtnbgnaenlbphcaaOw
import Derived.OwnWalk
namespace Go.Proofs.Ytnbgnaenlbphcaa
open Go.RowKit Fl Ieee
attribute [local go_sem] run_store_f

/-- The marksF. -/
def mkF (p : Nat) : Nat := floatOfInt .f32 (1 + (p : Int))
def marksF (m : Nat) : List Nat := (List.range m).map mkF
theorem marksF_len (m : Nat) : (marksF m).length = m := by simp [marksF]
theorem marksF_get {m p : Nat} (h : p < m) : (marksF m).getD p 0 = floatOfInt .f32 (1 + (p : Int)) := by
  have e : (marksF m)[p]? = some (mkF p) := by unfold marksF; rw [List.getElem?_map, List.getElem?_range h]; rfl
  rw [List.getD_eq_getElem?_getD, e]; rfl
theorem marksF_of {m : Nat} {zs : List Nat} (hl : zs.length = m) (h : ∀ p, p < m → zs.getD p 0 = floatOfInt .f32 (1 + (p : Int))) : zs = marksF m := by
  apply List.ext_getElem
  · rw [hl, marksF_len]
  · intro i h1 h2
    have a := h i (by omega)
    have b := marksF_get (m := m) (p := i) (by omega)
    rw [List.getD_eq_getElem?_getD, List.getElem?_eq_getElem h1] at a
    rw [List.getD_eq_getElem?_getD, List.getElem?_eq_getElem h2] at b
    exact (show zs[i] = _ from a).trans (show _ = (marksF m)[i] from b.symm)
theorem markF_num : ∀ p : Fin 257, isNan .f32 (floatOfInt .f32 (1 + (p.val : Int))) = false := by decide +kernel
theorem markF_self {p : Nat} (h : p < 257) : (FloatKind.f32.format.order (floatOfInt .f32 (1 + (p : Int))) (floatOfInt .f32 (1 + (p : Int))) != some Ordering.eq) = false := by
  rw [neq_self]
  exact markF_num ⟨p, h⟩

def MarkFAt (B : Nat) (g m cap : Nat) (w : World) (k i : Value) (wr : World) : Prop :=
  ∃ q : Nat, q ≤ m ∧ k = .int .i64 (1 + (q : Int)) ∧ i = .int .i64 q ∧ ∃ zs, zs.length = m ∧ OwnF wr B (.slice (some ⟨g, 0, none⟩) m cap) zs ∧ (∀ p, p < q → zs.getD p 0 = floatOfInt .f32 (1 + (p : Int))) ∧ Below B w wr


/-- Its form: none, or a block of its own. -/
theorem OwnF.form {w : World} {base : Nat} {v : Value} {ys : List Nat} (h : OwnF w base v ys) : (v = .slice none 0 0 ∧ ys = []) ∨ ∃ g cap, v = .slice (some ⟨g, 0, none⟩) ys.length cap ∧ base ≤ g ∧ g < w.heap.size := by
  rcases h.2 with ⟨hv, h0⟩ | ⟨g, cap, cur, hv, hb, hg, _⟩
  · exact .inl ⟨hv, List.eq_nil_of_length_eq_zero h0⟩
  · exact .inr ⟨g, cap, hv, hb, (Array.getElem?_eq_some_iff.1 hg).1⟩
theorem OwnF.reads {w : World} {base : Nat} {v : Value} {ys : List Nat} (h : OwnF w base v ys) : ∃ A c, v = .slice A ys.length c ∧ RdF w A ys := by
  rcases h.form with ⟨rfl, rfl⟩ | ⟨g, cap, rfl, hb, hlt⟩
  · exact ⟨none, 0, rfl, fun h => absurd h (by simp)⟩
  · exact ⟨_, cap, rfl, h.rd rfl⟩

end Go.Proofs.Ytnbgnaenlbphcaa
