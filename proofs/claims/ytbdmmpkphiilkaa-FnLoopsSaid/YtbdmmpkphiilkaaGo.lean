/-
  Slices of complex numbers: the call's own, equal lists, marks, what is held.
-/
import Derived.Test.YtbdmmpkphiilkaaCc
import Derived.Test.YtbdmmpkphiilkaaFx
import Derived.Test.YtbdmmpkphiilkaaOw
import Derived.OwnWalk
namespace Go.Proofs.Ytbdmmpkphiilkaa
open Go.RowKit Fl Ieee

theorem Try.infoC : (Try.prog.info? 26).map (fun i => (i.zero, i.size, i.bytes)) = some (some (.complex .f32 0 0), 1, 8) := by kernel_rfl
theorem run_store_c (P : Program) (w : World) (a : Addr) (m : Mode) (k : FloatKind) (b c : Nat) : (store a (.complex k b c) m).run P w = stored P w a (.complex k b c) m := run_store P w a _ m rfl
attribute [local go_sem] run_store_c

def cx (z : Nat × Nat) : Value := .complex .f32 z.1 z.2
def cl (zs : List (Nat × Nat)) : List Value := zs.map cx
theorem cl_len (zs : List (Nat × Nat)) : (cl zs).length = zs.length := List.length_map _
theorem cl_set (zs : List (Nat × Nat)) (j : Nat) (z : Nat × Nat) : (cl zs).set j (cx z) = cl (zs.set j z) := by unfold cl; rw [List.map_set]
theorem cl_app (xs ys : List (Nat × Nat)) : cl xs ++ cl ys = cl (xs ++ ys) := by unfold cl; rw [List.map_append]
theorem cl_get {zs : List (Nat × Nat)} {j : Nat} (h : j < zs.length) : (cl zs)[j]? = some (cx (zs.getD j (0, 0))) := by
  unfold cl
  rw [List.getElem?_map, List.getD_eq_getElem?_getD, List.getElem?_eq_getElem h]
  rfl

/-- A slice of complex numbers that reads as the list. -/
def RdC (w : World) (A : Option Addr) (zs : List (Nat × Nat)) : Prop :=
  0 < zs.length → ∃ b off, A = some ⟨b, off, none⟩ ∧ b < w.heap.size ∧ ∀ j, j < zs.length → w.cell? ⟨b, off + j, none⟩ = some (cx (zs.getD j (0, 0)))
theorem RdC.below {w w' : World} {A : Option Addr} {zs : List (Nat × Nat)} (h : RdC w A zs) (hb : Below w.heap.size w w') : RdC w' A zs := fun h0 => by
  obtain ⟨b, off, e, hlt, hc⟩ := h h0
  exact ⟨b, off, e, Nat.lt_of_lt_of_le hlt hb.size, fun j hj => (hb.cell (p := ⟨b, off + j, none⟩) hlt).trans (hc j hj)⟩
/-- A slice of the call's own. -/
def OwnC (w : World) (base : Nat) (v : Value) (zs : List (Nat × Nat)) : Prop := w.ownsRow base 26 1 v zs.length (cl zs)
theorem OwnC.cell {w : World} {base g n cap : Nat} {zs : List (Nat × Nat)} (h : OwnC w base (.slice (some ⟨g, 0, none⟩) n cap) zs) (hn : n = zs.length) {j : Nat} (hj : j < zs.length) : w.cell? ⟨g, j, none⟩ = some (cx (zs.getD j (0, 0))) := by
  subst hn
  have := World.ownsRow.cellAt h j (by omega)
  rw [this, cl_get hj]
theorem OwnC.froz {w : World} {base g n cap : Nat} {zs : List (Nat × Nat)} (h : OwnC w base (.slice (some ⟨g, 0, none⟩) n cap) zs) (hn : n = zs.length) (j : Nat) : w.frozen? ⟨g, j, none⟩ = false := by
  subst hn
  exact World.ownsRow.frozenAt h j
theorem OwnC.put {w : World} {base g n cap : Nat} {zs : List (Nat × Nat)} (h : OwnC w base (.slice (some ⟨g, 0, none⟩) n cap) zs) (hn : n = zs.length) (j : Nat) (z : Nat × Nat) :
    OwnC (w.setCell ⟨g, j, none⟩ (cx z)) base (.slice (some ⟨g, 0, none⟩) n cap) (zs.set j z) := by
  subst hn
  have := (World.ownsRow.stored h j (cx z)).1
  rw [cl_set] at this
  unfold OwnC
  rw [List.length_set]
  exact this
theorem OwnC.below {w w' : World} {base : Nat} {v : Value} {zs : List (Nat × Nat)} (h : OwnC w base v zs) (hb : Below w.heap.size w w') : OwnC w' base v zs := by
  refine ⟨h.1, ?_⟩
  rcases h.2 with hn | ⟨g, cap, cur, hv, hbg, hg, rest⟩
  · exact .inl hn
  · exact .inr ⟨g, cap, cur, hv, hbg, by rw [hb.block g (Array.getElem?_eq_some_iff.1 hg).1]; exact hg, rest⟩
theorem OwnC.form {w : World} {base : Nat} {v : Value} {zs : List (Nat × Nat)} (h : OwnC w base v zs) : (v = .slice none 0 0 ∧ zs = []) ∨ ∃ g cap, v = .slice (some ⟨g, 0, none⟩) zs.length cap ∧ base ≤ g ∧ g < w.heap.size := by
  rcases h.2 with ⟨hv, h0⟩ | ⟨g, cap, cur, hv, hb, hg, _⟩
  · exact .inl ⟨hv, List.eq_nil_of_length_eq_zero h0⟩
  · exact .inr ⟨g, cap, hv, hb, (Array.getElem?_eq_some_iff.1 hg).1⟩
theorem OwnC.reads {w : World} {base : Nat} {v : Value} {zs : List (Nat × Nat)} (h : OwnC w base v zs) : ∃ A c, v = .slice A zs.length c ∧ RdC w A zs := by
  rcases h.form with ⟨rfl, rfl⟩ | ⟨g, cap, rfl, hb, hlt⟩
  · exact ⟨none, 0, rfl, fun h => absurd h (by simp)⟩
  · refine ⟨_, cap, rfl, fun h0 => ⟨g, 0, rfl, hlt, fun j hj => ?_⟩⟩
    rw [Nat.zero_add]
    exact h.cell rfl hj

theorem upon_cconv {P : Program} {o : Oper} {a : Act} {w : World} {K : Act → World → Prop} {Q : Exit → Act → World → Prop} (src dst : TypeId) (s k : FloatKind) (b c : Nat) (hne : s ≠ k) (hw : s = .f32 ∨ k = .f32)
    (hs : (P.underlying src).isSome = true) (hd : P.underlying dst = some (.complex k)) (h : ∀ re im n, FCv s k b re → FCv s k c im → re < 2 ^ k.format.width → im < 2 ^ k.format.width → K (a.put o.dst (.complex k re im)) (w.drewN n)) :
    Oper.upon P o a K Q (((convert src dst (.complex s b c)).run P w).andThen fun v w' => Result.ok (Next.value v) w') := by
  obtain ⟨re, im, n, hr, h1, h2, h3, h4⟩ := run_cconv_any (P := P) w src dst s k hne b c hs hd hw
  rw [hr]
  exact h re im n h1 h2 h3 h4

/-- The marks. -/
def mkC (p : Nat) : Nat × Nat := (floatOfInt .f32 (1 + (p : Int)), 1065353216)
def marksC (m : Nat) : List (Nat × Nat) := (List.range m).map mkC
theorem marksC_len (m : Nat) : (marksC m).length = m := by simp [marksC]
theorem marksC_get {m p : Nat} (h : p < m) : (marksC m).getD p (0, 0) = mkC p := by
  have e : (marksC m)[p]? = some (mkC p) := by unfold marksC; rw [List.getElem?_map, List.getElem?_range h]; rfl
  rw [List.getD_eq_getElem?_getD, e]; rfl
theorem marksC_of {m : Nat} {zs : List (Nat × Nat)} (hl : zs.length = m) (h : ∀ p, p < m → zs.getD p (0, 0) = mkC p) : zs = marksC m := by
  apply List.ext_getElem
  · rw [hl, marksC_len]
  · intro i h1 h2
    have a := h i (by omega)
    have b := marksC_get (m := m) (p := i) (by omega)
    rw [List.getD_eq_getElem?_getD, List.getElem?_eq_getElem h1] at a
    rw [List.getD_eq_getElem?_getD, List.getElem?_eq_getElem h2] at b
    exact (show zs[i] = _ from a).trans (show _ = (marksC m)[i] from b.symm)
theorem mkC_conv : ∀ p : Fin 257, floatToFloatBits .f64 (floatOfInt .f64 (1 + (p.val : Int))) .f32 = some (floatOfInt .f32 (1 + (p.val : Int))) := by decide +kernel
theorem oneC_conv : floatToFloatBits .f64 4607182418800017408 .f32 = some 1065353216 := by decide +kernel
theorem mkC_num : ∀ p : Fin 257, isNan .f32 (floatOfInt .f32 (1 + (p.val : Int))) = false := by decide +kernel
theorem mkC_of {p r i : Nat} (h : p < 257) (hr : FCv .f64 .f32 (floatOfInt .f64 (1 + (p : Int))) r) (hi : FCv .f64 .f32 4607182418800017408 i) : r = (mkC p).1 ∧ i = (mkC p).2 := by
  unfold FCv at hr hi
  rw [mkC_conv ⟨p, h⟩] at hr
  rw [oneC_conv] at hi
  exact ⟨hr, hi⟩

end Go.Proofs.Ytbdmmpkphiilkaa
