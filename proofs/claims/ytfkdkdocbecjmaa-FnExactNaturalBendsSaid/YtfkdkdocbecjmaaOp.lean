/-
  A slice of floats that comes in, opened: what it reads as.
-/
import Derived.Test.YtfkdkdocbecjmaaSl
import Derived.Deep.Slices
import Derived.ChangeShapes
namespace Go.Proofs.Ytfkdkdocbecjmaa
open Go.RowKit Go.WideShapes Go.Deep Fl

section
variable {H : Type} {enc : TypeId × Value → H} {P : Program} {w : World} {base : Nat} {spare : Nat → Bool} {held : Bool}
theorem trod_flt {t : TypeId} {k : FloatKind} {fuel : Nat} {cs : List Value} {x : DataW H × List MemPlace} (ht : P.underlying t = some (.float k)) (h : DataW.trod enc P w base spare held fuel t cs = some x) :
    ∃ b, cs = [.float k b] ∧ (Lit.float k b).wf = true := by
  cases fuel with
  | zero => simp [DataW.trod] at h
  | succ n =>
    unfold DataW.trod at h
    rw [ht] at h
    split at h <;> simp_all
end

def bitsOfV : Value → Nat | .float _ b => b | _ => 0

theorem open_floats {H : Type} {enc : TypeId × Value → H} {P : Program} {w : World} {r : Reach} {b0 base : Nat} {spare : Nat → Bool} {held : Bool} {t e : TypeId} {v : Value} {d : DataW H} {ps : List MemPlace}
    (ht : P.underlying t = some (.slice e)) (he : P.underlying e = some (.float .f32)) (hc : P.cellsOf e = 1) (hval : Value.okWide P w r b0 t v)
    (h : DataW.Trod enc P w base spare held t v d ps) (hsp : ∀ b, spare b = true) :
    ∃ A xs c, v = .slice A xs.length c ∧ xs.length ≤ maxLen ∧ RdF w A xs ∧ ∀ x ∈ xs, (Lit.float .f32 x).wf = true := by
  obtain ⟨a, len, cap, rfl⟩ := okWide_slice ht hval
  obtain ⟨fuel, hf⟩ := h
  rcases open_slice1 ht hc hf with ⟨hcs, _⟩ | ⟨a', len', cap', m, n, V, D, Pl, hcs, _, hl, hm, hmm, _, hx⟩
  · simp [Value.cells] at hcs
    obtain ⟨rfl, rfl, rfl⟩ := hcs
    exact ⟨none, [], 0, rfl, Nat.zero_le _, fun h0 => absurd h0 (by simp), fun x hx => by cases hx⟩
  · simp [Value.cells] at hcs
    obtain ⟨rfl, rfl, rfl⟩ := hcs
    rw [hsp, if_pos rfl] at hmm
    subst hmm
    have hv : ∀ i, i < m → ∃ b, V i = .float .f32 b ∧ (Lit.float .f32 b).wf = true := fun i hi => by
      obtain ⟨b, h1, h2⟩ := trod_flt he (hx i hi).2
      exact ⟨b, by simpa using h1, h2⟩
    have hb : ∀ i, i < m → V i = .float .f32 (bitsOfV (V i)) := fun i hi => by
      obtain ⟨b, h1, _⟩ := hv i hi
      rw [h1]; rfl
    refine ⟨some a', (List.range len).map (fun i => bitsOfV (V i)), m, by simp, by simp; omega, ?_, ?_⟩
    · intro h0
      simp at h0
      obtain ⟨b, off, spot⟩ := a'
      have c0 := (hx 0 (by omega)).1
      have hspot : spot = none := by simpa [Addr.add] using World.cell?_spot c0
      subst hspot
      refine ⟨b, off, rfl, ?_, fun j hj => ?_⟩
      · have := World.block_lt_of_cell? w _ c0
        simpa [add_plain] using this
      · simp at hj
        have cj := (hx j (by omega)).1
        rw [add_plain, hb j (by omega)] at cj
        rw [cj]
        simp [List.getD, hj]
    · intro x hx'
      obtain ⟨i, hi, rfl⟩ := List.mem_map.1 hx'
      obtain ⟨b, h1, h2⟩ := hv i (by have := List.mem_range.1 hi; omega)
      rw [h1]; exact h2

end Go.Proofs.Ytfkdkdocbecjmaa
