/-
  A slice of bytes that comes in, opened: what it reads as.
-/
import Derived.Test.YtbdmmpkphiilkaaSc
import Derived.Deep.Slices
import Derived.ChangeShapes
import Derived.ChangeSlices
namespace Go.Proofs.Ytbdmmpkphiilkaa
open Go.RowKit Go.WideShapes Go.Deep Fl

/-- A slice of bytes that reads as the list. -/
def RdB (w : World) (A : Option Addr) (zs : List Nat) : Prop :=
  0 < zs.length → ∃ b off, A = some ⟨b, off, none⟩ ∧ b < w.heap.size ∧ ∀ j, j < zs.length → w.cell? ⟨b, off + j, none⟩ = some (.int .u8 ((zs.getD j 0 : Nat) : Int)) ∧ zs.getD j 0 < 256

def byteV : Value → Int | .int _ n => n | _ => 0

theorem open_u8s {H : Type} {enc : TypeId × Value → H} {P : Program} {w : World} {r : Reach} {b0 base : Nat} {spare : Nat → Bool} {held : Bool} {t e : TypeId} {v : Value} {d : DataW H} {ps : List MemPlace}
    (ht : P.underlying t = some (.slice e)) (he : P.underlying e = some (.int .u8)) (hc : P.cellsOf e = 1) (hval : Value.okWide P w r b0 t v)
    (h : DataW.Trod enc P w base spare held t v d ps) (hsp : ∀ b, spare b = true) :
    ∃ A zs c, v = .slice A zs.length c ∧ zs.length ≤ maxLen ∧ RdB w A zs := by
  obtain ⟨a, len, cap, rfl⟩ := okWide_slice ht hval
  obtain ⟨fuel, hf⟩ := h
  rcases open_slice1 ht hc hf with ⟨hcs, _⟩ | ⟨a', len', cap', m, n, V, D, Pl, hcs, _, hl, hm, hmm, _, hx⟩
  · simp [Value.cells] at hcs
    obtain ⟨rfl, rfl, rfl⟩ := hcs
    exact ⟨none, [], 0, rfl, Nat.zero_le _, fun h0 => absurd h0 (by simp)⟩
  · simp [Value.cells] at hcs
    obtain ⟨rfl, rfl, rfl⟩ := hcs
    rw [hsp, if_pos rfl] at hmm
    subst hmm
    have hv : ∀ i, i < m → ∃ z : Nat, V i = .int .u8 (z : Int) ∧ z < 256 := fun i hi => by
      obtain ⟨z, h1, _, hw⟩ := DataW.trod_int he (hx i hi).2
      have h1 : V i = .int .u8 z := by simpa using h1
      have e1 : IntKind.u8.min = 0 := rfl
      have e2 : IntKind.u8.max = 255 := rfl
      have hb : 0 ≤ z ∧ z ≤ 255 := by simpa only [Lit.wf, e1, e2, Bool.and_eq_true, decide_eq_true_eq] using hw
      exact ⟨z.toNat, by rw [h1]; congr 1; omega, by omega⟩
    have hb : ∀ i, i < m → V i = .int .u8 (((byteV (V i)).toNat : Nat) : Int) ∧ (byteV (V i)).toNat < 256 := fun i hi => by
      obtain ⟨z, h1, h2⟩ := hv i hi
      rw [h1]
      exact ⟨by simp [byteV], by simpa [byteV] using h2⟩
    refine ⟨some a', (List.range len).map (fun i => (byteV (V i)).toNat), m, by simp, by simp; omega, ?_⟩
    intro h0
    simp at h0
    obtain ⟨b, off, spot⟩ := a'
    have c0 := (hx 0 (by omega)).1
    have hspot : spot = none := by simpa [Addr.add] using World.cell?_spot c0
    subst hspot
    refine ⟨b, off, rfl, ?_, fun j hj => ?_⟩
    · have := World.block_lt_of_cell? w _ c0
      simpa [add_plain] using this
    · simp at hj
      have cj := (hx j (by omega)).1
      obtain ⟨k1, k2⟩ := hb j (by omega)
      rw [add_plain, k1] at cj
      have e : ((List.range len).map (fun i => (byteV (V i)).toNat)).getD j 0 = (byteV (V j)).toNat := by simp [List.getD, hj]
      rw [e]
      exact ⟨cj, k2⟩

end Go.Proofs.Ytbdmmpkphiilkaa
