/-
  A slice of spots that comes in, opened.
-/
import Derived.Test.YtnbgnaenlbphcaaKp
namespace Go.Proofs.Ytnbgnaenlbphcaa
open Go.RowKit Fl Go.WideShapes Go.Deep

theorem cellsLSpot : Try.prog.cellsOf 144 = 3 := by kernel_rfl
theorem cellsF32 : Try.prog.cellsOf 25 = 1 := by kernel_rfl
def f32V (v : Value) : Nat := match v with | .float _ b => b | _ => 0
theorem float_one {H : Type} {enc : TypeId × Value → H} {W : World} {base n : Nat} {spare : Nat → Bool} {held : Bool} {v : Value} {y : DataW H × List MemPlace} (h : DataW.trod enc Try.prog W base spare held n 25 [v] = some y) :
    v = .float .f32 (f32V v) ∧ (Lit.float .f32 (f32V v)).wf = true := by
  cases n with
  | zero => simp [DataW.trod] at h
  | succ m =>
    simp only [DataW.trod, Try.underlying25] at h
    cases v <;> simp at h
    rename_i k b
    obtain ⟨⟨rfl, hw⟩, _⟩ := h
    exact ⟨rfl, hw⟩
theorem wfb {b : Nat} (h : (Lit.float .f32 b).wf = true) : b < 4294967296 := by simpa [Lit.wf] using h

/-- The parts fit into 32 bits. -/
def Fit (xs : List (Nat × Nat × Nat)) : Prop := ∀ j, j < xs.length → sx xs j < 4294967296 ∧ sy xs j < 4294967296 ∧ sz xs j < 4294967296

set_option maxRecDepth 100000 in
theorem open_spots {H : Type} {enc : TypeId × Value → H} {w : World} {r : Reach} {b0 base : Nat} {spare : Nat → Bool} {held : Bool} {v : Value} {d : DataW H} {ps : List MemPlace}
    (hval : Value.okWide Try.prog w r b0 22 v) (h : DataW.Trod enc Try.prog w base spare held 22 v d ps) (hsp : ∀ b, spare b = true) :
    ∃ A xs c, v = .slice A xs.length c ∧ xs.length ≤ maxLen ∧ RdS w A xs ∧ Fit xs := by
  obtain ⟨a, len, cap, rfl⟩ := okWide_slice Try.underlying22 hval
  obtain ⟨fuel, hf⟩ := h
  rcases open_slice Try.underlying22 hf with ⟨hcs, _⟩ | ⟨a', len', cap', m, n, D, Pl, hcs, _, hl, hm, hmm, _, hx⟩
  · simp [Value.cells] at hcs
    obtain ⟨rfl, rfl, rfl⟩ := hcs
    exact ⟨none, [], 0, rfl, Nat.zero_le _, ⟨fun h0 => absurd h0 (by simp)⟩, fun j hj => absurd hj (by simp)⟩
  · simp [Value.cells] at hcs
    obtain ⟨rfl, rfl, rfl⟩ := hcs
    rw [hsp, if_pos rfl] at hmm
    subst hmm
    have each : ∀ i, i < m → ∃ q : Nat × Nat × Nat, w.cell? (a'.add (i * 3)) = some (.float .f32 q.1) ∧ w.cell? (a'.add (i * 3 + 1)) = some (.float .f32 q.2.1) ∧ w.cell? (a'.add (i * 3 + 2)) = some (.float .f32 q.2.2) ∧ q.1 < 4294967296 ∧ q.2.1 < 4294967296 ∧ q.2.2 < 4294967296 := by
      intro i hi
      obtain ⟨cs', h1, h2⟩ := hx i hi
      rw [cellsLSpot] at h1
      obtain ⟨_, hlen, hcell⟩ := World.cells?_some h1
      obtain ⟨y0, y1, y2, k, _, _, t0, t1, t2⟩ := trod_struct3 Try.underlying144 h2
      match cs', hlen with
      | [v0, v1, v2], _ =>
        simp [cellsF32] at t0 t1 t2
        obtain ⟨e0, w0⟩ := float_one t0
        obtain ⟨e1, w1⟩ := float_one t1
        obtain ⟨e2, w2⟩ := float_one t2
        have g0 := hcell 0 (by omega)
        have g1 := hcell 1 (by omega)
        have g2 := hcell 2 (by omega)
        rw [add_add] at g0 g1 g2
        refine ⟨(f32V v0, f32V v1, f32V v2), ?_, ?_, ?_, wfb w0, wfb w1, wfb w2⟩
        · simpa [← e0] using g0
        · simpa [← e1] using g1
        · simpa [← e2] using g2
    obtain ⟨q, hq⟩ := choose_lt each
    have hget : ∀ j, j < len → ((List.range len).map q).getD j (0, 0, 0) = q j := fun j hj => by simp [List.getD_eq_getElem?_getD, hj]
    refine ⟨some a', (List.range len).map q, m, by simp, by simp; omega, ⟨fun h0 => ?_⟩, fun j hj => ?_⟩
    · simp at h0
      obtain ⟨b, off, spot⟩ := a'
      have c0 := (hq 0 (by omega)).1
      have hspot : spot = none := by simpa [Addr.add] using World.cell?_spot c0
      subst hspot
      refine ⟨b, off, rfl, ?_, fun j hj => ?_⟩
      · have := World.block_lt_of_cell? w _ c0
        simpa [add_plain] using this
      · simp at hj
        obtain ⟨h1, h2, h3, _⟩ := hq j (by omega)
        rw [add_plain] at h1 h2 h3
        refine ⟨?_, ?_, ?_⟩
        · unfold sx; rw [hget j hj]; exact h1
        · unfold sy; rw [hget j hj, Nat.add_assoc]; exact h2
        · unfold sz; rw [hget j hj, Nat.add_assoc]; exact h3
    · simp at hj
      obtain ⟨_, _, _, h1, h2, h3⟩ := hq j (by omega)
      unfold sx sy sz
      rw [hget j hj]
      exact ⟨h1, h2, h3⟩

set_option maxRecDepth 100000 in
theorem open_spots_cell {H : Type} {enc : TypeId × Value → H} {w : World} {base fuel : Nat} {spare : Nat → Bool} {held : Bool} {v : Value} {x : DataW H × List MemPlace}
    (hf : DataW.trod enc Try.prog w base spare held fuel 22 [v] = some x) (hsp : ∀ b, spare b = true) :
    ∃ A xs c, v = .slice A xs.length c ∧ xs.length ≤ maxLen ∧ RdS w A xs ∧ Fit xs := by
  rcases open_slice Try.underlying22 hf with ⟨hcs, _⟩ | ⟨a', len, cap, m, n, D, Pl, hcs, _, hl, hm, hmm, _, hx⟩
  · simp at hcs
    subst hcs
    exact ⟨none, [], 0, rfl, Nat.zero_le _, ⟨fun h0 => absurd h0 (by simp)⟩, fun j hj => absurd hj (by simp)⟩
  · simp at hcs
    subst hcs
    rw [hsp, if_pos rfl] at hmm
    subst hmm
    have each : ∀ i, i < m → ∃ q : Nat × Nat × Nat, w.cell? (a'.add (i * 3)) = some (.float .f32 q.1) ∧ w.cell? (a'.add (i * 3 + 1)) = some (.float .f32 q.2.1) ∧ w.cell? (a'.add (i * 3 + 2)) = some (.float .f32 q.2.2) ∧ q.1 < 4294967296 ∧ q.2.1 < 4294967296 ∧ q.2.2 < 4294967296 := by
      intro i hi
      obtain ⟨cs', h1, h2⟩ := hx i hi
      rw [cellsLSpot] at h1
      obtain ⟨_, hlen, hcell⟩ := World.cells?_some h1
      obtain ⟨y0, y1, y2, k, _, _, t0, t1, t2⟩ := trod_struct3 Try.underlying144 h2
      match cs', hlen with
      | [v0, v1, v2], _ =>
        simp [cellsF32] at t0 t1 t2
        obtain ⟨e0, w0⟩ := float_one t0
        obtain ⟨e1, w1⟩ := float_one t1
        obtain ⟨e2, w2⟩ := float_one t2
        have g0 := hcell 0 (by omega)
        have g1 := hcell 1 (by omega)
        have g2 := hcell 2 (by omega)
        rw [add_add] at g0 g1 g2
        refine ⟨(f32V v0, f32V v1, f32V v2), ?_, ?_, ?_, wfb w0, wfb w1, wfb w2⟩
        · simpa [← e0] using g0
        · simpa [← e1] using g1
        · simpa [← e2] using g2
    obtain ⟨q, hq⟩ := choose_lt each
    have hget : ∀ j, j < len → ((List.range len).map q).getD j (0, 0, 0) = q j := fun j hj => by simp [List.getD_eq_getElem?_getD, hj]
    refine ⟨some a', (List.range len).map q, m, by simp, by simp; omega, ⟨fun h0 => ?_⟩, fun j hj => ?_⟩
    · simp at h0
      obtain ⟨b, off, spot⟩ := a'
      have c0 := (hq 0 (by omega)).1
      have hspot : spot = none := by simpa [Addr.add] using World.cell?_spot c0
      subst hspot
      refine ⟨b, off, rfl, ?_, fun j hj => ?_⟩
      · have := World.block_lt_of_cell? w _ c0
        simpa [add_plain] using this
      · simp at hj
        obtain ⟨h1, h2, h3, _⟩ := hq j (by omega)
        rw [add_plain] at h1 h2 h3
        refine ⟨?_, ?_, ?_⟩
        · unfold sx; rw [hget j hj]; exact h1
        · unfold sy; rw [hget j hj, Nat.add_assoc]; exact h2
        · unfold sz; rw [hget j hj, Nat.add_assoc]; exact h3
    · simp at hj
      obtain ⟨_, _, _, h1, h2, h3⟩ := hq j (by omega)
      unfold sx sy sz
      rw [hget j hj]
      exact ⟨h1, h2, h3⟩

theorem int_cell {H : Type} {enc : TypeId × Value → H} {W : World} {base n : Nat} {spare : Nat → Bool} {held : Bool} {v : Value} {y : DataW H × List MemPlace} (h : DataW.trod enc Try.prog W base spare held n 2 [v] = some y) :
    ∃ z, v = .int .i64 z ∧ (Lit.int .i64 z).wf = true := by
  obtain ⟨z, h1, _, hw⟩ := DataW.trod_int Try.underlying2 h
  exact ⟨z, by simpa using h1, hw⟩

end Go.Proofs.Ytnbgnaenlbphcaa
