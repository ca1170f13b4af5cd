/-
  Nets are valid: the specification's test.
-/
import Derived.Test.YtnbgnaenlbphcaaN9
import Derived.Test.YtnbgnaenlbphcaaN6
namespace Go.Proofs.Ytnbgnaenlbphcaa
open Go.RowKit Fl Go.WideShapes Go.Deep
attribute [local go_sem] kstore_f kalloc_drewN kset_drewN hstore_i hstore_s

theorem SK_of2 {n : Nat} {wc W : World} {p0 p1 : Addr} {v0 v1 : Value} (h : W.cell? p0 = some v0 ∧ W.cell? p1 = some v1 ∧ n ≤ W.heap.size ∧ SK n wc [(p0, v0), (p1, v1)] W) : SK n wc [(p0, v0), (p1, v1)] W := h.2.2.2
theorem SK_all2 {n : Nat} {wc W : World} {p0 p1 : Addr} {v0 v1 : Value} (h : SK n wc [(p0, v0), (p1, v1)] W) : W.cell? p0 = some v0 ∧ W.cell? p1 = some v1 ∧ n ≤ W.heap.size ∧ SK n wc [(p0, v0), (p1, v1)] W := ⟨h.c (p0, v0) (by simp), h.c (p1, v1) (by simp), h.s, h⟩

theorem FstS.uniq {L : List (Int × Int)} {a b z z' : Int} (h : FstS L a b z) (h' : FstS L a b z') : z = z' := by
  rcases h with ⟨rfl, h⟩ | ⟨i, rfl, h, hl⟩
  · rcases h' with ⟨rfl, _⟩ | ⟨j, rfl, h', _⟩
    · rfl
    · exact absurd h' (h j (List.getElem?_eq_some_iff.1 h').1)
  · rcases h' with ⟨rfl, h'⟩ | ⟨j, rfl, h', hl'⟩
    · exact absurd h (h' i (List.getElem?_eq_some_iff.1 h).1)
    · rcases Nat.lt_trichotomy i j with g | g | g
      · exact absurd h (hl' i g)
      · rw [g]
      · exact absurd h' (hl j g)
theorem FstS.ex (L : List (Int × Int)) (a b : Int) : ∃ z, FstS L a b z := by
  have : ∀ i : Nat, (∃ k : Nat, k < i ∧ L[k]? = some (a, b) ∧ ∀ l : Nat, l < k → L[l]? ≠ some (a, b)) ∨ ∀ k : Nat, k < i → L[k]? ≠ some (a, b) := by
    intro i
    induction i with
    | zero => exact .inr fun k hk => absurd hk (by omega)
    | succ i ih =>
      rcases ih with ⟨k, hk, h⟩ | h
      · exact .inl ⟨k, by omega, h⟩
      · by_cases e : L[i]? = some (a, b)
        · exact .inl ⟨i, by omega, e, h⟩
        · refine .inr fun k hk => ?_
          rcases Nat.lt_or_ge k i with g | g
          · exact h k g
          · obtain rfl : k = i := by omega
            exact e
  rcases this L.length with ⟨k, _, h⟩ | h
  · exact ⟨k, .inr ⟨k, rfl, h⟩⟩
  · exact ⟨-1, .inl ⟨rfl, h⟩⟩

theorem sds_cons (f : List Int) (fs : List (List Int)) : sds (f :: fs) = sdF f ++ sds fs := by simp [sds]
theorem crn_of {fs : List (List Int)} {f : List Int} (h : f ∈ fs) : ∃ k, k < fs.length ∧ crn fs k = f := by
  obtain ⟨k, hk, e⟩ := List.mem_iff_getElem.1 h
  exact ⟨k, hk, by simp [crn, List.getD_eq_getElem?_getD, hk, e]⟩
theorem crn_in {fs : List (List Int)} {k : Nat} (h : k < fs.length) : crn fs k ∈ fs := by
  have : crn fs k = fs[k] := by simp [crn, List.getD_eq_getElem?_getD, h]
  rw [this]
  exact List.getElem_mem h
theorem sds_le : ∀ fs : List (List Int), (∀ f ∈ fs, f.length ≤ 8) → (sds fs).length ≤ 8 * fs.length
  | [], _ => by simp [sds]
  | f :: fs, h => by
    have := sds_le fs fun g hg => h g (by simp [hg])
    have := h f (by simp)
    rw [sds_cons, List.length_append, sdF_len, List.length_cons]
    omega
theorem sds_mem {fs : List (List Int)} {n : Nat} (hv : ∀ k, k < fs.length → FacV n (crn fs k)) {s : Int × Int} (h : s ∈ sds fs) : 0 ≤ s.1 ∧ s.1 < (n : Int) ∧ 0 ≤ s.2 ∧ s.2 < (n : Int) := by
  unfold sds at h
  obtain ⟨f, hf, hs⟩ := List.mem_flatMap.1 h
  obtain ⟨k, hk, rfl⟩ := crn_of hf
  unfold sdF at hs
  obtain ⟨i, hi, rfl⟩ := List.mem_map.1 hs
  have hi := List.mem_range.1 hi
  have hV := hv k hk
  have h1 := hV.2.2.1 i hi
  have h2 := hV.2.2.1 ((i + 1) % (crn fs k).length) (Nat.mod_lt _ (by omega))
  exact ⟨h1.1, h1.2, h2.1, h2.2⟩
theorem sds_pos {fs : List (List Int)} (h : 0 < fs.length) (h3 : 0 < (crn fs 0).length) : 0 < (sds fs).length := by
  match fs, h with
  | f :: r, _ =>
    rw [sds_cons, List.length_append, sdF_len]
    have : crn (f :: r) 0 = f := rfl
    rw [this] at h3
    omega

/-- The spots that the first i sides begin at. -/
def usd (L : List (Int × Int)) (i j : Nat) : Bool := (L.take i).any fun s => s.1 == (j : Int)
theorem usd_zero (L : List (Int × Int)) (j : Nat) : usd L 0 j = false := rfl
theorem usd_next (L : List (Int × Int)) (i j : Nat) (s : Int × Int) (h : L[i]? = some s) : usd L (i + 1) j = (usd L i j || (s.1 == (j : Int))) := by
  unfold usd
  rw [List.take_add_one, h, List.any_append]
  simp
theorem usd_all (L : List (Int × Int)) (j : Nat) : usd L L.length j = true ↔ ∃ s ∈ L, s.1 = (j : Int) := by
  unfold usd
  rw [List.take_length, List.any_eq_true]
  simp

/-- A row of bools in a block. -/
structure RowB (g n : Nat) (f : Nat → Bool) (w : World) : Prop where
  h : ∃ cs : Array Value, w.heap[g]? = some (.cells cs 4 (0, 0)) ∧ cs.size = n ∧ ∀ j, j < n → cs[j]? = some (.bool (f j))
theorem heap_setB {w : World} {g i : Nat} {cs : Array Value} {t : TypeId} (u : Value) (h : w.heap[g]? = some (.cells cs t (0, 0))) : (w.setCell ⟨g, i, none⟩ u).heap[g]? = some (.cells (cs.setIfInBounds i u) t (0, 0)) := by
  simp [World.setCell, Array.getElem?_modify, h]
theorem RowB.put {g n : Nat} {f : Nat → Bool} {w : World} (h : RowB g n f w) (i : Nat) : RowB g n (fun j => f j || (i == j)) (w.setCell ⟨g, i, none⟩ (.bool true)) := by
  obtain ⟨cs, h1, h2, h3⟩ := h.h
  refine ⟨_, heap_setB _ h1, by simpa using h2, fun j hj => ?_⟩
  by_cases e : i = j
  · subst e
    simp [h2, hj]
  · rw [Array.getElem?_setIfInBounds_ne e, h3 j hj]
    simp [e]
theorem RowB.below {g n : Nat} {f : Nat → Bool} {w w' : World} (h : RowB g n f w) (hb : Below w.heap.size w w') : RowB g n f w' := by
  obtain ⟨cs, h1, h2, h3⟩ := h.h
  exact ⟨cs, by rw [hb.block g (Array.getElem?_eq_some_iff.1 h1).1]; exact h1, h2, h3⟩
theorem RowB.cell {g n : Nat} {f : Nat → Bool} {w : World} (h : RowB g n f w) (j : Nat) (hj : j < n) : w.cell? ⟨g, j, none⟩ = some (.bool (f j)) := by
  obtain ⟨cs, h1, h2, h3⟩ := h.h
  rw [cell_of_row w g j cs _ (0, 0) h1]
  exact h3 j hj
theorem RowB.froz {g n : Nat} {f : Nat → Bool} {w : World} (h : RowB g n f w) (j : Nat) : w.frozen? ⟨g, j, none⟩ = false := by
  obtain ⟨cs, h1, h2, h3⟩ := h.h
  exact frozen_rowJ h1
theorem RowB.size {g n : Nat} {f : Nat → Bool} {w : World} (h : RowB g n f w) : g < w.heap.size := by
  obtain ⟨cs, h1, h2, h3⟩ := h.h
  exact (Array.getElem?_eq_some_iff.1 h1).1
theorem infoBool : (Try.prog.info? 4).map (fun i => (i.zero, i.size, i.bytes)) = some (some (.bool false), 1, 1) := by kernel_rfl

end Go.Proofs.Ytnbgnaenlbphcaa
