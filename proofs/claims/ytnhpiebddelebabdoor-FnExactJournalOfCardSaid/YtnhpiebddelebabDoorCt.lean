/-
  Cutting a text at a byte: all the parts, and what the library's cutting says of them.
-/
import Derived.Test.YtnhpiebddelebabDoorSs
import Derived.Test.YtnhpiebddelebabDoorLi
import Derived.Lib.SplitLaws
namespace Go.Proofs.YtnhpiebddelebabDoor
open Go.RowKit Go.Lib Rd Go.WideShapes
namespace Ct

/-- All parts of a text between marks. -/
def cut (c : UInt8) : List UInt8 → List (List UInt8)
  | [] => [[]]
  | b :: l => if b = c then [] :: cut c l else match cut c l with
    | [] => [[b]]
    | p :: ps => (b :: p) :: ps
theorem cut_ne (c : UInt8) (l : List UInt8) : 1 ≤ (cut c l).length := by
  induction l with
  | nil => simp [cut]
  | cons b l ih =>
    unfold cut
    split
    · simp
    · split <;> simp
theorem cut_miss {c : UInt8} {l : List UInt8} (h : c ∉ l) : cut c l = [l] := by
  induction l with
  | nil => rfl
  | cons b l ih =>
    have h1 : b ≠ c := fun e => h (by simp [e])
    have h2 : c ∉ l := fun e => h (by simp [e])
    unfold cut
    rw [if_neg h1, ih h2]
theorem cut_cons_eq (c : UInt8) (l : List UInt8) : cut c (c :: l) = [] :: cut c l := by rw [cut.eq_2, if_pos rfl]
theorem cut_cons_ne {b c : UInt8} (l p : List UInt8) (ps : List (List UInt8)) (h : b ≠ c) (e : cut c l = p :: ps) : cut c (b :: l) = (b :: p) :: ps := by rw [cut.eq_2, if_neg h, e]
theorem cut_hit {c : UInt8} {p : List UInt8} (r : List UInt8) (h : c ∉ p) : cut c (p ++ c :: r) = p :: cut c r := by
  induction p with
  | nil => rw [List.nil_append]; exact cut_cons_eq c r
  | cons b p ih =>
    have h1 : b ≠ c := fun e => h (by simp [e])
    have h2 : c ∉ p := fun e => h (by simp [e])
    rw [List.cons_append]
    exact cut_cons_ne _ _ _ h1 (ih h2)
theorem index_miss {c : UInt8} {l : List UInt8} (h : c ∉ l) : index l [c] = -1 := by
  induction l with
  | nil => simp [index]
  | cons b l ih =>
    have h1 : b ≠ c := fun e => h (by simp [e])
    have h2 : c ∉ l := fun e => h (by simp [e])
    have hp : ([c] : List UInt8).isPrefixOf (b :: l) = false := by simp [List.isPrefixOf, Ne.symm h1]
    rw [index, hp, ih h2]; simp
theorem index_hit {c : UInt8} {p : List UInt8} (r : List UInt8) (h : c ∉ p) : index (p ++ c :: r) [c] = (p.length : Int) := by
  induction p with
  | nil => rw [List.nil_append, index]; simp [List.isPrefixOf]
  | cons b p ih =>
    have h1 : b ≠ c := fun e => h (by simp [e])
    have h2 : c ∉ p := fun e => h (by simp [e])
    have hp : ([c] : List UInt8).isPrefixOf (b :: (p ++ c :: r)) = false := by simp [List.isPrefixOf, Ne.symm h1]
    rw [List.cons_append, index, hp, ih h2]
    have hn : ¬ (((p.length : Int) == -1) = true) := by rw [beq_iff_eq]; omega
    rw [if_neg (by simp), if_neg hn, List.length_cons]
    omega
theorem parts (c : UInt8) (l : List UInt8) : c ∉ l ∨ ∃ p r, l = p ++ c :: r ∧ c ∉ p := by
  by_cases h : c ∈ l
  · obtain ⟨p, r, e, hp⟩ := List.eq_append_cons_of_mem h
    exact .inr ⟨p, r, e, hp⟩
  · exact .inl h
theorem cut_le (c : UInt8) (l : List UInt8) : (cut c l).length ≤ l.length + 1 := by
  induction l with
  | nil => simp [cut]
  | cons b l ih =>
    unfold cut
    split
    · simpa using ih
    · split
      · simp
      · rename_i p ps h
        rw [h] at ih
        simp at ih ⊢
        omega
/-- The library's cutting at k marks at most. -/
theorem split_cut (c : UInt8) (k : Nat) (l : List UInt8) : (splitK [c] 0 k l).length = min (k + 1) (cut c l).length ∧ ((cut c l).length ≤ k + 1 → splitK [c] 0 k l = cut c l) := by
  induction k generalizing l with
  | zero =>
    have := cut_ne c l
    refine ⟨by simp [splitK]; omega, fun h => ?_⟩
    rcases parts c l with h1 | ⟨p, r, rfl, h1⟩
    · rw [cut_miss h1]; rfl
    · rw [cut_hit r h1, List.length_cons] at h
      have := cut_ne c r
      omega
  | succ k ih =>
    rcases parts c l with h1 | ⟨p, r, rfl, h1⟩
    · rw [cut_miss h1]
      unfold splitK
      rw [index_miss h1]
      exact ⟨by simp, fun _ => by simp⟩
    · have e1 : (p ++ c :: r).take p.length = p := by simp
      have e2 : (p ++ c :: r).drop (p.length + 1) = r := by rw [List.drop_append]; simp
      have hn : ¬ (((p.length : Int) == -1) = true) := by rw [beq_iff_eq]; omega
      have es : splitK [c] 0 (k + 1) (p ++ c :: r) = p :: splitK [c] 0 k r := by
        rw [splitK, index_hit r h1, if_neg hn]
        rw [Int.toNat_natCast, Nat.add_zero, e1]
        show p :: splitK [c] 0 k ((p ++ c :: r).drop (p.length + 1)) = _
        rw [e2]
      rw [es, cut_hit r h1]
      obtain ⟨i1, i2⟩ := ih r
      refine ⟨by rw [List.length_cons, List.length_cons, i1]; omega, fun h => ?_⟩
      rw [List.length_cons] at h
      rw [i2 (by omega)]
/-- The library's cutting into n parts at most. -/
theorem split_few (c : UInt8) (s : ByteArray) (n : Nat) (hn : 1 ≤ n) : (splitB ⟨#[c]⟩ 0 (min n (s.size + 1) - 1) s).length = min n (cut c s.data.toList).length ∧ ((cut c s.data.toList).length ≤ n → (splitB ⟨#[c]⟩ 0 (min n (s.size + 1) - 1) s).map (·.data.toList) = cut c s.data.toList) := by
  have h1 := splitB_data ⟨#[c]⟩ 0 (min n (s.size + 1) - 1) s
  have h2 := split_cut c (min n (s.size + 1) - 1) s.data.toList
  have h3 := cut_le c s.data.toList
  have h4 : s.data.toList.length = s.size := size_list s
  have h5 := congrArg List.length h1
  rw [List.length_map] at h5
  have h6 : (⟨#[c]⟩ : ByteArray).data.toList = [c] := rfl
  rw [h6] at h1 h5
  refine ⟨by rw [h5, h2.1]; omega, fun h => ?_⟩
  rw [h1]
  exact h2.2 (by omega)
/-- A part more. -/
theorem cut_more {c : UInt8} {l : List UInt8} {f i : Nat} {out : List (List UInt8)} (hf : f ≤ i) (hi : i < l.length) (hc : l[i]? = some c) (hno : ∀ j, f ≤ j → j < i → l[j]? ≠ some c) (h : cut c l = out ++ cut c (l.drop f)) :
    cut c l = (out ++ [(l.drop f).take (i - f)]) ++ cut c (l.drop (i + 1)) := by
  have hp : c ∉ (l.drop f).take (i - f) := by
    intro hm
    obtain ⟨j, hj, e⟩ := List.getElem_of_mem hm
    rw [List.length_take, List.length_drop] at hj
    rw [List.getElem_take, List.getElem_drop] at e
    exact hno (f + j) (by omega) (by omega) (by rw [List.getElem?_eq_getElem (by omega), e])
  have hd : l.drop f = (l.drop f).take (i - f) ++ c :: l.drop (i + 1) := by
    have e1 := (List.take_append_drop (i - f) (l.drop f)).symm
    rw [List.drop_drop] at e1
    have e2 : f + (i - f) = i := by omega
    rw [e2] at e1
    have e3 : l.drop i = c :: l.drop (i + 1) := by
      rw [List.getElem?_eq_getElem hi] at hc
      injection hc with hc
      rw [← hc]
      exact List.drop_eq_getElem_cons hi
    rw [e3] at e1
    exact e1
  rw [h, hd, cut_hit _ hp]
  rw [← hd]
  simp
theorem cut_last {c : UInt8} {l : List UInt8} {f : Nat} {out : List (List UInt8)} (hf : f ≤ l.length) (hno : ∀ j, f ≤ j → j < l.length → l[j]? ≠ some c) (h : cut c l = out ++ cut c (l.drop f)) : cut c l = out ++ [(l.drop f).take (l.length - f)] := by
  have hp : c ∉ l.drop f := by
    intro hm
    obtain ⟨j, hj, e⟩ := List.getElem_of_mem hm
    rw [List.length_drop] at hj
    rw [List.getElem_drop] at e
    exact hno (f + j) (by omega) (by omega) (by rw [List.getElem?_eq_getElem (by omega), e])
  have e : (l.drop f).take (l.length - f) = l.drop f := List.take_of_length_le (by rw [List.length_drop]; exact Nat.le_refl _)
  rw [h, cut_miss hp, e]

end Ct
end Go.Proofs.YtnhpiebddelebabDoor
