/-
  Cutting a text at a byte: the specification's walk.
-/
import Derived.Test.YtnflmdlhcjjfdadGreatDoorCt
import Derived.Test.YtnflmdlhcjjfdadGreatDoorLp
import Derived.Maps.AppendAt
namespace Go.Proofs.YtnflmdlhcjjfdadGreatDoor
open Go.RowKit Go.Lib Rd Go.WideShapes

/-- A slice of texts of the call's own. -/
def OwnT (w : World) (base : Nat) (v : Value) (out : List ByteArray) : Prop := w.ownsRow base 9 1 v out.length (out.map Value.string)
theorem none_litT (w : World) : OwnT (w.alloc (.cells #[] 9)) w.heap.size (.slice (some ⟨w.heap.size, 0, none⟩) 0 0) [] :=
  World.ownsRow_lit w #[] 0 (Nat.le_refl _) (by unfold maxLen; omega) rfl
theorem own_appT {w3 : World} {B k : Nat} {x : ByteArray} {v' : Value} {out : List ByteArray} (hk : k = out.length) (h : w3.ownsRow B 9 1 v' (k + 1) (out.map Value.string ++ [.string x])) :
    ∃ g cap, v' = .slice (some ⟨g, 0, none⟩) (k + 1) cap ∧ OwnT w3 B v' (out ++ [x]) := by
  have h2 : OwnT w3 B v' (out ++ [x]) := by
    unfold OwnT
    rw [List.length_append, List.map_append, ← hk]
    exact h
  rcases h.2 with ⟨_, h0⟩ | ⟨g, cap, cur, hv, _⟩
  · omega
  · exact ⟨g, cap, hv, h2⟩

structure CutR (s : ByteArray) (c : UInt8) (f i : Nat) (out : List ByteArray) : Prop where
  few : out.length ≤ i
  room : i ≤ s.size + 1
  on : i ≤ s.size → f ≤ i ∧ Ct.cut c s.data.toList = out.map (·.data.toList) ++ Ct.cut c (s.data.toList.drop f) ∧ ∀ j, f ≤ j → j < i → s.data.toList[j]? ≠ some c
  off : i = s.size + 1 → Ct.cut c s.data.toList = out.map (·.data.toList)
theorem CutR.start (s : ByteArray) (c : UInt8) : CutR s c 0 0 [] := ⟨Nat.le_refl _, Nat.zero_le _, fun _ => ⟨Nat.le_refl _, by simp, fun j h1 h2 => by omega⟩, fun h => by omega⟩
theorem byte_at (s : ByteArray) (i : Nat) (h : i < s.size) : s.data.toList[i]? = some s[i] := by
  rw [List.getElem?_eq_getElem (by rw [size_list]; exact h)]; rfl
theorem extract_mid (s : ByteArray) (a b : Nat) : (s.extract a b).data.toList = (s.data.toList.drop a).take (b - a) := extract_data s a b
theorem CutR.miss {s : ByteArray} {c : UInt8} {f i : Nat} {out : List ByteArray} (h : CutR s c f i out) (hi : i < s.size) (hc : s[i] ≠ c) : CutR s c f (i + 1) out := by
  obtain ⟨h1, h2, h3⟩ := h.on (by omega)
  refine ⟨by have := h.few; omega, by omega, fun _ => ⟨by omega, h2, fun j hj1 hj2 => ?_⟩, fun h => by omega⟩
  by_cases he : j = i
  · subst he
    rw [byte_at s j hi]
    intro e
    injection e with e
    exact hc e
  · exact h3 j hj1 (by omega)
theorem CutR.hit {s : ByteArray} {c : UInt8} {f i : Nat} {out : List ByteArray} (h : CutR s c f i out) (hi : i < s.size) (hc : s[i] = c) : CutR s c (i + 1) (i + 1) (out ++ [s.extract f i]) := by
  obtain ⟨h1, h2, h3⟩ := h.on (by omega)
  refine ⟨by rw [List.length_append]; have := h.few; simp; omega, by omega, fun _ => ⟨by omega, ?_, fun j hj1 hj2 => by omega⟩, fun h => by omega⟩
  rw [List.map_append, List.map_cons, List.map_nil, extract_mid]
  exact Ct.cut_more h1 (by rw [size_list]; exact hi) (by rw [byte_at s i hi, hc]) h3 h2
theorem CutR.last {s : ByteArray} {c : UInt8} {f : Nat} {out : List ByteArray} (h : CutR s c f s.size out) : CutR s c (s.size + 1) (s.size + 1) (out ++ [s.extract f s.size]) := by
  obtain ⟨h1, h2, h3⟩ := h.on (by omega)
  refine ⟨by rw [List.length_append]; have := h.few; simp; omega, by omega, fun h => by omega, fun _ => ?_⟩
  rw [List.map_append, List.map_cons, List.map_nil, extract_mid]
  have := Ct.cut_last (l := s.data.toList) (by rw [size_list]; exact h1) (by rw [size_list]; exact h3) h2
  rw [size_list] at this
  exact this

def CutAt (s : ByteArray) (c : UInt8) (w : World) (v fv iv : Value) (wr : World) : Prop :=
  ∃ (f i k g cap : Nat) (out : List ByteArray), fv = .int .i64 f ∧ iv = .int .i64 i ∧ v = .slice (some ⟨g, 0, none⟩) k cap ∧ k = out.length ∧ CutR s c f i out ∧ OwnT wr w.heap.size v out ∧ Below w.heap.size w wr

end Go.Proofs.YtnflmdlhcjjfdadGreatDoor
