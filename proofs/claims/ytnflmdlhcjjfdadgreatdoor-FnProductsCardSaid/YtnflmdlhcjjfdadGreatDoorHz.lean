/-
  ReadNumbers: the program's side and the law, walked.
-/
import Derived.Test.YtnflmdlhcjjfdadGreatDoorHy
import Derived.Test.YtnflmdlhcjjfdadGreatDoorRn
namespace Go.Proofs.YtnflmdlhcjjfdadGreatDoor
open Go.RowKit Go.Lib Rd Go.WideShapes Fl

/-- The library's cutting of a text into 257 parts at most. -/
theorem splitMany_calls (s : ByteArray) (m : Int) (w : World) (hs : s.size ≤ 1048576) (hm : w.cell? ⟨1, 0, none⟩ = some (.int .i64 m)) :
    Calls Tryz.prog 58 #[.string s, .string ⟨#[44]⟩, .int .i64 257] w fun e w' =>
      ∃ (n cp : Nat) (ps : List ByteArray), n = ps.length ∧ e = .returned (.slice (some ⟨w.heap.size, 0, none⟩) n cp) ∧ OwnT w' w.heap.size (.slice (some ⟨w.heap.size, 0, none⟩) n cp) ps ∧ ps.length = min 257 (Ct.cut 44 s.data.toList).length ∧ ((Ct.cut 44 s.data.toList).length ≤ 257 → Ct.cut 44 s.data.toList = ps.map (·.data.toList)) ∧ Below w.heap.size w w' := by
  refine (Tryz.strings_SplitN s ⟨#[44]⟩ 257 m w (by omega) hm (by decide) (by omega) (by omega)).mono ?_
  rintro e w' ⟨rfl, rfl⟩
  have h1 := Ct.split_few 44 s 257 (by omega)
  have h2 := splitB_length_le ⟨#[44]⟩ 0 (min 257 (s.size + 1) - 1) s
  exact ⟨_, _, _, rfl, rfl, own_cellsOf w _ _ (by omega) (by unfold maxLen; omega), h1.1, fun h => (h1.2 h).symm, (Below.refl _ _).alloc (Nat.le_refl _) _⟩

def ItmFAt (ps : List ByteArray) (gp cp g n : Nat) (w : World) (iv : Value) (wr : World) : Prop :=
  ∃ k : Nat, k ≤ n ∧ iv = .int .i64 k ∧ ∃ zs : List Nat, zs.length = n ∧ (∀ j, j < k → ∃ p : ByteArray, ps[j]? = some p ∧ WantF p.data.toList (zs.getD j 0)) ∧
    OwnF wr w.heap.size (.slice (some ⟨g, 0, none⟩) n n) zs ∧ OwnT wr w.heap.size (.slice (some ⟨gp, 0, none⟩) n cp) ps ∧ Below w.heap.size w wr

end Go.Proofs.YtnflmdlhcjjfdadGreatDoor
