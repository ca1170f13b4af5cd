/-
  JournalOf: journals of lines, plain; the program's side.
-/
import Derived.Test.YtnhpiebddelebabDoorV6
import Derived.Test.YtnhpiebddelebabDoorCk
import Derived.Test.YtnhpiebddelebabDoorDl
import Derived.Test.YtnhpiebddelebabDoorRp
namespace Go.Proofs.YtnhpiebddelebabDoor
open Go.RowKit Go.Lib Rd Go.WideShapes

/-- A line of a journal. -/
def jl (n : Int) (p : List UInt8) : List UInt8 := itoa n ++ 32 :: (p ++ [10])
/-- The check number and the journal behind some lines. -/
def jr (ps : List ByteArray) : Int × List UInt8 := ps.foldl (fun s p => (chk s.1 p.data.toList, s.2 ++ jl (chk s.1 p.data.toList) p.data.toList)) (0, [])
theorem jr_snoc (ps : List ByteArray) (p : ByteArray) : jr (ps ++ [p]) = (chk (jr ps).1 p.data.toList, (jr ps).2 ++ jl (chk (jr ps).1 p.data.toList) p.data.toList) := by
  unfold jr; rw [List.foldl_append]; rfl
theorem jr_take (ps : List ByteArray) (k : Nat) (p : ByteArray) (h : ps[k]? = some p) : jr (ps.take (k + 1)) = (chk (jr (ps.take k)).1 p.data.toList, (jr (ps.take k)).2 ++ jl (chk (jr (ps.take k)).1 p.data.toList) p.data.toList) := by
  rw [List.take_add_one, h]; exact jr_snoc _ _
theorem jr_bd : ∀ (k : Nat) (ps : List ByteArray), 0 ≤ (jr (ps.take k)).1 ∧ (jr (ps.take k)).1 ≤ 65002
  | 0, ps => by simp [jr]
  | k + 1, ps => by
    cases h : ps[k]? with
    | none => rw [List.take_add_one, h]; simpa using jr_bd k ps
    | some p =>
      rw [jr_take ps k p h]
      obtain ⟨h0, h1⟩ := jr_bd k ps
      exact chk_bd _ h0 h1 _
theorem jl_len (n : Int) (h0 : 0 ≤ n) (h1 : n ≤ 65002) (p : List UInt8) : p.length + 3 ≤ (jl n p).length ∧ (jl n p).length ≤ p.length + 19 := by
  have h2 := itoa_ne n
  have h3 := itoa_short (n := n) (by omega) (by omega)
  unfold jl
  simp
  omega
theorem jr_grow (ps : List ByteArray) (i j : Nat) (h : i ≤ j) : (jr (ps.take i)).2.length ≤ (jr (ps.take j)).2.length := by
  induction h with
  | refl => exact Nat.le_refl _
  | step _ ih =>
    rename_i k hk
    refine Nat.le_trans ih ?_
    cases h : ps[k]? with
    | none => rw [List.take_add_one, h]; simp
    | some p => rw [jr_take ps k p h]; simp
theorem jr_all (ps : List ByteArray) (k : Nat) : (jr (ps.take k)).2.length ≤ (jr ps).2.length := by
  by_cases h : k ≤ ps.length
  · have := jr_grow ps k ps.length h
    rwa [List.take_of_length_le (Nat.le_refl _)] at this
  · rw [List.take_of_length_le (by omega)]; exact Nat.le_refl _
/-- A text has a newline. -/
def nlB (p : ByteArray) : Bool := decide (0 ≤ indexByte p.data.toList 10)
/-- Lines have a journal. -/
def okJ (ps : List ByteArray) : Prop := (∀ (j : Nat) p, ps[j]? = some p → nlB p = false) ∧ (jr ps).2.length ≤ 16000
/-- What is read of lines that come in. -/
structure RdL (w : World) (A : Option Addr) (ps : List ByteArray) : Prop where
  h : 0 < ps.length → ∃ b off, A = some ⟨b, off, none⟩ ∧ b < w.heap.size ∧ ∀ (j : Nat) x, ps[j]? = some x → w.cell? ⟨b, off + j, none⟩ = some (.string x)
theorem RdL.below {w w' : World} {A : Option Addr} {ps : List ByteArray} (h : RdL w A ps) (hB : Below w.heap.size w w') : RdL w' A ps := ⟨fun h0 => by
  obtain ⟨b, off, e, hlt, hc⟩ := h.h h0
  exact ⟨b, off, e, Nat.lt_of_lt_of_le hlt hB.size, fun j x hx => (hB.cell (p := ⟨b, _, none⟩) hlt).trans (hc j x hx)⟩⟩
theorem glueJ (D : List UInt8) (p : ByteArray) : Value.string ((⟨D.toArray⟩ : ByteArray) ++ (⟨#[32]⟩ : ByteArray) ++ p ++ (⟨#[10]⟩ : ByteArray)) = .string ⟨(D ++ 32 :: (p.data.toList ++ [10])).toArray⟩ := by
  congr 1 <;> (apply bytes_inj; simp)

set_option maxHeartbeats 1000000 in
theorem journalLine_calls (n : Int) (h0 : 0 ≤ n) (h1 : n ≤ 65002) (p : ByteArray) (hp : p.size ≤ 1048576) (w : World) (htab : TabIs Tryd.prog w "internal/strconv.uint64pow10" .u64 pow10Tab) :
    Calls Tryd.prog 28 #[.int .i64 n, .string p] w fun e w' => e = .returned (.string ⟨(jl n p.data.toList).toArray⟩) ∧ Below w.heap.size w w' := by
  have HD := Frame.hid (decimal_calls n (by omega) (by omega) w htab)
  have h3 := itoa_short (n := n) (by omega) (by omega)
  have HG := Frame.hid (glueJ (itoa n) p)
  clear htab
  go_enter Tryd.func28, Tryd.ntmps28
  go_wp2_with fail
  refine HD.out.mono ?_
  rintro e w1 ⟨rfl, hB⟩
  have HB := Frame.hid hB
  clear hB HD
  have HJ : Hid (jl n p.data.toList = itoa n ++ 32 :: (p.data.toList ++ [10])) := Frame.hid rfl
  generalize itoa n = D at *
  have hs1 : ¬ 9223372036854775807 < D.length + 1 := by omega
  have hs2 : ¬ 9223372036854775807 < D.length + 1 + p.size := by omega
  have hs3 : ¬ 9223372036854775807 < D.length + 1 + p.size + 1 := by omega
  have hs4 : ¬ 9223372036854775807 < D.length + (1 + p.size) := by omega
  have hs5 : ¬ 9223372036854775807 < D.length + (1 + (p.size + 1)) := by omega
  go_wp2_with fail
  go_ret
  refine ⟨?_, HB.out⟩
  show Ending.returned (Value.string ((⟨D.toArray⟩ : ByteArray) ++ (⟨#[32]⟩ : ByteArray) ++ p ++ (⟨#[10]⟩ : ByteArray))) = _
  rw [HG.out, HJ.out]

end Go.Proofs.YtnhpiebddelebabDoor
