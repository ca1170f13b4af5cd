/-
  Sixteen hexadecimal digits and the complex number with these bits, both sides walked.
-/
import Derived.Test.YtnflmdlhcjjfdadGreatDoorHx
import Derived.Test.YtnflmdlhcjjfdadGreatDoorGm
namespace Go.Proofs.YtnflmdlhcjjfdadGreatDoor
open Go.RowKit Go.Lib Rd Go.WideShapes Fl

/-- The digits l are those of the complex number z. -/
def WantC (l : List UInt8) (z : Nat × Nat) : Prop := l.length = 16 ∧ WantF (l.take 8) z.1 ∧ WantF (l.drop 8) z.2
def AnsC (l : List UInt8) (z : Nat × Nat) (t : Bool) : Prop := (t = true ∧ WantC l z) ∨ (t = false ∧ z = (0, 0) ∧ ∀ n, ¬ WantC l n)
theorem WantC.one {l : List UInt8} {n m : Nat × Nat} (h : WantC l n) (g : WantC l m) : m = n := by
  have e1 := h.2.1.one g.2.1
  have e2 := h.2.2.one g.2.2
  exact Prod.ext e1 e2
theorem noC_len {s : ByteArray} (h : s.size ≠ 16) (n : Nat × Nat) : ¬ WantC s.data.toList n := fun g => by
  have := g.1
  rw [size_list] at this
  exact h this
theorem noC_left {l : List UInt8} (h : ∀ n, ¬ WantF (l.take 8) n) (z : Nat × Nat) : ¬ WantC l z := fun g => h _ g.2.1
theorem noC_right {l : List UInt8} (h : ∀ n, ¬ WantF (l.drop 8) n) (z : Nat × Nat) : ¬ WantC l z := fun g => h _ g.2.2
theorem half_left (s : ByteArray) : (s.extract 0 8).data.toList = s.data.toList.take 8 := by rw [extract_mid]; rfl
theorem half_right (s : ByteArray) (h : s.size = 16) : (s.extract 8 16).data.toList = s.data.toList.drop 8 := by
  rw [extract_mid, List.take_of_length_le]
  rw [List.length_drop, size_list, h]
  exact Nat.le_refl _
theorem size_left (s : ByteArray) (h : s.size = 16) : (s.extract 0 8).size = 8 := by rw [ByteArray.size_extract]; omega
theorem size_right (s : ByteArray) (h : s.size = 16) : (s.extract 8 16).size = 8 := by rw [ByteArray.size_extract]; omega

def RdCV (s : ByteArray) (w : World) (e : Ending) (w' : World) : Prop := ∃ r i t, e = .returned (.tuple #[.complex .f32 r i, .bool t]) ∧ AnsC s.data.toList (r, i) t ∧ Below w.heap.size w w'

set_option maxRecDepth 100000 in
set_option maxHeartbeats 2000000 in
theorem readOneComplex_calls (s : ByteArray) (hs : s.size ≤ 1048576) (w : World) : Calls Tryz.prog 39 #[.string s] w (RdCV s w) := by
  by_cases h16 : s.size = 16
  · have HL := Frame.hid (half_left s)
    have HR := Frame.hid (half_right s h16)
    have s1 := Frame.hid (size_left s h16)
    have s2 := Frame.hid (size_right s h16)
    have H16 := Frame.hid h16
    clear hs
    go_enter Tryz.func39, Tryz.ntmps39
    go_wp2_with fail
    refine (readNumber_calls (s.extract 0 8) (by rw [s1.out]; omega) _).mono ?_
    rintro e w1 ⟨r1, t1, rfl, hA1, hB1⟩
    have HA1 := Frame.hid hA1
    have HB1 := Frame.hid hB1
    clear hA1 hB1
    go_wp2_with fail
    refine (readNumber_calls (s.extract 8 16) (by rw [s2.out]; omega) _).mono ?_
    rintro e w2 ⟨r2, t2, rfl, hA2, hB2⟩
    have HA2 := Frame.hid hA2
    have HB2 := Frame.hid (HB1.out.trans (hB2.mono HB1.out.size))
    clear hA2 hB2
    rcases HA1.out with ⟨rfl, h1⟩ | ⟨rfl, rfl, h1⟩
    · rcases HA2.out with ⟨rfl, h2⟩ | ⟨rfl, rfl, h2⟩
      · have HW : Hid (WantC s.data.toList (r1, r2)) := by
          rw [HL.out] at h1
          rw [HR.out] at h2
          exact ⟨by rw [size_list]; exact H16.out, h1, h2⟩
        clear h1 h2 HA1 HA2
        go_wp2_with fail
        go_ret2
        exact ⟨_, _, _, rfl, .inl ⟨rfl, HW.out⟩, HB2.out⟩
      · have HW : Hid (∀ z, ¬ WantC s.data.toList z) := noC_right (by rw [← HR.out]; exact h2)
        clear h1 h2 HA1 HA2
        go_wp2_with fail
        go_ret2
        exact ⟨_, _, _, rfl, .inr ⟨rfl, rfl, HW.out⟩, HB2.out⟩
    · have HW : Hid (∀ z, ¬ WantC s.data.toList z) := noC_left (by rw [← HL.out]; exact h1)
      clear h1 HA1 HA2
      go_wp2_with fail
      go_ret2
      exact ⟨_, _, _, rfl, .inr ⟨rfl, rfl, HW.out⟩, HB2.out⟩
  · have hno := Frame.hid (noC_len h16)
    rcases (by omega : s.size < 16 ∨ 16 < s.size) with h | h
    all_goals
      clear h16
      go_enter Tryz.func39, Tryz.ntmps39
      go_wp2
      go_ret2
      exact ⟨_, _, _, rfl, .inr ⟨rfl, rfl, hno.out⟩, Below.refl _ _⟩

theorem hxV_of_num' {c : UInt8} (h0 : 48 ≤ c.toNat) (h1 : c.toNat ≤ 57) : hxV c = some (c.toNat - 48) := if_pos ⟨h0, h1⟩
theorem hxV_of_let' {c : UInt8} (h0 : 97 ≤ c.toNat) (h1 : c.toNat ≤ 102) : hxV c = some (c.toNat - 87) := by unfold hxV; rw [if_neg (by omega), if_pos ⟨h0, h1⟩]
theorem hxV_of_no' {c : UInt8} (h : c.toNat < 48 ∨ (57 < c.toNat ∧ c.toNat < 97) ∨ 102 < c.toNat) : hxV c = none := by unfold hxV; rw [if_neg (by omega), if_neg (by omega)]
def DgAt (s : ByteArray) (w : World) (v kv : Value) (wr : World) : Prop :=
  ∃ k n : Nat, k ≤ 8 ∧ kv = .int .i64 k ∧ v = .int .i64 (n : Int) ∧ hxAll (s.data.toList.take k) 0 = some n ∧ wr = w

end Go.Proofs.YtnflmdlhcjjfdadGreatDoor
