/-
  The check number of a text, walked on both sides.
-/
import Derived.Test.YtnhpiebddelebabDoorSc
namespace Go.Proofs.YtnhpiebddelebabDoor
open Go.RowKit Fl

/-- One byte's step, and the check number of some bytes. -/
def chkStep (n : Int) (c : UInt8) : Int := (859 * n + (c.toNat : Int) + 151) % 65003
def chk (n : Int) (l : List UInt8) : Int := l.foldl chkStep n
theorem chkStep_bd (n : Int) (c : UInt8) : 0 ≤ chkStep n c ∧ chkStep n c ≤ 65002 := by unfold chkStep; omega
theorem chk_bd (n : Int) (h0 : 0 ≤ n) (h1 : n ≤ 65002) : ∀ l : List UInt8, 0 ≤ chk n l ∧ chk n l ≤ 65002
  | [] => ⟨h0, h1⟩
  | c :: l => chk_bd (chkStep n c) (chkStep_bd n c).1 (chkStep_bd n c).2 l
theorem take_snoc (s : ByteArray) (k : Nat) (h : k < s.size) : s.data.toList.take (k + 1) = s.data.toList.take k ++ [s[k]] := by
  rw [List.take_succ_eq_append_getElem (by simpa using h)]; rfl
theorem chk_snoc (n : Int) (s : ByteArray) (k : Nat) (h : k < s.size) : chk n (s.data.toList.take (k + 1)) = chkStep (chk n (s.data.toList.take k)) s[k] := by
  rw [take_snoc s k h]; unfold chk; rw [List.foldl_append]; rfl

/-- After k bytes. -/
def ChkAt (n : Int) (s : ByteArray) (v i : Value) : Prop := ∃ k : Nat, k ≤ s.size ∧ i = .int .i64 k ∧ v = .int .i64 (chk n (s.data.toList.take k))

set_option maxHeartbeats 1000000 in
theorem l01Check_calls (n : Int) (s : ByteArray) (h0 : 0 ≤ n) (h1 : n ≤ 65002) (hs : s.size ≤ 1048576) (w : World) :
    Calls Tryd.prog 48 #[.int .i64 n, .string s] w fun e w' => e = .returned (.int .i64 (chk n s.data.toList)) ∧ w = w' := by
  go_enter Tryd.func48, Tryd.ntmps48
  go_wp2
  go_loop [0, 5] (fun v i => ChkAt n s v i) (fun _ i => s.size - (intOf i).toNat)
  case atStart => exact ⟨0, Nat.zero_le _, rfl, rfl⟩
  case round =>
    obtain ⟨k, hk, rfl, rfl⟩ := hrel
    obtain ⟨b0, b1⟩ := chk_bd n h0 h1 (s.data.toList.take k)
    by_cases hlt : k < s.size
    · have hst := chk_snoc n s k hlt
      unfold chkStep at hst
      have HS := Frame.hid hst
      clear hst
      generalize chk n (s.data.toList.take k) = v at *
      have hc := s[k].toNat_lt
      have hc2 : ((s[k].toNat : Nat) : Int) < 256 := by omega
      clear hc
      go_wp2
      go_round
      case rel => exact ⟨k + 1, by omega, by go_num, by rw [HS.out]⟩
      case measure => simp [intOf]; omega
    · have hks : k = s.size := by omega
      have HE := Frame.hid (show chk n (s.data.toList.take k) = chk n s.data.toList by rw [List.take_of_length_le (by simp; omega)])
      clear hks
      go_wp2
      go_ret
      exact ⟨by rw [← HE.out]; rfl, rfl⟩

/-- What both give. -/
def chkV (n : Int) (s : ByteArray) : Value := if 0 ≤ n ∧ n ≤ 65002 then .tuple #[.int .i64 (chk n s.data.toList), .bool true] else .tuple #[.int .i64 0, .bool false]
theorem chkV_yes {n : Int} {s : ByteArray} (h0 : 0 ≤ n) (h1 : n ≤ 65002) : chkV n s = .tuple #[.int .i64 (chk n s.data.toList), .bool true] := if_pos ⟨h0, h1⟩
theorem chkV_no {n : Int} {s : ByteArray} (h : ¬ (0 ≤ n ∧ n ≤ 65002)) : chkV n s = .tuple #[.int .i64 0, .bool false] := if_neg h

set_option maxHeartbeats 1000000 in
theorem checkOf_calls (n : Int) (s : ByteArray) (hs : s.size ≤ 1048576) (w : World) :
    Calls Tryd.prog 26 #[.int .i64 n, .string s] w fun e w' => e = .returned (chkV n s) ∧ w = w' := by
  by_cases h0 : 0 ≤ n
  · by_cases h1 : n ≤ 65002
    · have HV := Frame.hid (chkV_yes (s := s) h0 h1)
      go_enter Tryd.func26, Tryd.ntmps26
      go_wp2
      go_loop [6, 7] (fun v i => ChkAt n s v i) (fun _ i => s.size - (intOf i).toNat)
      case atStart => exact ⟨0, Nat.zero_le _, rfl, rfl⟩
      case round =>
        obtain ⟨k, hk, rfl, rfl⟩ := hrel
        obtain ⟨b0, b1⟩ := chk_bd n h0 h1 (s.data.toList.take k)
        by_cases hlt : k < s.size
        · have hst := chk_snoc n s k hlt
          unfold chkStep at hst
          have HS := Frame.hid hst
          clear hst
          generalize chk n (s.data.toList.take k) = v at *
          have hc := s[k].toNat_lt
          have hc2 : ((s[k].toNat : Nat) : Int) < 256 := by omega
          clear hc
          go_wp2
          go_round
          case rel => exact ⟨k + 1, by omega, by go_num, by rw [HS.out]⟩
          case measure => simp [intOf]; omega
        · have hks : k = s.size := by omega
          have HE := Frame.hid (show chk n (s.data.toList.take k) = chk n s.data.toList by rw [List.take_of_length_le (by simp; omega)])
          clear hks
          go_wp2
          go_ret2
          exact ⟨by rw [HV.out, ← HE.out]; rfl, rfl⟩
    · have HV := Frame.hid (chkV_no (s := s) (n := n) (by omega))
      have h2 : 65003 ≤ n := by omega
      clear h1
      go_enter Tryd.func26, Tryd.ntmps26
      go_wp2
      go_ret2
      exact ⟨by rw [HV.out]; rfl, rfl⟩
  · have HV := Frame.hid (chkV_no (s := s) (n := n) (by omega))
    have h2 : n < 0 := by omega
    clear h0
    go_enter Tryd.func26, Tryd.ntmps26
    go_wp2
    go_ret2
    exact ⟨by rw [HV.out]; rfl, rfl⟩

end Go.Proofs.YtnhpiebddelebabDoor
