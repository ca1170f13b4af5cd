/-
  ReadDecimal, walked: the program's side.
-/
import Derived.Test.YtnflmdlhcjjfdacDoorSp
import Derived.Test.YtnflmdlhcjjfdacDoorRp
import Derived.Test.YtnflmdlhcjjfdacDoorDl
namespace Go.Proofs.YtnflmdlhcjjfdacDoor
open Go.RowKit Go.Lib Rd

/-- The library's reader at every text. -/
theorem parse_any (s : ByteArray) (hlim : s.size ≤ 281474976710656) (w : World) (tp tq : TypeId) (p q : Value) (hS : w.var? Tryd.prog "strconv.ErrSyntax" = some #[.iface tp p]) (hR : w.var? Tryd.prog "strconv.ErrRange" = some #[.iface tq q]) :
    Calls Tryd.prog 38 #[.string s, .int .i64 10, .int .i64 64] w fun e w' => ∃ v err, e = .returned (.tuple #[.int .i64 v, err]) ∧ Below w.heap.size w w' ∧
      ((err = .nilIface ∧ parseIntB 64 s.data.toList = .ok v) ∨ ((∃ t r, err = .iface t (.pointer (some r))) ∧ ∀ v, parseIntB 64 s.data.toList ≠ .ok v)) := by
  cases h : parseIntB 64 s.data.toList
  · rename_i v
    refine (Tryd.strconv_ParseInt_10_at64_ok s (by omega) v h w).mono ?_
    rintro e w' ⟨rfl, hw⟩
    refine ⟨v, _, rfl, ?_, .inl ⟨rfl, rfl⟩⟩
    rcases hw with rfl | ⟨t, rfl⟩
    · exact Below.refl _ _
    · exact bytesWorld_below _ _ _
  · refine (Any.strconv_ParseInt_10_at64_syntax_var Tryd.laysC174 s hlim h tp p w hS).mono ?_
    rintro e w' ⟨N, rfl, _, _, hB⟩
    exact ⟨_, _, rfl, hB, .inr ⟨⟨_, _, rfl⟩, fun v hv => by cases hv⟩⟩
  · refine (Any.strconv_ParseInt_10_at64_range_var Tryd.laysC174 s hlim h tq q w hR).mono ?_
    rintro e w' ⟨N, rfl, _, _, hB⟩
    exact ⟨_, _, rfl, hB, .inr ⟨⟨_, _, rfl⟩, fun v hv => by cases hv⟩⟩

theorem bytes_toList (s : ByteArray) : s.toList = s.data.toList := ByteArray.toList_eq s

theorem isValue_calls (n : Int) (w : World) : Calls Tryd.prog 39 #[.int .i64 n] w fun e w' => e = .returned (.bool (decide (-1000000000000000 ≤ n) && decide (n ≤ 1000000000000000))) ∧ w = w' := by
  by_cases h1 : -1000000000000000 ≤ n <;> by_cases h2 : n ≤ 1000000000000000
  all_goals
    go_enter Tryd.func39, Tryd.ntmps39
    go_wp2
    go_ret
    exact ⟨by simp [h1, h2], rfl⟩

def RdV (s : ByteArray) (w : World) (e : Ending) (w' : World) : Prop := ∃ r t, e = .returned (.tuple #[.int .i64 r, .bool t]) ∧ Ans s.data.toList r t ∧ Below w.heap.size w w'

set_option maxHeartbeats 2000000 in
theorem readDecimal_calls (s : ByteArray) (hlim : s.size ≤ 281474976710656) (w : World) (tp tq : TypeId) (p q : Value) (hS : w.var? Tryd.prog "strconv.ErrSyntax" = some #[.iface tp p]) (hR : w.var? Tryd.prog "strconv.ErrRange" = some #[.iface tq q])
    (htab : TabIs Tryd.prog w "internal/strconv.uint64pow10" .u64 pow10Tab) : Calls Tryd.prog 13 #[.string s] w (RdV s w) := by
  have HT := Frame.hid (tabBelow_of_tabIs htab)
  have HS := Frame.hid hS
  have HR := Frame.hid hR
  have HL := Frame.hid hlim
  clear htab hS hR hlim
  go_enter Tryd.func13, Tryd.ntmps13
  go_wp2_with fail
  refine (parse_any s HL.out w tp tq p q HS.out HR.out).mono ?_
  rintro e w1 ⟨v, err, rfl, hB1, hcase⟩
  have HB1 := Frame.hid hB1
  clear hB1
  rcases hcase with ⟨rfl, hp⟩ | ⟨⟨t, r, rfl⟩, hp⟩
  · have HP := Frame.hid hp
    clear hp
    by_cases hv : -1000000000000000 ≤ v ∧ v ≤ 1000000000000000
    · have HV := Frame.hid hv
      have hd : (decide (-1000000000000000 ≤ v) && decide (v ≤ 1000000000000000)) = true := by rw [Bool.and_eq_true, decide_eq_true_eq, decide_eq_true_eq]; exact hv
      have HD := Frame.hid hd
      clear hv hd
      go_wp2_with (go_at_call 39; refine (isValue_calls v _).mono ?_; rintro e w' ⟨rfl, rfl⟩; rw [HD.out])
      refine (decimal_calls v (by have := HV.out; omega) (by have := HV.out; omega) _ (HT.out.on HB1.out).here).mono ?_
      rintro e w2 ⟨rfl, hB2⟩
      have HB2 := Frame.hid hB2
      clear hB2
      by_cases hs : itoa v = s.data.toList
      · have hb : (itoa v == s.toList) = true := by rw [bytes_toList, hs]; exact beq_self_eq_true _
        have HI := Frame.hid hs
        clear hs
        go_wp2_with fail
        go_ret2
        exact ⟨_, _, rfl, .inl ⟨rfl, HV.out.1, HV.out.2, HI.out⟩, HB1.out.trans (HB2.out.mono HB1.out.size)⟩
      · have hb : (itoa v == s.toList) = false := by rw [bytes_toList, beq_eq_false_iff_ne]; exact hs
        have HI := Frame.hid hs
        clear hs
        go_wp2_with fail
        go_ret2
        exact ⟨_, _, rfl, .inr ⟨rfl, rfl, no_parse (fun v' h' => by rw [HP.out] at h'; injection h' with h'; subst h'; exact fun h => HI.out h.2.2)⟩, HB1.out.trans (HB2.out.mono HB1.out.size)⟩
    · have hd : (decide (-1000000000000000 ≤ v) && decide (v ≤ 1000000000000000)) = false := by rw [Bool.and_eq_false_iff, decide_eq_false_iff_not, decide_eq_false_iff_not]; omega
      have HD := Frame.hid hd
      have HV := Frame.hid hv
      clear hd hv
      go_wp2_with (go_at_call 39; refine (isValue_calls v _).mono ?_; rintro e w' ⟨rfl, rfl⟩; rw [HD.out])
      go_ret2
      exact ⟨_, _, rfl, .inr ⟨rfl, rfl, no_parse (fun v' h' => by rw [HP.out] at h'; injection h' with h'; subst h'; exact fun h => HV.out ⟨h.1, h.2.1⟩)⟩, HB1.out⟩
  · have HP := Frame.hid hp
    clear hp
    go_wp2_with fail
    go_ret2
    exact ⟨_, _, rfl, .inr ⟨rfl, rfl, no_parse (fun v' h' => absurd h' (HP.out v'))⟩, HB1.out⟩

end Go.Proofs.YtnflmdlhcjjfdacDoor
