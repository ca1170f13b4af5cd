/-
  The library's Repeat of "0", up to seven times, and FormatInt at base 16: walked over the library's own text.
-/
import Derived.Test.YtnhpiebddelebabDoorHf
namespace Go.Proofs.YtnhpiebddelebabDoor
open Go.RowKit Go.Lib Rd Go.WideShapes Fl

theorem mul64_small (c : Nat) (hc : c ≤ 8) (w : World) : Calls Tryd.prog 110 #[.int .u64 1, .int .u64 c] w fun e w' => e = .returned (.tuple #[.int .u64 0, .int .u64 c]) ∧ w = w' := by
  have e1 : bits BinOp.and IntKind.u64 1 4294967295 = 1 := by decide +kernel
  have e2 : bits BinOp.and IntKind.u64 (c : Int) 4294967295 = (c : Int) := by
    rcases (by omega : c = 0 ∨ c = 1 ∨ c = 2 ∨ c = 3 ∨ c = 4 ∨ c = 5 ∨ c = 6 ∨ c = 7 ∨ c = 8) with h | h | h | h | h | h | h | h | h <;> (subst h; decide +kernel)
  have e3 : bits BinOp.and IntKind.u64 0 4294967295 = 0 := by decide +kernel
  have e4 : (c : Int) / 4294967296 = 0 := by omega
  go_enter Tryd.func110, Tryd.ntmps110
  go_wp2
  go_ret2
  exact ⟨rfl, rfl⟩

theorem mul_small (c : Nat) (hc : c ≤ 8) (w : World) : Calls Tryd.prog 97 #[.int .u64 1, .int .u64 c] w fun e w' => e = .returned (.tuple #[.int .u64 0, .int .u64 c]) ∧ w = w' := by
  go_enter Tryd.func97, Tryd.ntmps97
  go_wp2_with (go_at_call 110; refine (mul64_small c hc _).mono ?_; rintro e w' ⟨rfl, rfl⟩)
  go_ret2
  exact ⟨rfl, rfl⟩

theorem pre_yes (a : ByteArray) (h1 : 1 ≤ a.size) (hmax : a.size ≤ 1000) (h : ((a.extract 0 1).toList == [48]) = true) (w : World) : Calls Tryd.prog 98 #[.string a, .string ⟨#[48]⟩] w fun e w' => e = .returned (.bool true) ∧ w = w' := by
  have HI : Calls Tryd.prog 111 #[.string a, .string ⟨#[48]⟩] w fun e w' => e = .returned (.bool true) ∧ w = w' := by
    go_enter Tryd.func111, Tryd.ntmps111
    go_wp2
    go_ret
    exact ⟨rfl, rfl⟩
  clear h
  go_enter Tryd.func98, Tryd.ntmps98
  go_wp2_with (go_at_call 111; refine HI.mono ?_; rintro e w' ⟨rfl, rfl⟩)
  go_ret
  exact ⟨rfl, rfl⟩
theorem pre_no (a : ByteArray) (h1 : 1 ≤ a.size) (hmax : a.size ≤ 1000) (h : ((a.extract 0 1).toList == [48]) = false) (w : World) : Calls Tryd.prog 98 #[.string a, .string ⟨#[48]⟩] w fun e w' => e = .returned (.bool false) ∧ w = w' := by
  have HI : Calls Tryd.prog 111 #[.string a, .string ⟨#[48]⟩] w fun e w' => e = .returned (.bool false) ∧ w = w' := by
    go_enter Tryd.func111, Tryd.ntmps111
    go_wp2
    go_ret
    exact ⟨rfl, rfl⟩
  clear h
  go_enter Tryd.func98, Tryd.ntmps98
  go_wp2_with (go_at_call 111; refine HI.mono ?_; rintro e w' ⟨rfl, rfl⟩)
  go_ret
  exact ⟨rfl, rfl⟩

set_option maxRecDepth 100000 in
theorem repeat_0 (w : World) : Calls Tryd.prog 82 #[.string ⟨#[48]⟩, .int .i64 0] w fun e w' => e = .returned (.string ⟨(List.replicate 0 48).toArray⟩) ∧ w = w' := by
  go_enter Tryd.func82, Tryd.ntmps82
  go_wp2_with fail
  go_ret
  exact ⟨rfl, rfl⟩
set_option maxRecDepth 100000 in
theorem repeat_1 (w : World) : Calls Tryd.prog 82 #[.string ⟨#[48]⟩, .int .i64 1] w fun e w' => e = .returned (.string ⟨(List.replicate 1 48).toArray⟩) ∧ w = w' := by
  go_enter Tryd.func82, Tryd.ntmps82
  go_wp2_with fail
  go_ret
  exact ⟨rfl, rfl⟩
set_option maxRecDepth 100000 in
theorem repeat_2 (w : World) : Calls Tryd.prog 82 #[.string ⟨#[48]⟩, .int .i64 2] w fun e w' => e = .returned (.string ⟨(List.replicate 2 48).toArray⟩) ∧ w = w' := by
  go_enter Tryd.func82, Tryd.ntmps82
  go_wp2_with fail
  refine (mul_small 2 (by omega) _).mono ?_
  rintro e w' ⟨rfl, rfl⟩
  go_wp2_with fail
  refine (pre_no _ (by decide) (by decide) (by kernel_rfl) _).mono ?_
  rintro e w' ⟨rfl, rfl⟩
  go_wp2_with fail
  refine (pre_no _ (by decide) (by decide) (by kernel_rfl) _).mono ?_
  rintro e w' ⟨rfl, rfl⟩
  go_wp2_with fail
  refine (pre_yes _ (by decide) (by decide) (by kernel_rfl) _).mono ?_
  rintro e w' ⟨rfl, rfl⟩
  go_wp2_with fail
  go_ret
  exact ⟨rfl, rfl⟩
set_option maxRecDepth 100000 in
theorem repeat_3 (w : World) : Calls Tryd.prog 82 #[.string ⟨#[48]⟩, .int .i64 3] w fun e w' => e = .returned (.string ⟨(List.replicate 3 48).toArray⟩) ∧ w = w' := by
  go_enter Tryd.func82, Tryd.ntmps82
  go_wp2_with fail
  refine (mul_small 3 (by omega) _).mono ?_
  rintro e w' ⟨rfl, rfl⟩
  go_wp2_with fail
  refine (pre_no _ (by decide) (by decide) (by kernel_rfl) _).mono ?_
  rintro e w' ⟨rfl, rfl⟩
  go_wp2_with fail
  refine (pre_no _ (by decide) (by decide) (by kernel_rfl) _).mono ?_
  rintro e w' ⟨rfl, rfl⟩
  go_wp2_with fail
  refine (pre_yes _ (by decide) (by decide) (by kernel_rfl) _).mono ?_
  rintro e w' ⟨rfl, rfl⟩
  go_wp2_with fail
  go_ret
  exact ⟨rfl, rfl⟩
set_option maxRecDepth 100000 in
theorem repeat_4 (w : World) : Calls Tryd.prog 82 #[.string ⟨#[48]⟩, .int .i64 4] w fun e w' => e = .returned (.string ⟨(List.replicate 4 48).toArray⟩) ∧ w = w' := by
  go_enter Tryd.func82, Tryd.ntmps82
  go_wp2_with fail
  refine (mul_small 4 (by omega) _).mono ?_
  rintro e w' ⟨rfl, rfl⟩
  go_wp2_with fail
  refine (pre_no _ (by decide) (by decide) (by kernel_rfl) _).mono ?_
  rintro e w' ⟨rfl, rfl⟩
  go_wp2_with fail
  refine (pre_no _ (by decide) (by decide) (by kernel_rfl) _).mono ?_
  rintro e w' ⟨rfl, rfl⟩
  go_wp2_with fail
  refine (pre_yes _ (by decide) (by decide) (by kernel_rfl) _).mono ?_
  rintro e w' ⟨rfl, rfl⟩
  go_wp2_with fail
  go_ret
  exact ⟨rfl, rfl⟩
set_option maxRecDepth 100000 in
theorem repeat_5 (w : World) : Calls Tryd.prog 82 #[.string ⟨#[48]⟩, .int .i64 5] w fun e w' => e = .returned (.string ⟨(List.replicate 5 48).toArray⟩) ∧ w = w' := by
  go_enter Tryd.func82, Tryd.ntmps82
  go_wp2_with fail
  refine (mul_small 5 (by omega) _).mono ?_
  rintro e w' ⟨rfl, rfl⟩
  go_wp2_with fail
  refine (pre_no _ (by decide) (by decide) (by kernel_rfl) _).mono ?_
  rintro e w' ⟨rfl, rfl⟩
  go_wp2_with fail
  refine (pre_no _ (by decide) (by decide) (by kernel_rfl) _).mono ?_
  rintro e w' ⟨rfl, rfl⟩
  go_wp2_with fail
  refine (pre_yes _ (by decide) (by decide) (by kernel_rfl) _).mono ?_
  rintro e w' ⟨rfl, rfl⟩
  go_wp2_with fail
  go_ret
  exact ⟨rfl, rfl⟩
set_option maxRecDepth 100000 in
theorem repeat_6 (w : World) : Calls Tryd.prog 82 #[.string ⟨#[48]⟩, .int .i64 6] w fun e w' => e = .returned (.string ⟨(List.replicate 6 48).toArray⟩) ∧ w = w' := by
  go_enter Tryd.func82, Tryd.ntmps82
  go_wp2_with fail
  refine (mul_small 6 (by omega) _).mono ?_
  rintro e w' ⟨rfl, rfl⟩
  go_wp2_with fail
  refine (pre_no _ (by decide) (by decide) (by kernel_rfl) _).mono ?_
  rintro e w' ⟨rfl, rfl⟩
  go_wp2_with fail
  refine (pre_no _ (by decide) (by decide) (by kernel_rfl) _).mono ?_
  rintro e w' ⟨rfl, rfl⟩
  go_wp2_with fail
  refine (pre_yes _ (by decide) (by decide) (by kernel_rfl) _).mono ?_
  rintro e w' ⟨rfl, rfl⟩
  go_wp2_with fail
  go_ret
  exact ⟨rfl, rfl⟩
set_option maxRecDepth 100000 in
theorem repeat_7 (w : World) : Calls Tryd.prog 82 #[.string ⟨#[48]⟩, .int .i64 7] w fun e w' => e = .returned (.string ⟨(List.replicate 7 48).toArray⟩) ∧ w = w' := by
  go_enter Tryd.func82, Tryd.ntmps82
  go_wp2_with fail
  refine (mul_small 7 (by omega) _).mono ?_
  rintro e w' ⟨rfl, rfl⟩
  go_wp2_with fail
  refine (pre_no _ (by decide) (by decide) (by kernel_rfl) _).mono ?_
  rintro e w' ⟨rfl, rfl⟩
  go_wp2_with fail
  refine (pre_no _ (by decide) (by decide) (by kernel_rfl) _).mono ?_
  rintro e w' ⟨rfl, rfl⟩
  go_wp2_with fail
  refine (pre_yes _ (by decide) (by decide) (by kernel_rfl) _).mono ?_
  rintro e w' ⟨rfl, rfl⟩
  go_wp2_with fail
  go_ret
  exact ⟨rfl, rfl⟩

theorem repeat_calls (c : Nat) (hc : c ≤ 7) (w : World) : Calls Tryd.prog 82 #[.string ⟨#[48]⟩, .int .i64 (c : Int)] w fun e w' => e = .returned (.string ⟨(List.replicate c 48).toArray⟩) ∧ w = w' := by
  rcases (by omega : c = 0 ∨ c = 1 ∨ c = 2 ∨ c = 3 ∨ c = 4 ∨ c = 5 ∨ c = 6 ∨ c = 7) with h | h | h | h | h | h | h | h <;> subst h
  · exact repeat_0 w
  · exact repeat_1 w
  · exact repeat_2 w
  · exact repeat_3 w
  · exact repeat_4 w
  · exact repeat_5 w
  · exact repeat_6 w
  · exact repeat_7 w

def HexS (n : Nat) (w : World) (e : Ending) (w' : World) : Prop := ∃ j, j < 8 ∧ n < 16 ^ (j + 1) ∧ e = .returned (.string ⟨(low n (j + 1)).toArray⟩) ∧ Below w.heap.size w w'

theorem formatInt_in (n : Nat) (hn : n < 4294967296) (w : World) (hz : ZerosAt w) : Calls Tryd.prog 86 #[.int .i64 n, .int .i64 16] w (HexS n w) := by
  have HN := Frame.hid hn
  have HZ := Frame.hid hz
  have hw64 : IntKind.u64.wrap (n : Int) = n := by rw [IntKind.wrap_u64]; omega
  clear hn hz
  go_enter Tryd.func86, Tryd.ntmps86
  go_wp2_with fail
  refine (formatBits_calls n HN.out _ HZ.out).mono ?_
  rintro e w1 ⟨j, hj, hjn, rfl, hB⟩
  have HJN := Frame.hid hjn
  have HB := Frame.hid hB
  clear hjn hB
  go_wp2_with fail
  go_ret
  exact ⟨j, hj, HJN.out, rfl, HB.out⟩
theorem formatInt_calls (n : Nat) (hn : n < 4294967296) (w : World) (hz : ZerosAt w) : Calls Tryd.prog 71 #[.int .i64 n, .int .i64 16] w (HexS n w) := by
  have HN := Frame.hid hn
  have HZ := Frame.hid hz
  clear hn hz
  go_enter Tryd.func71, Tryd.ntmps71
  go_wp2_with fail
  refine (formatInt_in n HN.out _ HZ.out).mono ?_
  rintro e w1 ⟨j, hj, hjn, rfl, hB⟩
  have HJN := Frame.hid hjn
  have HB := Frame.hid hB
  clear hjn hB
  go_wp2_with fail
  go_ret
  exact ⟨j, hj, HJN.out, rfl, HB.out⟩

theorem glue2 (A B : List UInt8) : Value.string ((⟨A.toArray⟩ : ByteArray) ++ (⟨B.toArray⟩ : ByteArray)) = .string ⟨(A ++ B).toArray⟩ := by
  congr 1 <;> (apply bytes_inj; simp)

/-- The program's text of a number. -/
theorem textOfNumber_calls (b : Nat) (hb : (b : Int) < 4294967296) (w : World) (hz : ZerosAt w) : Calls Tryd.prog 67 #[.float .f32 b] w fun e w' => e = .returned (.tuple #[.string ⟨(hex8 b).toArray⟩, .bool true]) ∧ Below w.heap.size w w' := by
  obtain ⟨h0, h1⟩ := bitsV_range hb
  obtain ⟨n, hn⟩ : ∃ n : Nat, bitsV b = n := ⟨(bitsV b).toNat, by omega⟩
  have HH : Hid (hex8 b = low n 8) := by show hex8 b = _; unfold hex8; rw [hn, Int.toNat_natCast]
  have HN : Hid (n < 4294967296) := by show _ < _; omega
  have HBB := Frame.hid hb
  have HZ := Frame.hid hz
  have HNN := Frame.hid hn
  clear hz hn h0 h1 hb
  go_enter Tryd.func67, Tryd.ntmps67
  go_wp2_with fail
  refine (bitsOf_calls b HBB.out _).mono ?_
  rintro e w1 ⟨rfl, m, rfl⟩
  rw [HNN.out]
  go_wp2_with fail
  refine (formatInt_calls n HN.out (w.drewN m) HZ.out).mono ?_
  rintro e w2 ⟨j, hj, hjn, rfl, hB⟩
  have hlen : (low n (j + 1)).length = j + 1 := low_len _ _
  have hpad : Hid (List.replicate (7 - j) 48 ++ low n (j + 1) = low n 8) := by
    show _ = _
    rw [← low_pad n (7 - j) (j + 1) hjn, show 7 - j + (j + 1) = 8 by omega]
  have HB := Frame.hid hB
  obtain ⟨c, hc⟩ : ∃ c : Nat, c = 7 - j := ⟨_, rfl⟩
  rw [← hc] at hpad
  obtain ⟨l, hl⟩ : ∃ l : Nat, l = j + 1 := ⟨_, rfl⟩
  have hc1 : (8 : Int) - (l : Int) = (c : Int) := by omega
  have hc7 : c ≤ 7 := by omega
  generalize low n (j + 1) = T at *
  rw [← hl] at hlen
  clear hl hc hj
  have hrl : (List.replicate c (48 : UInt8)).length = c := List.length_replicate
  clear hjn hB
  go_wp2_with fail
  refine (repeat_calls c hc7 _).mono ?_
  rintro e w3 ⟨rfl, rfl⟩
  generalize hR : List.replicate c (48 : UInt8) = R at *
  have hs1 : ¬ 9223372036854775807 < R.length + T.length := by omega
  clear hlen hrl hc1
  go_wp2_with fail
  go_ret2
  exact ⟨by rw [HH.out, ← hpad.out, ← glue2]; rfl, (below_drewN (Below.refl _ _) m).trans HB.out⟩

end Go.Proofs.YtnhpiebddelebabDoor
