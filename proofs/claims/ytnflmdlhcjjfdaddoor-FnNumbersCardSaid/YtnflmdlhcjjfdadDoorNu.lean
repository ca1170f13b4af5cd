/-
  FnNumbers: the law, walked.
-/
import Derived.Test.YtnflmdlhcjjfdadDoorTr
import Derived.Test.YtnflmdlhcjjfdadDoorDs
import Derived.Test.YtnflmdlhcjjfdadDoorNw
import Derived.Test.YtnflmdlhcjjfdadDoorSq
import Derived.Test.YtnflmdlhcjjfdadDoorAz
import Derived.Test.YtnflmdlhcjjfdadDoorSu
import Derived.Test.YtnflmdlhcjjfdadDoorRn
namespace Go.Proofs.YtnflmdlhcjjfdadDoor
open Go.RowKit Go.Lib Rd Go.WideShapes Fl

theorem angleOf_calls (x y : Nat) (w : World) : Calls Tryd.prog 17 #[.complex .f32 x y] w (Gives .f32 (AngleV y x) w) := by
  go_enter Tryd.func17, Tryd.ntmps17
  go_wp2_with fail
  refine (angleTurns_calls y x _).mono ?_
  rintro e w1 ⟨r, n, rfl, h, hl, rfl⟩
  have HH := Frame.hid h
  have HL := Frame.hid hl
  clear h hl
  go_wp2_with fail
  go_ret
  exact ⟨r, n, rfl, HH.out, HL.out, rfl⟩

theorem b10Long_c (A B : Option Addr) (m k c d : Nat) (_ : m ≤ maxLen) (_ : k ≤ maxLen) (w : World) : Calls Tryd.prog 4 #[.slice A m c, .slice B k d] w fun e w' => e = .returned (.bool (decide (1048576 < (m : Int)) || decide (1048576 < (k : Int)))) ∧ w = w' := by
  unfold maxLen at *
  go_enter Tryd.func4, Tryd.ntmps4
  go_wp2
  all_goals
    go_ret
    simp [*]

theorem b10At_c (A : Option Addr) (zs : List Nat) (c : Nat) (hn : zs.length ≤ 1048576) (w : World) (hA : RdB w A zs) : Calls Tryd.prog 10 #[.slice A zs.length c, .int .i64 0, .int .i64 12] w fun e w' => ∃ k : Nat, k < 12 ∧ e = .returned (.int .i64 k) ∧ w = w' := by
  obtain ⟨n, hxn⟩ : ∃ n, n = zs.length := ⟨_, rfl⟩
  rw [← hxn] at hn ⊢
  by_cases h0 : 0 < n
  · obtain ⟨b, off, rfl, hb, hc⟩ := hA (by omega)
    obtain ⟨c1, c2⟩ := hc 0 (by omega)
    rw [Nat.add_zero] at c1
    generalize zs.getD 0 0 = z at c1 c2
    clear hc hA hxn
    go_enter Tryd.func10, Tryd.ntmps10
    go_wp2
    go_ret
    exact ⟨z % 12, Nat.mod_lt _ (by omega), (by show Ending.returned (Value.int IntKind.i64 ((z : Int) % 12)) = Ending.returned (Value.int IntKind.i64 (((z % 12 : Nat)) : Int)); rw [Int.natCast_emod]; rfl), rfl⟩
  · have hn0 : n = 0 := by omega
    clear hA hxn hn h0
    subst hn0
    go_enter Tryd.func10, Tryd.ntmps10
    go_wp2
    go_ret
    exact ⟨11, by omega, rfl, rfl⟩

theorem RdB.below {w w' : World} {A : Option Addr} {zs : List Nat} (h : RdB w A zs) (hb : Below w.heap.size w w') : RdB w' A zs := fun h0 => by
  obtain ⟨b, off, e, hlt, hc⟩ := h h0
  exact ⟨b, off, e, Nat.lt_of_lt_of_le hlt hb.size, fun j hj => ⟨(hb.cell (p := ⟨b, off + j, none⟩) hlt).trans (hc j hj).1, (hc j hj).2⟩⟩

/-- Drawing n numbers from bytes. -/
theorem b10Numbers_calls (A : Option Addr) (zs : List Nat) (c n : Nat) (hn : n ≤ 256) (hz : zs.length ≤ 1048576) (w : World) (hA : RdB w A zs) :
    Calls Tryd.prog 9 #[.slice A zs.length c, .int .i64 (n : Int)] w fun e w' => ∃ (g0 cap : Nat) (xs : List Nat), xs.length = n ∧ e = .returned (.slice (some ⟨g0, 0, none⟩) n cap) ∧ (∀ x ∈ xs, (x : Int) < 4294967296) ∧ OwnF w' w.heap.size (.slice (some ⟨g0, 0, none⟩) n cap) xs ∧ Below w.heap.size w w' := by
  have HA := Frame.hid hA
  have HZ := Frame.hid hz
  clear hA hz
  go_enter Tryd.func9, Tryd.ntmps9
  go_wp2_with fail
  refine (from_calls A zs c HZ.out _ HA.out).mono ?_
  rintro e w1 ⟨rfl, hS, hB⟩
  have HS := Frame.hid hS
  have HB := Frame.hid hB
  clear hS hB
  go_wp2_with fail
  refine (drawFloats_calls w A zs c w.heap.size n hn _ HS.out).mono ?_
  rintro e w2 ⟨g0, cap, xs, hl, rfl, hx, hO, hB⟩
  have HL := Frame.hid hl
  have HX := Frame.hid hx
  have HO := Frame.hid (hO.mono HB.out.size)
  have HB2 := Frame.hid hB
  clear hl hx hO hB
  go_wp2_with fail
  go_ret
  exact ⟨g0, cap, xs, HL.out, rfl, HX.out, HO.out, HB2.out⟩

theorem zero_wide : 0 < 2 ^ FloatKind.f32.format.width := Nat.two_pow_pos _
def SumBAt (xs : List Nat) (w : World) (n : Nat) (s i : Value) (wr : World) : Prop := ∃ k r : Nat, k ≤ n ∧ i = .int .i64 k ∧ s = .float .f32 r ∧ SumTo xs k r ∧ r < 2 ^ FloatKind.f32.format.width ∧ ∃ m, wr = w.drewN m
def SumBV (xs : List Nat) (w : World) (e : Ending) (w' : World) : Prop :=
  ∃ r t m, e = .returned (.tuple #[.float .f32 r, .bool t]) ∧ ((xs.length ≤ 256 ∧ t = true ∧ SumTo xs xs.length r ∧ r < 2 ^ FloatKind.f32.format.width) ∨ (256 < xs.length ∧ t = false ∧ r = 0)) ∧ w' = w.drewN m

set_option maxRecDepth 100000 in
set_option maxHeartbeats 1000000 in
theorem sumNumbersB_calls (A : Option Addr) (xs : List Nat) (c : Nat) (w : World) (hn : xs.length ≤ 1048576) (hA : RdF w A xs) :
    Calls Tryd.prog 11 #[.slice A xs.length c] w (SumBV xs w) := by
  obtain ⟨n, hxn⟩ : ∃ n, n = xs.length := ⟨_, rfl⟩
  unfold SumBV
  rw [← hxn] at hn ⊢
  have HX := Frame.hid hxn
  have HA := Frame.hid hA
  clear hxn hA
  by_cases hbig : 256 < n
  · go_enter Tryd.func11, Tryd.ntmps11
    go_wp2
    go_ret2
    exact ⟨_, _, 0, rfl, .inr ⟨hbig, rfl, rfl⟩, rfl⟩
  · have hle : n ≤ 256 := by omega
    clear hbig
    go_enter Tryd.func11, Tryd.ntmps11
    go_wp2
    go_loopw [4, 12] (fun s i wr => SumBAt xs w n s i wr) (fun _ i _ => n - (Go.RowKit.intOf i).toNat)
    case atStart => exact ⟨0, 0, Nat.zero_le _, rfl, rfl, rfl, zero_wide, 0, rfl⟩
    case round =>
      obtain ⟨k, s, hk, rfl, rfl, hs, hsl, m, rfl⟩ := hrel
      have HSL := Frame.hid hsl
      clear hsl
      by_cases hlt : k < n
      · obtain ⟨b, off, rfl, hb, hc⟩ := HA.out (by have := HX.out; omega)
        have hc1 := hc k (by have := HX.out; omega)
        have hst : ∀ r, FOp .add .f32 s (xs.getD k 0) r → SumTo xs (k + 1) r := fun r h => ⟨s, hs, h⟩
        have HST := Frame.hid hst
        obtain ⟨x, hx⟩ : ∃ x, x = xs.getD k 0 := ⟨_, rfl⟩
        rw [← hx] at hc1 HST
        clear hc hst hs HA HX hx
        go_wp2_with (refine wpList_arith rfl _ _ _ _ _ rfl rfl _ _ _ rfl rfl ?_; intro r n hr hl)
        go_roundw
        case rel => exact ⟨k + 1, _, by omega, by go_num, rfl, HST.out _ hr, hl, _, rfl⟩
        case measure => simp [Go.RowKit.intOf]; omega
      · have hkn : k = n := by omega
        subst hkn
        have HS := Frame.hid hs
        clear hs
        go_wp2
        go_ret2
        exact ⟨_, _, _, rfl, .inl ⟨hle, rfl, HS.out, HSL.out⟩, rfl⟩


theorem canon_lt {x : Nat} (hx : (x : Int) < 4294967296) : ((canon x : Nat) : Int) < 4294967296 := by
  have := bitsV_range hx
  unfold canon
  omega
theorem flush_lt {x : Nat} (hx : (x : Int) < 4294967296) : ((flushV x : Nat) : Int) < 4294967296 := by
  unfold flushV zeroV
  split <;> omega
theorem sameCanon_calls (v : Nat) (hv : Unit → (v : Int) < 4294967296) (w : World) : Calls Tryd.prog 14 #[.float .f32 (canon v), .float .f32 v] w fun e w' => e = .returned (.bool true) ∧ w = w' := by
  refine (specSameNumber_calls (canon v) v (canon_lt (hv ())) (hv ()) w).mono ?_
  rintro e w' ⟨rfl, rfl⟩
  rw [bits_canon, beq_self_eq_true]
  exact ⟨rfl, rfl⟩
theorem int_lt32 {r : Nat} (h : r < 2 ^ FloatKind.f32.format.width) : (r : Int) < 4294967296 := Int.ofNat_lt.2 (lt32 h)

end Go.Proofs.YtnflmdlhcjjfdadDoor
