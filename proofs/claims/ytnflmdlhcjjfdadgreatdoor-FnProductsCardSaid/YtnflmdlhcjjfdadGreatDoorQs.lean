/-
  Sameness and finiteness of complex numbers, and the small functions of the laws, walked.
-/
import Derived.Test.YtnflmdlhcjjfdadGreatDoorQt
import Derived.Test.YtnflmdlhcjjfdadGreatDoorRn
import Derived.Test.YtnflmdlhcjjfdadGreatDoorOb
namespace Go.Proofs.YtnflmdlhcjjfdadGreatDoor
open Go.RowKit Go.Lib Rd Go.WideShapes Fl

theorem b10Long_c (A B : Option Addr) (m k c d : Nat) (_ : m ≤ maxLen) (_ : k ≤ maxLen) (w : World) : Calls Tryz.prog 4 #[.slice A m c, .slice B k d] w fun e w' => e = .returned (.bool (decide (1048576 < (m : Int)) || decide (1048576 < (k : Int)))) ∧ w = w' := by
  unfold maxLen at *
  go_enter Tryz.func4, Tryz.ntmps4
  go_wp2
  all_goals
    go_ret
    simp [*]

theorem b10At9_c (A : Option Addr) (zs : List Nat) (c : Nat) (hn : zs.length ≤ 1048576) (w : World) (hA : RdB w A zs) : Calls Tryz.prog 15 #[.slice A zs.length c, .int .i64 0, .int .i64 9] w fun e w' => ∃ k : Nat, k < 9 ∧ e = .returned (.int .i64 k) ∧ w = w' := by
  obtain ⟨n, hxn⟩ : ∃ n, n = zs.length := ⟨_, rfl⟩
  rw [← hxn] at hn ⊢
  by_cases h0 : 0 < n
  · obtain ⟨b, off, rfl, hb, hc⟩ := hA (by omega)
    obtain ⟨c1, c2⟩ := hc 0 (by omega)
    rw [Nat.add_zero] at c1
    generalize zs.getD 0 0 = z at c1 c2
    clear hc hA hxn
    go_enter Tryz.func15, Tryz.ntmps15
    go_wp2
    go_ret
    exact ⟨z % 9, Nat.mod_lt _ (by omega), (by show Ending.returned (Value.int IntKind.i64 ((z : Int) % 9)) = Ending.returned (Value.int IntKind.i64 (((z % 9 : Nat)) : Int)); rw [Int.natCast_emod]; rfl), rfl⟩
  · have hn0 : n = 0 := by omega
    clear hA hxn hn h0
    subst hn0
    go_enter Tryz.func15, Tryz.ntmps15
    go_wp2
    go_ret
    exact ⟨2, by omega, rfl, rfl⟩

theorem RdB.below {w w' : World} {A : Option Addr} {zs : List Nat} (h : RdB w A zs) (hb : Below w.heap.size w w') : RdB w' A zs := fun h0 => by
  obtain ⟨b, off, e, hlt, hc⟩ := h h0
  exact ⟨b, off, e, Nat.lt_of_lt_of_le hlt hb.size, fun j hj => ⟨(hb.cell (p := ⟨b, off + j, none⟩) hlt).trans (hc j hj).1, (hc j hj).2⟩⟩

theorem canon_lt {x : Nat} (hx : (x : Int) < 4294967296) : ((canon x : Nat) : Int) < 4294967296 := by
  have := bitsV_range hx
  unfold canon
  omega
theorem int_lt32 {r : Nat} (h : r < 2 ^ FloatKind.f32.format.width) : (r : Int) < 4294967296 := Int.ofNat_lt.2 (lt32 h)

/-- Two complex numbers that are the same, to the program. -/
theorem implSameC_calls (a b c d : Nat) (ha : (a : Int) < 4294967296) (hb : (b : Int) < 4294967296) (hc : (c : Int) < 4294967296) (hd : (d : Int) < 4294967296) (h1 : bitsV a = bitsV c) (h2 : bitsV b = bitsV d) (w : World) :
    Calls Tryz.prog 23 #[.complex .f32 a b, .complex .f32 c d] w fun e w' => e = .returned (.bool true) ∧ ∃ n, w' = w.drewN n := by
  have H1 : Hid ((bitsV a == bitsV c) = true) := Frame.hid (by rw [h1]; exact beq_self_eq_true _)
  have H2 : Hid ((bitsV b == bitsV d) = true) := Frame.hid (by rw [h2]; exact beq_self_eq_true _)
  have HA := Frame.hid ha
  have HB := Frame.hid hb
  have HC := Frame.hid hc
  have HD := Frame.hid hd
  clear ha hb hc hd h1 h2
  go_enter Tryz.func23, Tryz.ntmps23
  go_wp2_with fail
  refine (sameNumber_calls a c HA.out HC.out _).mono ?_
  rintro e w1 ⟨rfl, n1, rfl⟩
  rw [H1.out]
  go_wp2_with fail
  refine (sameNumber_calls b d HB.out HD.out _).mono ?_
  rintro e w2 ⟨rfl, n2, rfl⟩
  rw [H2.out]
  go_wp2_with fail
  go_ret
  exact ⟨rfl, _, rfl⟩

theorem l01CSame_calls (a b c d : Nat) (ha : (a : Int) < 4294967296) (hb : (b : Int) < 4294967296) (hc : (c : Int) < 4294967296) (hd : (d : Int) < 4294967296) (h1 : bitsV a = bitsV c) (h2 : bitsV b = bitsV d) (w : World) :
    Calls Tryz.prog 62 #[.complex .f32 a b, .complex .f32 c d] w fun e w' => e = .returned (.bool true) ∧ w = w' := by
  have H1 : Hid ((bitsV a == bitsV c) = true) := Frame.hid (by rw [h1]; exact beq_self_eq_true _)
  have H2 : Hid ((bitsV b == bitsV d) = true) := Frame.hid (by rw [h2]; exact beq_self_eq_true _)
  have HA := Frame.hid ha
  have HB := Frame.hid hb
  have HC := Frame.hid hc
  have HD := Frame.hid hd
  clear ha hb hc hd h1 h2
  go_enter Tryz.func62, Tryz.ntmps62
  go_wp2_with fail
  refine (l01Same_calls a c HA.out HC.out _).mono ?_
  rintro e w1 ⟨rfl, rfl⟩
  rw [H1.out]
  go_wp2_with fail
  refine (l01Same_calls b d HB.out HD.out _).mono ?_
  rintro e w2 ⟨rfl, rfl⟩
  rw [H2.out]
  go_wp2_with fail
  go_ret
  exact ⟨rfl, rfl⟩

theorem specSameC_calls (a b c d : Nat) (ha : (a : Int) < 4294967296) (hb : (b : Int) < 4294967296) (hc : (c : Int) < 4294967296) (hd : (d : Int) < 4294967296) (h1 : bitsV a = bitsV c) (h2 : bitsV b = bitsV d) (w : World) :
    Calls Tryz.prog 48 #[.complex .f32 a b, .complex .f32 c d] w fun e w' => e = .returned (.bool true) ∧ w = w' := by
  have H := Frame.hid (l01CSame_calls a b c d ha hb hc hd h1 h2)
  clear ha hb hc hd h1 h2
  go_enter Tryz.func48, Tryz.ntmps48
  go_wp2_with fail
  refine (H.out _).mono ?_
  rintro e w1 ⟨rfl, rfl⟩
  go_wp2_with fail
  go_ret
  exact ⟨rfl, rfl⟩

theorem isFiniteC_calls (a b : Nat) (w : World) : Calls Tryz.prog 25 #[.complex .f32 a b] w fun e w' => e = .returned (.bool (fin .f32 a && fin .f32 b)) ∧ ∃ n, w' = w.drewN n := by
  go_enter Tryz.func25, Tryz.ntmps25
  go_wp2_with fail
  refine (isFinite_calls a _).mono ?_
  rintro e w1 ⟨rfl, n1, rfl⟩
  cases hf : fin .f32 a
  · have HF := Frame.hid hf
    clear hf
    go_wp2_with fail
    go_ret
    exact ⟨by rw [HF.out]; rfl, _, rfl⟩
  · have HF := Frame.hid hf
    clear hf
    go_wp2_with fail
    refine (isFinite_calls b _).mono ?_
    rintro e w2 ⟨rfl, n2, rfl⟩
    go_wp2_with fail
    go_ret
    exact ⟨by rw [HF.out]; rfl, _, rfl⟩

set_option maxRecDepth 100000 in
set_option maxHeartbeats 2000000 in
theorem b10SameC_calls (A B : Option Addr) (xs : List (Nat × Nat)) (n c d : Nat) (hn : n ≤ 256) (hl : n = xs.length) (hb : ∀ z ∈ xs, (z.1 : Int) < 4294967296 ∧ (z.2 : Int) < 4294967296) (w : World) (hA : RdC w A (xs.map canonC)) (hB : RdC w B xs) :
    Calls Tryz.prog 22 #[.slice A n c, .slice B n d] w fun e w' => e = .returned (.bool true) ∧ ∃ m, w' = w.drewN m := by
  have HA := Frame.hid hA
  have HB := Frame.hid hB
  have HL := Frame.hid hl
  have HBD := Frame.hid hb
  clear hA hB hl hb
  go_enter Tryz.func22, Tryz.ntmps22
  go_wp2_with fail
  go_loopw [13] (fun i wr => ∃ j : Nat, j ≤ n ∧ i = .int .i64 j ∧ ∃ m, wr = w.drewN m) (fun i _ => n - (Go.RowKit.intOf i).toNat)
  case atStart => exact ⟨0, Nat.zero_le _, rfl, 0, rfl⟩
  case round =>
    obtain ⟨j, hj, rfl, m, rfl⟩ := hrel
    by_cases hlt : j < n
    · have hjl : j < xs.length := by have := HL.out; omega
      obtain ⟨b, off, rfl, hb, hc⟩ := HA.out (by rw [List.length_map]; omega)
      obtain ⟨b', off', rfl, hb', hc'⟩ := HB.out (by omega)
      have hc1 := hc j (by rw [List.length_map]; omega)
      have hc2 := hc' j hjl
      have hcj : (xs.map canonC).getD j (0, 0) = canonC (xs.getD j (0, 0)) := by
        rw [List.getD_eq_getElem?_getD, List.getElem?_map, List.getElem?_eq_getElem hjl, List.getD_eq_getElem?_getD, List.getElem?_eq_getElem hjl]
        rfl
      have hbd : ((xs.getD j (0, 0)).1 : Int) < 4294967296 ∧ ((xs.getD j (0, 0)).2 : Int) < 4294967296 := by
        have e : xs.getD j (0, 0) = xs[j] := by rw [List.getD_eq_getElem?_getD, List.getElem?_eq_getElem hjl]; rfl
        rw [e]
        exact HBD.out _ (List.getElem_mem hjl)
      rw [hcj] at hc1
      generalize xs.getD j (0, 0) = z at *
      obtain ⟨x, y⟩ := z
      have hc1 : (w.drewN m).cell? ⟨b, off + j, none⟩ = some (.complex .f32 (canon x) (canon y)) := hc1
      have hc2 : (w.drewN m).cell? ⟨b', off' + j, none⟩ = some (.complex .f32 x y) := hc2
      have HX : Unit → (x : Int) < 4294967296 := fun _ => hbd.1
      have HY : Unit → (y : Int) < 4294967296 := fun _ => hbd.2
      clear hc hc' hb hb' hcj hbd
      go_wp2_with fail
      go_region_with (go_at_call 48; refine (specSameC_calls _ _ _ _ (canon_lt (HX ())) (canon_lt (HY ())) (HX ()) (HY ()) bits_canon bits_canon _).mono ?_; rintro e w' ⟨rfl, rfl⟩)
      all_goals
        go_wp2_with fail
        go_roundw
        case rel => exact ⟨j + 1, by omega, by go_num, _, rfl⟩
        case measure => simp [Go.RowKit.intOf]; omega
    · have hjk : j = n := by omega
      subst hjk
      go_wp2_with fail
      go_ret
      exact ⟨rfl, _, rfl⟩

end Go.Proofs.YtnflmdlhcjjfdadGreatDoor
