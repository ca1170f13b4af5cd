/-
  ReadDecimal: the specification and the law, walked.
-/
import Derived.Test.YtnflmdlhcjjfdacDoorRo
namespace Go.Proofs.YtnflmdlhcjjfdacDoor
open Go.RowKit Go.Lib Rd

theorem l00In_b (n a b : Int) (w : World) : Calls Tryd.prog 59 #[.int .i64 n, .int .i64 a, .int .i64 b] w fun e w' => e = .returned (.bool (decide (a ≤ n) && decide (n ≤ b))) ∧ w = w' := by
  by_cases h1 : a ≤ n <;> by_cases h2 : n ≤ b
  all_goals
    go_enter Tryd.func59, Tryd.ntmps59
    go_wp2
    go_ret
    exact ⟨by simp [h1, h2], rfl⟩

theorem take_snoc (s : ByteArray) (k : Nat) (h : k < s.size) : s.data.toList.take (k + 1) = s.data.toList.take k ++ [s[k]] := by
  rw [List.take_succ_eq_append_getElem (by simpa using h)]; rfl
theorem v_snoc (s : ByteArray) (k : Nat) (h : k < s.size) : vFrom 0 (s.data.toList.take (k + 1)) = vStep (vFrom 0 (s.data.toList.take k)) s[k] := by
  rw [take_snoc s k h, vFrom_snoc]
theorem v_lt (s : ByteArray) (k : Nat) (h : k ≤ 17) : vFrom 0 (s.data.toList.take k) < 100000000000000000 := by
  have h1 := vFrom_lt (s.data.toList.take k) 0 0 (by omega)
  rw [Nat.zero_add] at h1
  have h2 : (s.data.toList.take k).length ≤ 17 := by rw [List.length_take]; omega
  have h3 : (10 : Nat) ^ (s.data.toList.take k).length ≤ 10 ^ 17 := Nat.pow_le_pow_right (by omega) h2
  have e : (10 : Nat) ^ 17 = 100000000000000000 := rfl
  omega
theorem v_lt2 (s : ByteArray) (k : Nat) (h : k ≤ 16) : vFrom 0 (s.data.toList.take k) < 10000000000000000 := by
  have h1 := vFrom_lt (s.data.toList.take k) 0 0 (by omega)
  rw [Nat.zero_add] at h1
  have h2 : (s.data.toList.take k).length ≤ 16 := by rw [List.length_take]; omega
  have h3 : (10 : Nat) ^ (s.data.toList.take k).length ≤ 10 ^ 16 := Nat.pow_le_pow_right (by omega) h2
  have e : (10 : Nat) ^ 16 = 10000000000000000 := rfl
  omega

def RdAt (s : ByteArray) (w : World) (n i : Value) (wr : World) : Prop := ∃ k : Nat, k ≤ s.size ∧ i = .int .i64 k ∧ n = .int .i64 (vFrom 0 (s.data.toList.take k) : Nat) ∧ wr = w

theorem size_list (s : ByteArray) : s.data.toList.length = s.size := by rw [Array.length_toList]; rfl

theorem head_byte (s : ByteArray) (h : 1 ≤ s.size) : s.data.toList.head? = some (s[0]'h) := by
  rw [List.head?_eq_getElem?, List.getElem?_eq_getElem (by rw [size_list]; exact h)]
  rfl
theorem byte_45 {b : UInt8} (h : b.toNat = 45) : b = 45 := by
  apply UInt8.toNat_inj.1
  exact h

set_option maxRecDepth 100000 in
set_option maxHeartbeats 2000000 in
theorem l01Value_calls (s : ByteArray) (hmax : s.size ≤ 281474976710656) (w : World) : Calls Tryd.prog 37 #[.string s] w (RdV s w) := by
  by_cases hl : 1 ≤ s.size ∧ s.size ≤ 17
  · obtain ⟨hl1, hl2⟩ := hl
    go_enter Tryd.func37, Tryd.ntmps37
    go_wp2_with fail
    go_loopw [4, 5] (fun n i wr => RdAt s w n i wr) (fun _ i _ => s.size - (Go.RowKit.intOf i).toNat)
    case atStart => exact ⟨0, Nat.zero_le _, rfl, rfl, rfl⟩
    case round =>
      obtain ⟨k, hk, rfl, rfl, rfl⟩ := hrel
      by_cases hlt : k < s.size
      · have hst := v_snoc s k hlt
        have hb := v_lt2 s k (by omega)
        unfold vStep at hst
        generalize vFrom 0 (s.data.toList.take k) = v at *
        rcases (by omega : s[k].toNat < 48 ∨ 57 < s[k].toNat ∨ (48 ≤ s[k].toNat ∧ s[k].toNat ≤ 57)) with hc | hc | ⟨hc1, hc2⟩
        · rw [if_neg (by omega)] at hst
          have HST := Frame.hid hst
          clear hst
          go_wp2_with fail
          go_roundw
          case rel => exact ⟨k + 1, by omega, by go_num, by rw [HST.out], rfl⟩
          case measure => simp [Go.RowKit.intOf]; omega
        · rw [if_neg (by omega)] at hst
          have HST := Frame.hid hst
          clear hst
          go_wp2_with fail
          go_roundw
          case rel => exact ⟨k + 1, by omega, by go_num, by rw [HST.out], rfl⟩
          case measure => simp [Go.RowKit.intOf]; omega
        · rw [if_pos ⟨hc1, hc2⟩] at hst
          have HST := Frame.hid hst
          clear hst
          go_wp2_with fail
          go_roundw
          case rel => exact ⟨k + 1, by omega, by go_num, by rw [HST.out]; congr 1; omega, rfl⟩
          case measure => simp [Go.RowKit.intOf]; omega
      · have hks : k = s.size := by omega
        subst hks
        have e : s.data.toList.take s.size = s.data.toList := List.take_of_length_le (by rw [size_list]; exact Nat.le_refl _)
        rw [e]
        have hVlt := v_lt s s.size (by omega)
        rw [e] at hVlt
        obtain ⟨V, hV⟩ : ∃ V, V = vFrom 0 s.data.toList := ⟨_, rfl⟩
        rw [← hV] at hVlt ⊢
        have HV := Frame.hid hV.symm
        clear hV e hk hlt
        by_cases h45 : (s[0]'hl1).toNat = 45
        · have hbz : (((s[0]'hl1).toNat : Int) == 45) = true := by rw [beq_iff_eq]; omega
          have hsv : sVal s.data.toList = -(V : Int) := by unfold sVal; rw [head_byte s hl1, if_pos (by rw [byte_45 h45]), HV.out]
          have HSV := Frame.hid hsv
          clear hsv h45
          by_cases hr : -1000000000000000 ≤ -(V : Int) ∧ -(V : Int) ≤ 1000000000000000
          · have hd : (decide (-1000000000000000 ≤ -(V : Int)) && decide (-(V : Int) ≤ 1000000000000000)) = true := by rw [Bool.and_eq_true, decide_eq_true_eq, decide_eq_true_eq]; exact hr
            have HD := Frame.hid hd
            have HR := Frame.hid hr
            clear hd hr
            go_wp2_with (go_at_call 59; refine (l00In_b (-(V : Int)) (-1000000000000000) 1000000000000000 _).mono ?_; rintro e w' ⟨rfl, rfl⟩; rw [HD.out])
            refine (l01Dec_calls (-(V : Int)) (by have := HR.out; omega) (by have := HR.out; omega) _).mono ?_
            rintro e w2 ⟨rfl, hB2⟩
            have HB2 := Frame.hid hB2
            clear hB2
            by_cases hs : itoa (-(V : Int)) = s.data.toList
            · have hb : (itoa (-(V : Int)) == s.toList) = true := by rw [bytes_toList, hs]; exact beq_self_eq_true _
              have HI := Frame.hid hs
              clear hs
              go_wp2_with fail
              go_ret2
              exact ⟨_, _, rfl, .inl ⟨rfl, HR.out.1, HR.out.2, HI.out⟩, HB2.out⟩
            · have hb : (itoa (-(V : Int)) == s.toList) = false := by rw [bytes_toList, beq_eq_false_iff_ne]; exact hs
              have HI := Frame.hid hs
              clear hs
              go_wp2_with fail
              go_ret2
              exact ⟨_, _, rfl, .inr ⟨rfl, rfl, no_val (by rw [HSV.out]; exact fun h => HI.out h.2.2)⟩, HB2.out⟩
          · have hd : (decide (-1000000000000000 ≤ -(V : Int)) && decide (-(V : Int) ≤ 1000000000000000)) = false := by rw [Bool.and_eq_false_iff, decide_eq_false_iff_not, decide_eq_false_iff_not]; omega
            have HD := Frame.hid hd
            have HR := Frame.hid hr
            clear hd hr
            go_wp2_with (go_at_call 59; refine (l00In_b (-(V : Int)) (-1000000000000000) 1000000000000000 _).mono ?_; rintro e w' ⟨rfl, rfl⟩; rw [HD.out])
            go_ret2
            exact ⟨_, _, rfl, .inr ⟨rfl, rfl, no_val (by rw [HSV.out]; exact fun h => HR.out ⟨h.1, h.2.1⟩)⟩, Below.refl _ _⟩
        · have hbz : (((s[0]'hl1).toNat : Int) == 45) = false := by rw [beq_eq_false_iff_ne]; omega
          have hsv : sVal s.data.toList = (V : Int) := by unfold sVal; rw [head_byte s hl1, if_neg (by intro e; injection e with e; rw [e] at h45; exact h45 rfl), HV.out]
          have HSV := Frame.hid hsv
          clear hsv h45
          by_cases hr : -1000000000000000 ≤ (V : Int) ∧ (V : Int) ≤ 1000000000000000
          · have hd : (decide (-1000000000000000 ≤ (V : Int)) && decide ((V : Int) ≤ 1000000000000000)) = true := by rw [Bool.and_eq_true, decide_eq_true_eq, decide_eq_true_eq]; exact hr
            have HD := Frame.hid hd
            have HR := Frame.hid hr
            clear hd hr
            go_wp2_with (go_at_call 59; refine (l00In_b ((V : Int)) (-1000000000000000) 1000000000000000 _).mono ?_; rintro e w' ⟨rfl, rfl⟩; rw [HD.out])
            refine (l01Dec_calls ((V : Int)) (by have := HR.out; omega) (by have := HR.out; omega) _).mono ?_
            rintro e w2 ⟨rfl, hB2⟩
            have HB2 := Frame.hid hB2
            clear hB2
            by_cases hs : itoa ((V : Int)) = s.data.toList
            · have hb : (itoa ((V : Int)) == s.toList) = true := by rw [bytes_toList, hs]; exact beq_self_eq_true _
              have HI := Frame.hid hs
              clear hs
              go_wp2_with fail
              go_ret2
              exact ⟨_, _, rfl, .inl ⟨rfl, HR.out.1, HR.out.2, HI.out⟩, HB2.out⟩
            · have hb : (itoa ((V : Int)) == s.toList) = false := by rw [bytes_toList, beq_eq_false_iff_ne]; exact hs
              have HI := Frame.hid hs
              clear hs
              go_wp2_with fail
              go_ret2
              exact ⟨_, _, rfl, .inr ⟨rfl, rfl, no_val (by rw [HSV.out]; exact fun h => HI.out h.2.2)⟩, HB2.out⟩
          · have hd : (decide (-1000000000000000 ≤ (V : Int)) && decide ((V : Int) ≤ 1000000000000000)) = false := by rw [Bool.and_eq_false_iff, decide_eq_false_iff_not, decide_eq_false_iff_not]; omega
            have HD := Frame.hid hd
            have HR := Frame.hid hr
            clear hd hr
            go_wp2_with (go_at_call 59; refine (l00In_b ((V : Int)) (-1000000000000000) 1000000000000000 _).mono ?_; rintro e w' ⟨rfl, rfl⟩; rw [HD.out])
            go_ret2
            exact ⟨_, _, rfl, .inr ⟨rfl, rfl, no_val (by rw [HSV.out]; exact fun h => HR.out ⟨h.1, h.2.1⟩)⟩, Below.refl _ _⟩
  · have hno := no_long (l := s.data.toList) (by rw [size_list]; exact hl)
    have HN := Frame.hid hno
    clear hno
    rcases (by omega : s.size < 1 ∨ (1 ≤ s.size ∧ 17 < s.size)) with h | ⟨h, h'⟩
    · go_enter Tryd.func37, Tryd.ntmps37
      go_wp2_with fail
      go_ret2
      exact ⟨_, _, rfl, .inr ⟨rfl, rfl, HN.out⟩, Below.refl _ _⟩
    · go_enter Tryd.func37, Tryd.ntmps37
      go_wp2_with fail
      go_ret2
      exact ⟨_, _, rfl, .inr ⟨rfl, rfl, HN.out⟩, Below.refl _ _⟩


theorem specReadDecimal_calls (s : ByteArray) (hmax : s.size ≤ 281474976710656) (w : World) : Calls Tryd.prog 12 #[.string s] w (RdV s w) := by
  go_enter Tryd.func12, Tryd.ntmps12
  go_wp2_with fail
  refine (l01Value_calls s hmax _).mono ?_
  rintro e w1 ⟨r, t, rfl, hA, hB⟩
  have HA := Frame.hid hA
  have HB := Frame.hid hB
  clear hA hB
  go_wp2_with fail
  go_ret2
  exact ⟨_, _, rfl, HA.out, HB.out⟩

theorem var_below {w w' : World} {name : String} {cs : Array Value} (h : w.var? Tryd.prog name = some cs) (hb : Below w.heap.size w w') : w'.var? Tryd.prog name = some cs := by
  unfold World.var? at h ⊢
  cases hg : Tryd.prog.globalNamed name with
  | none => rw [hg] at h; cases h
  | some g =>
    rw [hg] at h
    simp only [Option.bind_some] at h ⊢
    cases hh : w.heap[g]? with
    | none => rw [hh] at h; cases h
    | some o =>
      rw [hb.block g (Array.getElem?_eq_some_iff.1 hh).1]
      exact h

set_option maxHeartbeats 1000000 in
theorem readDecimal_law (s : ByteArray) (hmax : s.size ≤ 1048576) (w : World) (tp tq : TypeId) (p q : Value) (hS : w.var? Tryd.prog "strconv.ErrSyntax" = some #[.iface tp p]) (hR : w.var? Tryd.prog "strconv.ErrRange" = some #[.iface tq q])
    (htab : TabIs Tryd.prog w "internal/strconv.uint64pow10" .u64 pow10Tab) : Calls Tryd.prog 4 #[.string s] w fun e w' => e = .returned (.bool true) ∧ Below w.heap.size w w' := by
  have HT := Frame.hid (tabBelow_of_tabIs htab)
  have HS := Frame.hid hS
  have HR := Frame.hid hR
  have HM := Frame.hid hmax
  clear htab hS hR
  go_enter Tryd.func4, Tryd.ntmps4
  go_wp2_with fail
  refine (specReadDecimal_calls s (by have := HM.out; omega) _).mono ?_
  rintro e w1 ⟨r1, t1, rfl, hA1, hB1⟩
  have HA1 := Frame.hid hA1
  have HB1 := Frame.hid hB1
  clear hA1 hB1
  go_wp2_with fail
  refine (readDecimal_calls s (by have := HM.out; omega) _ tp tq p q (var_below HS.out HB1.out) (var_below HR.out HB1.out) (HT.out.on HB1.out).here).mono ?_
  rintro e w2 ⟨r2, t2, rfl, hA2, hB2⟩
  obtain ⟨e1, e2⟩ := Ans.same HA1.out hA2
  subst e1
  subst e2
  have HB2 := Frame.hid hB2
  clear hA2 hB2 HA1
  have htt : (t2 != t2) = false := by cases t2 <;> rfl
  go_wp2
  go_ret
  exact ⟨rfl, HB1.out.trans (HB2.out.mono HB1.out.size)⟩


theorem fnExactReadDecimal_walk (s : ByteArray) (hs : s.size ≤ maxLen) (w : World) (tp tq : TypeId) (p q : Value) (hS : w.var? Tryd.prog "strconv.ErrSyntax" = some #[.iface tp p]) (hR : w.var? Tryd.prog "strconv.ErrRange" = some #[.iface tq q])
    (htab : TabIs Tryd.prog w "internal/strconv.uint64pow10" .u64 pow10Tab) : Calls Tryd.prog 4 #[.string s] w fun e w' => e = .returned (.bool true) ∧ Below w.heap.size w w' := by
  by_cases h : s.size ≤ 1048576
  · exact readDecimal_law s h w tp tq p q hS hR htab
  · unfold maxLen at hs
    clear hS hR htab
    have h2 : 1048576 < s.size := by omega
    clear h
    go_enter Tryd.func4, Tryd.ntmps4
    go_wp2_with fail
    go_ret
    exact ⟨rfl, Below.refl _ _⟩

end Go.Proofs.YtnflmdlhcjjfdacDoor
