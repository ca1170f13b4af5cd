/-
  Eight hexadecimal digits and the number with these bits; ReadNumbers: one number, on the program's side.
-/
import Derived.Test.YtnflmdlhcjjfdadGreatDoorRl
import Derived.Test.YtnflmdlhcjjfdadGreatDoorEf
import Derived.Laws.RangeAny
import Derived.Laws.RangeString
namespace Go.Proofs.YtnflmdlhcjjfdadGreatDoor
open Go.RowKit Go.Lib Rd Go.WideShapes Fl

def hxV (c : UInt8) : Option Nat := if 48 ≤ c.toNat ∧ c.toNat ≤ 57 then some (c.toNat - 48) else if 97 ≤ c.toNat ∧ c.toNat ≤ 102 then some (c.toNat - 87) else none
def hxAll : List UInt8 → Nat → Option Nat
  | [], n => some n
  | c :: l, n => match hxV c with
    | none => none
    | some d => hxAll l (16 * n + d)
theorem hxV_lt {c : UInt8} {d : Nat} (h : hxV c = some d) : d < 16 := by
  unfold hxV at h
  split at h
  · injection h with h; omega
  · split at h
    · injection h with h; omega
    · cases h
theorem hxAll_snoc : ∀ (l : List UInt8) (n m d : Nat) (c : UInt8), hxAll l n = some m → hxV c = some d → hxAll (l ++ [c]) n = some (16 * m + d)
  | [], n, m, d, c, h, hc => by
    simp only [hxAll, Option.some.injEq] at h
    subst h
    simp only [List.nil_append, hxAll, hc]
  | b :: l, n, m, d, c, h, hc => by
    rw [List.cons_append, hxAll]
    rw [hxAll] at h
    cases hb : hxV b with
    | none => rw [hb] at h; cases h
    | some e =>
      rw [hb] at h
      exact hxAll_snoc l _ m d c h hc
theorem hxAll_bad : ∀ (l r : List UInt8) (n : Nat) (c : UInt8), hxV c = none → hxAll (l ++ c :: r) n = none
  | [], r, n, c, hc => by rw [List.nil_append, hxAll, hc]
  | b :: l, r, n, c, hc => by
    rw [List.cons_append, hxAll]
    cases hxV b with
    | none => rfl
    | some e => exact hxAll_bad l r _ c hc
theorem hxAll_lt : ∀ (l : List UInt8) (n m k : Nat), n < 16 ^ k → hxAll l n = some m → m < 16 ^ (k + l.length)
  | [], n, m, k, hn, h => by
    simp only [hxAll, Option.some.injEq] at h
    subst h
    exact hn
  | b :: l, n, m, k, hn, h => by
    rw [hxAll] at h
    cases hb : hxV b with
    | none => rw [hb] at h; cases h
    | some e =>
      rw [hb] at h
      have he := hxV_lt hb
      have h1 : 16 * n + e < 16 ^ (k + 1) := by rw [Nat.pow_succ]; omega
      have := hxAll_lt l _ m (k + 1) h1 h
      rwa [Nat.add_assoc, Nat.add_comm 1] at this
theorem hx_take {s : ByteArray} {k m d : Nat} (hk : k < s.size) (h : hxAll (s.data.toList.take k) 0 = some m) (hd : hxV s[k] = some d) : hxAll (s.data.toList.take (k + 1)) 0 = some (16 * m + d) := by
  rw [take_snoc s k hk]
  exact hxAll_snoc _ _ _ _ _ h hd
theorem hx_stop {s : ByteArray} {k : Nat} (hk : k < s.size) (hd : hxV s[k] = none) : hxAll s.data.toList 0 = none := by
  have e : s.data.toList = s.data.toList.take k ++ s[k] :: s.data.toList.drop (k + 1) := by
    have h1 := (List.take_append_drop k s.data.toList).symm
    have h2 : s.data.toList.drop k = s[k] :: s.data.toList.drop (k + 1) := by
      have hk' : k < s.data.toList.length := by rw [size_list]; exact hk
      rw [List.drop_eq_getElem_cons hk']
      rfl
    rw [h2] at h1
    exact h1
  rw [e]
  exact hxAll_bad _ _ _ _ hd
theorem hx_bound {s : ByteArray} {k m : Nat} (h8 : k ≤ 8) (h : hxAll (s.data.toList.take k) 0 = some m) : m < 4294967296 := by
  have h1 := hxAll_lt _ 0 m 0 (by decide) h
  have h2 : (s.data.toList.take k).length ≤ 8 := by rw [List.length_take]; omega
  have h3 : (16 : Nat) ^ (0 + (s.data.toList.take k).length) ≤ 16 ^ 8 := Nat.pow_le_pow_right (by omega) (by omega)
  have e : (16 : Nat) ^ 8 = 4294967296 := rfl
  omega
theorem hx_bound7 {s : ByteArray} {k m : Nat} (h8 : k ≤ 7) (h : hxAll (s.data.toList.take k) 0 = some m) : m < 268435456 := by
  have h1 := hxAll_lt _ 0 m 0 (by decide) h
  have h2 : (s.data.toList.take k).length ≤ 7 := by rw [List.length_take]; omega
  have h3 : (16 : Nat) ^ (0 + (s.data.toList.take k).length) ≤ 16 ^ 7 := Nat.pow_le_pow_right (by omega) (by omega)
  have e : (16 : Nat) ^ 7 = 268435456 := rfl
  omega

/-- The digits l are those of the number with the bits b. -/
def WantF (l : List UInt8) (b : Nat) : Prop := l.length = 8 ∧ hxAll l 0 = some b ∧ bitsV b = (b : Int)
def AnsF (l : List UInt8) (r : Nat) (t : Bool) : Prop := (t = true ∧ WantF l r) ∨ (t = false ∧ r = 0 ∧ ∀ n, ¬ WantF l n)
theorem WantF.one {l : List UInt8} {n m : Nat} (h : WantF l n) (g : WantF l m) : m = n := by
  have e := h.2.1
  rw [g.2.1] at e
  injection e
theorem noF_stop {s : ByteArray} {k : Nat} (hk : k < s.size) (hd : hxV s[k] = none) (n : Nat) : ¬ WantF s.data.toList n := fun h => by
  have := h.2.1
  rw [hx_stop hk hd] at this
  cases this
theorem noF_len {s : ByteArray} (h : s.size ≠ 8) (n : Nat) : ¬ WantF s.data.toList n := fun g => by
  have := g.1
  rw [size_list] at this
  exact h this
theorem noF_bits {s : ByteArray} {b : Nat} (h : hxAll s.data.toList 0 = some b) (hb : bitsV b ≠ (b : Int)) (n : Nat) : ¬ WantF s.data.toList n := fun g => by
  have := g.2.1
  rw [h] at this
  injection this with this
  subst this
  exact hb g.2.2
theorem hx_whole {s : ByteArray} {k b : Nat} (hk : s.size ≤ k) (h : hxAll (s.data.toList.take k) 0 = some b) : hxAll s.data.toList 0 = some b := by
  rwa [List.take_of_length_le (by rw [size_list]; exact hk)] at h

theorem below_iter (w : World) (s : ByteArray) (pos : Nat) : Below w.heap.size w (w.iter s pos) := (Below.refl _ _).alloc (Nat.le_refl _) _

theorem hexDigit_num (r : Int) (h0 : 48 ≤ r) (h1 : r ≤ 57) (w : World) : Calls Tryz.prog 70 #[.int .i32 r] w fun e w' => e = .returned (.tuple #[.int .i64 (r - 48), .bool true]) ∧ w = w' := by
  go_enter Tryz.func70, Tryz.ntmps70
  go_wp2
  go_ret2
  exact ⟨rfl, rfl⟩
theorem hexDigit_let (r : Int) (h0 : 97 ≤ r) (h1 : r ≤ 102) (w : World) : Calls Tryz.prog 70 #[.int .i32 r] w fun e w' => e = .returned (.tuple #[.int .i64 (r - 97 + 10), .bool true]) ∧ w = w' := by
  go_enter Tryz.func70, Tryz.ntmps70
  go_wp2
  go_ret2
  exact ⟨rfl, rfl⟩
theorem hexDigit_no (r : Int) (hmin : 0 ≤ r) (h : r < 48 ∨ (57 < r ∧ r < 97) ∨ (102 < r)) (w : World) : Calls Tryz.prog 70 #[.int .i32 r] w fun e w' => e = .returned (.tuple #[.int .i64 0, .bool false]) ∧ w = w' := by
  rcases h with h | ⟨h, h2⟩ | h
  all_goals
    go_enter Tryz.func70, Tryz.ntmps70
    go_wp2
    go_ret2
    exact ⟨rfl, rfl⟩

/-- What a rune tells: that of a digit's byte, or none. -/
theorem hexDigit_calls (c : UInt8) (R : Nat) (hR : (c.toNat < 128 ∧ R = c.toNat) ∨ (128 ≤ c.toNat ∧ 128 ≤ R)) (w : World) : Calls Tryz.prog 70 #[.int .i32 (R : Int)] w fun e w' =>
    ((∃ d : Nat, hxV c = some d ∧ e = .returned (.tuple #[.int .i64 (d : Int), .bool true])) ∨ (hxV c = none ∧ e = .returned (.tuple #[.int .i64 0, .bool false]))) ∧ w = w' := by
  by_cases h1 : 48 ≤ c.toNat ∧ c.toNat ≤ 57
  · obtain ⟨_, rfl⟩ : _ ∧ R = c.toNat := by rcases hR with h | h <;> omega
    refine (hexDigit_num (c.toNat : Int) (by omega) (by omega) w).mono ?_
    rintro e w' ⟨rfl, rfl⟩
    refine ⟨.inl ⟨c.toNat - 48, if_pos h1, ?_⟩, rfl⟩
    rw [show (c.toNat : Int) - 48 = ((c.toNat - 48 : Nat) : Int) by omega]
  · by_cases h2 : 97 ≤ c.toNat ∧ c.toNat ≤ 102
    · obtain ⟨_, rfl⟩ : _ ∧ R = c.toNat := by rcases hR with h | h <;> omega
      refine (hexDigit_let (c.toNat : Int) (by omega) (by omega) w).mono ?_
      rintro e w' ⟨rfl, rfl⟩
      refine ⟨.inl ⟨c.toNat - 87, by unfold hxV; rw [if_neg h1, if_pos h2], ?_⟩, rfl⟩
      rw [show (c.toNat : Int) - 97 + 10 = ((c.toNat - 87 : Nat) : Int) by omega]
    · refine (hexDigit_no (R : Int) (by omega) (by rcases hR with h | h <;> omega) w).mono ?_
      rintro e w' ⟨rfl, rfl⟩
      exact ⟨.inr ⟨by unfold hxV; rw [if_neg h1, if_neg h2], rfl⟩, rfl⟩

def RdNV (s : ByteArray) (w : World) (e : Ending) (w' : World) : Prop := ∃ r t, e = .returned (.tuple #[.float .f32 r, .bool t]) ∧ AnsF s.data.toList r t ∧ Below w.heap.size w w'

def HexAt (s : ByteArray) (w : World) (v : Value) (wr : World) : Prop :=
  ∃ pos n, pos ≤ s.size ∧ wr = w.iter s pos ∧ v = .int .i64 ((n : Nat) : Int) ∧ hxAll (s.data.toList.take pos) 0 = some n

set_option maxRecDepth 100000 in
set_option maxHeartbeats 2000000 in
theorem readNumber_calls (s : ByteArray) (hs : s.size ≤ 1048576) (w : World) : Calls Tryz.prog 59 #[.string s] w (RdNV s w) := by
  by_cases h8 : s.size = 8
  · go_enter Tryz.func59, Tryz.ntmps59
    go_wp2
    go_loopw [4] (fun v wr => HexAt s w v wr) (fun _ wr => s.size - wr.iterPos w.heap.size)
    case atStart => exact ⟨0, 0, Nat.zero_le _, rfl, rfl, rfl⟩
    case round =>
      obtain ⟨pos, n, hk, rfl, rfl, hn⟩ := hrel
      by_cases hlt : pos < s.size
      · have hn7 := hx_bound7 (by omega) hn
        have HN := Frame.hid hn
        clear hn
        obtain ⟨c, hc⟩ : ∃ c, c = s[pos] := ⟨_, rfl⟩
        obtain ⟨R, hRR⟩ : ∃ R, R = (Utf8.decode s pos).1 := ⟨_, rfl⟩
        obtain ⟨Q, hQQ⟩ : ∃ Q, Q = pos + (Utf8.decode s pos).2 := ⟨_, rfl⟩
        have hnx : ∀ ty, (Instr.next (.pointer (some ⟨w.heap.size, 0, none⟩)) true ty).run Tryz.prog (w.iter s pos) = .ok (.tuple #[.bool true, .int .i64 pos, .int .i32 (R : Int)]) (w.iter s Q) := fun ty => by
          rw [run_next_any w s pos ty hlt, hRR, hQQ]
        have hRc : (c.toNat < 128 ∧ R = c.toNat) ∨ (128 ≤ c.toNat ∧ 128 ≤ R) := by
          by_cases ha : s[pos].toNat < 128
          · left
            rw [hRR, decode_ascii s pos hlt ha, hc]
            exact ⟨ha, rfl⟩
          · right
            have := decode_high s pos hlt (by omega)
            rw [hRR, hc]
            exact ⟨by omega, this.1⟩
        have hQ1 : c.toNat < 128 → Q = pos + 1 := fun ha => by
          rw [hQQ, decode_ascii s pos hlt (by rw [← hc]; exact ha)]
        have HRC := Frame.hid hRc
        have HQ1 := Frame.hid hQ1
        have HC := Frame.hid hc
        clear hRR hQQ hRc hQ1 hc
        go_wp2_with fail
        refine (hexDigit_calls c R HRC.out _).mono ?_
        rintro e w1 ⟨hcase, rfl⟩
        rcases hcase with ⟨d, hd, rfl⟩ | ⟨hd, rfl⟩
        · have hd16 := hxV_lt hd
          have hq : Q = pos + 1 := HQ1.out (by rcases HRC.out with h | h; exact h.1; unfold hxV at hd; split at hd; omega; split at hd; omega; cases hd)
          subst hq
          have HD := Frame.hid hd
          clear hd
          go_wp2
          go_roundw
          case rel => exact ⟨pos + 1, 16 * n + d, by omega, rfl, by go_num, hx_take hlt HN.out (by rw [← HC.out]; exact HD.out)⟩
          case measure => simp; omega
        · have HD := Frame.hid hd
          clear hd
          go_wp2
          go_ret2
          exact ⟨_, _, rfl, .inr ⟨rfl, rfl, noF_stop hlt (by rw [← HC.out]; exact HD.out)⟩, below_iter _ _ _⟩
      · have hks : pos = s.size := by omega
        have hb32 := hx_bound (by omega) hn
        have HW := Frame.hid (hx_whole (by omega) hn)
        have hnx : ∀ ty, (Instr.next (.pointer (some ⟨w.heap.size, 0, none⟩)) true ty).run Tryz.prog (w.iter s pos) = _ := fun ty => run_next_end w s pos ty hlt
        clear hn hks
        have hfv := fromV_yes (n := (n : Int)) (by omega) (by omega)
        rw [Int.toNat_natCast] at hfv
        have HFV := Frame.hid hfv
        clear hfv
        go_wp2_with fail
        refine (fromBits_calls (n : Int) _).mono ?_
        rintro e w1 ⟨rfl, rfl⟩
        rw [HFV.out]
        go_wp2_with fail
        refine (bitsOf_calls n (by omega) _).mono ?_
        rintro e w2 ⟨rfl, m, rfl⟩
        have HB : Hid (Below w.heap.size w ((w.iter s pos).drewN m)) := below_drewN (below_iter _ _ _) _
        by_cases hbv : bitsV n = (n : Int)
        · rw [hbv]
          have HBV := Frame.hid hbv
          clear hbv
          go_wp2
          go_ret2
          exact ⟨_, _, rfl, .inl ⟨rfl, by rw [size_list]; exact h8, HW.out, HBV.out⟩, HB.out⟩
        · have hne : (bitsV n == (n : Int)) = false := by rw [beq_eq_false_iff_ne]; exact hbv
          have HBV := Frame.hid hbv
          generalize bitsV n = z at hne
          clear hbv
          go_wp2
          go_ret2
          exact ⟨_, _, rfl, .inr ⟨rfl, rfl, noF_bits HW.out HBV.out⟩, HB.out⟩
  · have hno := Frame.hid (noF_len h8)
    rcases (by omega : s.size < 8 ∨ 8 < s.size) with h | h
    all_goals
      clear h8
      go_enter Tryz.func59, Tryz.ntmps59
      go_wp2
      go_ret2
      exact ⟨_, _, rfl, .inr ⟨rfl, rfl, hno.out⟩, Below.refl _ _⟩

end Go.Proofs.YtnflmdlhcjjfdadGreatDoor
