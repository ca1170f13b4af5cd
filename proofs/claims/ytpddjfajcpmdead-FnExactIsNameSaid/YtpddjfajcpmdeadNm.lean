/-
  Names, walked on both sides: bytes on one, runes on the other.
-/
import Derived.Test.YtpddjfajcpmdeadSc
import Derived.Laws.RangeAny
import Derived.Laws.RangeString
namespace Go.Proofs.Ytpddjfajcpmdead
open Go.RowKit Fl

/-- The first k bytes are letters. -/
def Letters (s : ByteArray) (k : Nat) : Prop := ∀ i, ∀ h : i < s.size, i < k → 97 ≤ (s[i].toNat : Int) ∧ (s[i].toNat : Int) ≤ 122
theorem Letters.snoc {s : ByteArray} {k : Nat} (h : Letters s k) (hk : k < s.size) (h1 : 97 ≤ (s[k].toNat : Int)) (h2 : (s[k].toNat : Int) ≤ 122) : Letters s (k + 1) := fun i hi hik => by
  by_cases he : i = k
  · subst he; exact ⟨h1, h2⟩
  · exact h i hi (by omega)
/-- Whether a text is a name. -/
def Nm (s : ByteArray) : Prop := (1 ≤ s.size ∧ s.size ≤ 8) ∧ Letters s s.size

def NmV (s : ByteArray) (w : World) (e : Ending) (w' : World) : Prop := (∃ b, e = .returned (.bool b) ∧ (b = true ↔ Nm s)) ∧ Below w.heap.size w w'

theorem not_nm {s : ByteArray} {k : Nat} (hk : k < s.size) (h : (s[k].toNat : Int) < 97 ∨ 122 < (s[k].toNat : Int)) : ¬ Nm s := fun hn => by
  have := hn.2 k hk hk
  omega

set_option maxHeartbeats 1000000 in
theorem specIsName_calls (s : ByteArray) (hs : s.size ≤ 1048576) (w : World) : Calls Try.prog 8 #[.string s] w (NmV s w) := by
  go_enter Try.func8, Try.ntmps8
  go_wp2
  go_loop [3] (fun i => ∃ k : Nat, k ≤ s.size ∧ i = .int .i64 k ∧ Letters s k) (fun i => s.size - (intOf i).toNat)
  case atStart => exact ⟨0, Nat.zero_le _, rfl, fun i _ h => absurd h (by omega)⟩
  case round =>
    obtain ⟨k, hk, rfl, hl⟩ := hrel
    have HL := Frame.hid hl
    clear hl
    by_cases hlt : k < s.size
    · by_cases h1 : (s[k].toNat : Int) < 97
      · have HN := Frame.hid (not_nm hlt (.inl h1))
        go_wp2
        go_ret
        exact ⟨⟨_, rfl, by simp [HN.out]⟩, Below.refl _ _⟩
      · by_cases h2 : 122 < (s[k].toNat : Int)
        · have HN := Frame.hid (not_nm hlt (.inr h2))
          have h1' : 97 ≤ (s[k].toNat : Int) := by omega
          clear h1
          go_wp2
          go_ret
          exact ⟨⟨_, rfl, by simp [HN.out]⟩, Below.refl _ _⟩
        · have h1' : 97 ≤ (s[k].toNat : Int) := by omega
          have h2' : (s[k].toNat : Int) ≤ 122 := by omega
          have HS := Frame.hid (HL.out.snoc hlt h1' h2')
          clear h1 h2
          go_wp2
          go_round
          case rel => exact ⟨k + 1, by omega, by go_num, HS.out⟩
          case measure => simp [intOf]; omega
    · have hks : k = s.size := by omega
      have HF := Frame.hid (show Letters s s.size by rw [← hks]; exact HL.out)
      clear hks
      by_cases h1 : 1 ≤ s.size
      · by_cases h2 : s.size ≤ 8
        · go_wp2
          go_ret
          exact ⟨⟨_, rfl, ⟨fun _ => ⟨⟨h1, h2⟩, HF.out⟩, fun _ => by simp; omega⟩⟩, Below.refl _ _⟩
        · have h2' : 8 < s.size := by omega
          have HN := Frame.hid (show ¬ Nm s from fun h => by have := h.1; omega)
          clear h2
          go_wp2
          go_ret
          exact ⟨⟨_, rfl, by simp [HN.out]; omega⟩, Below.refl _ _⟩
      · have h1' : s.size < 1 := by omega
        have HN := Frame.hid (show ¬ Nm s from fun h => by have := h.1; omega)
        clear h1
        go_wp2
        go_ret
        exact ⟨⟨_, rfl, by simp [HN.out]⟩, Below.refl _ _⟩

theorem below_iter (w : World) (s : ByteArray) (pos : Nat) : Below w.heap.size w (w.iter s pos) := (Below.refl _ _).alloc (Nat.le_refl _) _

set_option maxHeartbeats 1000000 in
theorem isName_calls (s : ByteArray) (hs : s.size ≤ 1048576) (w : World) : Calls Try.prog 9 #[.string s] w (NmV s w) := by
  by_cases h1 : 1 ≤ s.size
  · by_cases h2 : s.size ≤ 8
    · go_enter Try.func9, Try.ntmps9
      go_wp2
      go_loopw [4] (fun _ wr => ∃ pos, pos ≤ s.size ∧ wr = w.iter s pos ∧ Letters s pos) (fun _ wr => s.size - wr.iterPos w.heap.size)
      case atStart => exact ⟨0, Nat.zero_le _, rfl, fun i _ h => absurd h (by omega)⟩
      case round =>
        obtain ⟨pos, hk, rfl, hl⟩ := hrel
        have HL := Frame.hid hl
        clear hl
        by_cases hlt : pos < s.size
        · by_cases hbad : (s[pos].toNat : Int) < 97 ∨ 122 < (s[pos].toNat : Int)
          · have HN := Frame.hid (not_nm hlt hbad)
            have hR : ((Utf8.decode s pos).1 : Int) < 97 ∨ 122 < ((Utf8.decode s pos).1 : Int) := by
              by_cases ha : s[pos].toNat < 128
              · rw [decode_ascii s pos hlt ha]; exact hbad
              · have := (decode_high s pos hlt (by omega)).1
                omega
            obtain ⟨R, hRR⟩ : ∃ R, R = (Utf8.decode s pos).1 := ⟨_, rfl⟩
            obtain ⟨Q, hQQ⟩ : ∃ Q, Q = pos + (Utf8.decode s pos).2 := ⟨_, rfl⟩
            have hnx : ∀ ty, (Instr.next (.pointer (some ⟨w.heap.size, 0, none⟩)) true ty).run Try.prog (w.iter s pos) = .ok (.tuple #[.bool true, .int .i64 pos, .int .i32 (R : Int)]) (w.iter s Q) := fun ty => by
              rw [run_next_any w s pos ty hlt, hRR, hQQ]
            rw [← hRR] at hR
            clear hRR hQQ hbad
            rcases hR with hR | hR
            · go_wp2
              go_ret
              exact ⟨⟨_, rfl, by simp [HN.out]⟩, below_iter _ _ _⟩
            · have hR' : 97 ≤ (R : Int) := by omega
              go_wp2
              go_ret
              exact ⟨⟨_, rfl, by simp [HN.out]⟩, below_iter _ _ _⟩
          · have h1' : 97 ≤ (s[pos].toNat : Int) := by omega
            have h2' : (s[pos].toNat : Int) ≤ 122 := by omega
            have HS := Frame.hid (HL.out.snoc hlt h1' h2')
            have hd := decode_ascii s pos hlt (by omega)
            obtain ⟨R, hRR⟩ : ∃ R : Int, R = (s[pos].toNat : Int) := ⟨_, rfl⟩
            have hnx : ∀ ty, (Instr.next (.pointer (some ⟨w.heap.size, 0, none⟩)) true ty).run Try.prog (w.iter s pos) = .ok (.tuple #[.bool true, .int .i64 pos, .int .i32 R]) (w.iter s (pos + 1)) := fun ty => by
              rw [run_next_any w s pos ty hlt, hd, hRR]
            rw [← hRR] at h1' h2'
            clear hRR hbad hd
            go_wp2
            go_roundw
            case rel => exact ⟨pos + 1, by omega, rfl, HS.out⟩
            case measure => simp; omega
        · have hks : pos = s.size := by omega
          have HF := Frame.hid (show Nm s from ⟨⟨h1, h2⟩, by rw [← hks]; exact HL.out⟩)
          have hnx : ∀ ty, (Instr.next (.pointer (some ⟨w.heap.size, 0, none⟩)) true ty).run Try.prog (w.iter s pos) = _ := fun ty => run_next_end w s pos ty hlt
          clear hks
          go_wp2
          go_ret
          exact ⟨⟨_, rfl, by simp [HF.out]⟩, below_iter _ _ _⟩
    · have h2' : 8 < s.size := by omega
      have HN := Frame.hid (show ¬ Nm s from fun h => by have := h.1; omega)
      clear h2
      go_enter Try.func9, Try.ntmps9
      go_wp2
      go_ret
      exact ⟨⟨_, rfl, by simp [HN.out]⟩, Below.refl _ _⟩
  · have h1' : s.size < 1 := by omega
    have HN := Frame.hid (show ¬ Nm s from fun h => by have := h.1; omega)
    clear h1
    go_enter Try.func9, Try.ntmps9
    go_wp2
    go_ret
    exact ⟨⟨_, rfl, by simp [HN.out]⟩, Below.refl _ _⟩

set_option maxHeartbeats 1000000 in
theorem fnExactIsName_walk (s : ByteArray) (hm : s.size ≤ maxLen) (w : World) : Calls Try.prog 3 #[.string s] w fun e w' => e = .returned (.bool true) ∧ Below w.heap.size w w' := by
  unfold maxLen at hm
  by_cases hbig : 1048576 < s.size
  · go_enter Try.func3, Try.ntmps3
    go_wp2
    go_ret
    exact ⟨rfl, Below.refl _ _⟩
  · have hs : s.size ≤ 1048576 := by omega
    clear hbig
    go_enter Try.func3, Try.ntmps3
    go_wp2_with fail
    refine (specIsName_calls s hs _).mono ?_
    rintro e w1 ⟨⟨b1, rfl, i1⟩, hb1⟩
    have I1 := Frame.hid i1
    have HB := Frame.hid hb1
    clear i1 hb1
    go_wp2_with fail
    refine (isName_calls s hs _).mono ?_
    rintro e w2 ⟨⟨b2, rfl, i2⟩, hb2⟩
    have hbb : b2 = b1 := by
      have h1 := I1.out
      cases b1 <;> cases b2 <;> simp_all
    subst hbb
    have HC := Frame.hid (HB.out.trans (hb2.mono HB.out.size))
    have hne : (b2 != b2) = false := by cases b2 <;> rfl
    clear i2 hb2 HB I1
    go_wp2
    go_ret
    exact ⟨rfl, HC.out⟩

end Go.Proofs.Ytpddjfajcpmdead
