/-
  The library's FormatInt at base 16, for numbers of 32 bits, walked over the library's own text.
-/
import Derived.Test.YtnhpiebddelebabDoorHn
import Derived.Lib.Walk
import Derived.WalkKit
import Derived.BigCall
namespace Go.Proofs.YtnhpiebddelebabDoor
open Go.RowKit Go.Lib Rd Go.WideShapes Fl

theorem pow2_calls (w : World) : Calls Tryd.prog 116 #[.int .i64 16] w fun e w' => e = .returned (.bool true) ∧ w = w' := by
  go_enter Tryd.func116, Tryd.ntmps116
  go_wp2
  go_ret
  exact ⟨rfl, rfl⟩

/-- The library's table tells that 16 has four zeros behind its one. -/
def ZerosAt (w : World) : Prop := w.cell? ⟨6, 15, none⟩ = some (.int .u8 4)

theorem zeros64_calls (w : World) (h : ZerosAt w) : Calls Tryd.prog 121 #[.int .u64 16] w fun e w' => e = .returned (.int .i64 4) ∧ w = w' := by
  unfold ZerosAt at h
  have e1 : IntKind.u64.wrap (bits BinOp.and IntKind.u64 16 (IntKind.u64.wrap (-16)) * 285870213051353865) / 288230376151711744 = 15 := by decide +kernel
  go_enter Tryd.func121, Tryd.ntmps121
  go_wp2
  go_ret
  exact ⟨rfl, rfl⟩

theorem zeros_calls (w : World) (h : ZerosAt w) : Calls Tryd.prog 117 #[.int .u64 16] w fun e w' => e = .returned (.int .i64 4) ∧ w = w' := by
  have H := Frame.hid h
  clear h
  go_enter Tryd.func117, Tryd.ntmps117
  go_wp2_with (go_at_call 121; refine (zeros64_calls _ H.out).mono ?_; rintro e w' ⟨rfl, rfl⟩)
  go_ret
  exact ⟨rfl, rfl⟩

def HexMem (n g : Nat) (w : World) (uv iv : Value) (wr : World) : Prop :=
  ∃ j : Nat, j ≤ 7 ∧ uv = .int .u64 ((n / 16 ^ j : Nat) : Int) ∧ iv = .int .i64 (65 - (j : Int)) ∧ (j = 0 ∨ 16 ^ j ≤ n) ∧ ∃ cs : Array Value, wr.heap[g]? = some (.cells cs 145 (0, 0)) ∧ cs.size = 65 ∧
    (∀ (i : Nat) c, (low n j)[i]? = some c → cs[65 - j + i]? = some (.int .u8 (c.toNat : Int))) ∧ Below w.heap.size w wr

theorem digs36_at : ∀ d : Fin 16, ((⟨#[48, 49, 50, 51, 52, 53, 54, 55, 56, 57, 97, 98, 99, 100, 101, 102, 103, 104, 105, 106, 107, 108, 109, 110, 111, 112, 113, 114, 115, 116, 117, 118, 119, 120, 121, 122]⟩ : ByteArray)[d.val]'(by show d.val < 36; omega)) = hexc d.val := by decide

set_option maxRecDepth 100000 in
set_option maxHeartbeats 4000000 in
theorem formatBits_calls (n : Nat) (hn : n < 4294967296) (w : World) (hz : ZerosAt w) :
    Calls Tryd.prog 105 #[.slice none 0 0, .int .u64 n, .int .i64 16, .bool false, .bool false] w fun e w' =>
      ∃ j, j < 8 ∧ n < 16 ^ (j + 1) ∧ e = .returned (.tuple #[.slice none 0 0, .string ⟨(low n (j + 1)).toArray⟩]) ∧ Below w.heap.size w w' := by
  have HZ := Frame.hid hz
  have HN := Frame.hid hn
  clear hz hn
  go_enter Tryd.func105, Tryd.ntmps105
  go_wp2_with fail
  refine (pow2_calls _).mono ?_
  rintro e w' ⟨rfl, rfl⟩
  go_wp2_with fail
  refine (zeros_calls _ (by
    have h := HZ.out
    unfold ZerosAt at h ⊢
    rw [World.cell?_alloc_old (h := Nat.ne_of_lt (World.block_lt_of_cell? _ _ h))]
    exact h)).mono ?_
  rintro e w' ⟨rfl, rfl⟩
  go_wp2_with fail
  go_loopw [1, 13] (fun u i wr => HexMem n w.heap.size w u i wr) (fun u _ _ => (Go.RowKit.intOf u).toNat)
  case atStart => exact ⟨0, by omega, by simp, rfl, .inl rfl, _, heap_alloc_new _ _, rfl, fun i c h => by simp [low] at h, (Below.refl _ _).alloc (Nat.le_refl _) _⟩
  case round =>
    obtain ⟨j, hj, rfl, rfl, hjn, cs, hcs, hsz, hlow, hB⟩ := hrel
    obtain ⟨g, hg⟩ : ∃ g, g = w.heap.size := ⟨_, rfl⟩
    rw [← hg] at hcs ⊢
    obtain ⟨U, hU⟩ : ∃ U : Nat, U = n / 16 ^ j := ⟨_, rfl⟩
    rw [← hU]
    obtain ⟨I, hI⟩ : ∃ I : Nat, I = 64 - j := ⟨_, rfl⟩
    have hI1 : (65 - (j : Int)) = (I : Int) + 1 := by omega
    rw [hI1]
    obtain ⟨v0, hc0⟩ : ∃ v0, wr.cell? ⟨g, I, none⟩ = some v0 := ⟨cs[I]'(by omega), by rw [cell_of_row wr g I cs _ (0, 0) hcs, Array.getElem?_eq_getElem]⟩
    have hf0 : wr.frozen? ⟨g, I, none⟩ = false := frozen_row hcs
    obtain ⟨d, hd⟩ : ∃ d : Nat, d = U % 16 := ⟨_, rfl⟩
    have hd1 : bits .and .u64 (U : Int) 15 = (d : Int) := by rw [and15_u64, hd]
    have hd16 : d < 16 := by rw [hd]; exact Nat.mod_lt _ (by omega)
    have hel := digs36_at ⟨d, hd16⟩
    have hset := fun v => heap_set (w := wr) (g := g) (i := I) v hcs
    have hgB : w.heap.size ≤ g := by omega
    have hI65 : I < 65 := by omega
    have hdig : hexc d :: low n j = low n (j + 1) := by rw [low, hd, hU]
    have hnew : ∀ (i : Nat) c, (low n (j + 1))[i]? = some c → (cs.setIfInBounds I (.int .u8 ((hexc d).toNat : Int)))[65 - (j + 1) + i]? = some (.int .u8 (c.toNat : Int)) := by
      intro i c hc
      rw [← hdig] at hc
      cases i with
      | zero =>
        simp only [List.getElem?_cons_zero, Option.some.injEq] at hc
        subst hc
        rw [show 65 - (j + 1) + 0 = I by omega, Array.getElem?_setIfInBounds_self_of_lt (by omega)]
      | succ i =>
        rw [List.getElem?_cons_succ] at hc
        have hil : i < j := by have := (List.getElem?_eq_some_iff.1 hc).1; rw [low_len] at this; exact this
        rw [Array.getElem?_setIfInBounds_ne (by omega), show 65 - (j + 1) + (i + 1) = 65 - j + i by omega]
        exact hlow i c hc
    have HNEW := Frame.hid hnew
    have HSET := Frame.hid hset
    have HB := Frame.hid hB
    have HGB := Frame.hid hgB
    have HI := Frame.hid hI
    have HI1 := Frame.hid hI1
    have HJN := Frame.hid hjn
    have HSZ := Frame.hid hsz
    have HJ := Frame.hid hj
    by_cases hge : 16 ≤ U
    · have hj6 : Hid (j + 1 ≤ 7 ∧ 16 ^ (j + 1) ≤ n) := by
        have h1 : 16 ^ (j + 1) ≤ n := by
          rw [hU, Nat.le_div_iff_mul_le (Nat.pow_pos (by omega))] at hge
          rw [Nat.pow_succ, Nat.mul_comm]
          exact hge
        refine ⟨?_, h1⟩
        have h2 := HN.out
        rcases (by omega : j + 1 ≤ 7 ∨ j = 7) with h | h
        · exact h
        · subst h; omega
      have HU : Hid (((U / 16 : Nat) : Int) = ((n / 16 ^ (j + 1) : Nat) : Int)) := by show _ = _; rw [hU, div_step]
      clear hnew hset hB hgB hI hI1 hjn hsz hj hlow hdig hd hU hcs hg
      go_wp2_with fail
      go_roundw
      case rel =>
        refine ⟨j + 1, hj6.out.1, ?_, ?_, .inr hj6.out.2, _, HSET.out _, by rw [Array.size_setIfInBounds]; exact HSZ.out, HNEW.out, HB.out.setCell (p := ⟨g, _, none⟩) HGB.out _⟩
        · rw [← HU.out]; go_num
        · have := HI1.out; go_num
      case measure => simp [Go.RowKit.intOf]; omega
    · have hUd : U = d := by omega
      have hn16 : n < 16 ^ (j + 1) := by
        have h1 : n / 16 ^ j < 16 := by omega
        rw [Nat.div_lt_iff_lt_mul (Nat.pow_pos (by omega))] at h1
        rw [Nat.pow_succ, Nat.mul_comm]
        exact h1
      subst hUd
      have hcv : (convert 51 9 (.slice (some ⟨g, I, none⟩) (j + 1) (j + 1))).run Tryd.prog (wr.setCell ⟨g, I, none⟩ (.int .u8 ((hexc U).toNat : Int))) = .ok (.string ⟨(low n (j + 1)).toArray⟩) (wr.setCell ⟨g, I, none⟩ (.int .u8 ((hexc U).toNat : Int))) := by
        have h := run_convert_bytes_back (P := Tryd.prog) (wr.setCell ⟨g, I, none⟩ (.int .u8 ((hexc U).toNat : Int))) 51 9 5 ⟨g, I, none⟩ (j + 1) (low n (j + 1)) Tryd.underlying51 Tryd.underlying5 Tryd.underlying9 (fun i hi => by
          rw [low_len] at hi
          have h1 := hnew i _ (List.getElem?_eq_getElem (by rw [low_len]; exact hi))
          rw [Lib.add_plain, cell_of_row _ g (I + i) _ _ (0, 0) (hset _), show I + i = 65 - (j + 1) + i by omega]
          exact h1)
        rw [low_len] at h
        exact h
      have hal : Tryd.prog.arrayLen 145 = 65 := by simp [Program.arrayLen, Tryd.underlying145]
      have hsl : ∀ W, (Instr.sliceAt 145 (.pointer (some ⟨g, 0, none⟩)) (some (.int .i64 (I : Int))) none none).run Tryd.prog W = .ok (.slice (some ⟨g, I, none⟩) (j + 1) (j + 1)) W := fun W => by
        rw [run_sliceAt_array_l W 145 ⟨g, 0, none⟩ (by simp [Program.arrayLen, Program.elem, Tryd.underlying145]) .i64 (I : Int) (by omega) (by rw [hal]; omega), hal]
        go_simp
        omega
      have HN16 := Frame.hid hn16
      clear hal hnew hset hB hgB hI hI1 hjn hsz hlow hdig hd hU hcs hg hn16
      go_wp2_with fail
      go_ret2
      exact ⟨j, by have := HJ.out; omega, HN16.out, rfl, HB.out.setCell (p := ⟨g, _, none⟩) HGB.out _⟩

end Go.Proofs.YtnhpiebddelebabDoor
