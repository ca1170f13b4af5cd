/-
  Decimal, walked: the program's side, and the digits of the specification.
-/
import Derived.Test.YtnhpiebddelebabDoorSf
import Derived.Test.YtnhpiebddelebabDoorFrame
import Derived.OwnWalk
import Derived.Laws.AppendOwn
import Derived.Laws.OwnMore
import Derived.Laws.IdiomStrings
import Derived.Lib.UnsafeStr
import Derived.Lib.ItoaLen
import Derived.Lib.ItoaMem
import Derived.WalkKit
import Derived.BigCall
namespace Go.Proofs.YtnhpiebddelebabDoor
open Go.RowKit Go.Lib

theorem infoB : (Tryd.prog.info? 5).map (fun i => (i.zero, i.size, i.bytes)) = some (some (.int .u8 0), 1, 1) := by kernel_rfl

/-- The digits so far, and what is left. -/
def DecR (u r : Nat) (out : List UInt8) : Prop :=
  (out = [] ∧ r = u) ∨ (out ≠ [] ∧ r ≠ 0 ∧ decDigits u = decDigits r ++ out) ∨ (out ≠ [] ∧ r = 0 ∧ decDigits u = out)
theorem dec_step {u r : Nat} {out : List UInt8} (h : DecR u r out) (hc : out = [] ∨ r ≠ 0) : DecR u (r / 10) (UInt8.ofNat (48 + r % 10) :: out) := by
  have key : decDigits u = decDigits r ++ out := by
    rcases h with ⟨h1, h2⟩ | ⟨_, _, h3⟩ | ⟨h1, h2, _⟩
    · rw [h1, h2, List.append_nil]
    · exact h3
    · rcases hc with hc | hc
      · exact absurd hc h1
      · exact absurd h2 hc
  by_cases hr : r < 10
  · refine .inr (.inr ⟨by simp, by omega, ?_⟩)
    rw [key, decDigits_one hr, Nat.mod_eq_of_lt hr]
    rfl
  · refine .inr (.inl ⟨by simp, by omega, ?_⟩)
    rw [key]
    conv => lhs; rw [decDigits, dif_neg hr]
    rw [List.append_assoc]
    rfl
theorem dec_end {u : Nat} {out : List UInt8} (h : DecR u 0 out) (hne : out ≠ []) : decDigits u = out := by
  rcases h with ⟨h1, _⟩ | ⟨_, h2, _⟩ | ⟨_, _, h3⟩
  · exact absurd h1 hne
  · exact absurd rfl h2
  · exact h3
theorem dec_len {u r : Nat} {out : List UInt8} (h : DecR u r out) : out.length ≤ (decDigits u).length := by
  rcases h with ⟨h1, _⟩ | ⟨_, _, h3⟩ | ⟨_, _, h3⟩
  · rw [h1]; exact Nat.zero_le _
  · rw [h3, List.length_append]; omega
  · rw [h3]; exact Nat.le_refl _

theorem bytes_one (bs : List UInt8) : ∀ u ∈ byteCells bs, u.oneCell' = true := by
  intro u hu
  obtain ⟨_, _, rfl⟩ := List.mem_map.1 hu
  rfl

/-- A slice of bytes of the call's own. -/
def OwnB (w : World) (base : Nat) (v : Value) (bs : List UInt8) : Prop := w.ownsRow base 5 1 v bs.length (byteCells bs)
theorem none_lit (w : World) : OwnB (w.alloc (.cells #[] 5)) w.heap.size (.slice (some ⟨w.heap.size, 0, none⟩) 0 0) [] :=
  World.ownsRow_lit w #[] 0 (Nat.le_refl _) (by unfold maxLen; omega) rfl

theorem dig_cell (m : Nat) : Value.int .u8 (48 + (m : Int) % 10) = .int .u8 ((UInt8.ofNat (48 + m % 10)).toNat : Int) := by
  have h : (UInt8.ofNat (48 + m % 10)).toNat = 48 + m % 10 := by
    rw [UInt8.toNat_ofNat']
    exact Nat.mod_eq_of_lt (by have := Nat.mod_lt m (show 0 < 10 by omega); omega)
  rw [h]
  congr 1
theorem own_cons {w3 : World} {B k m : Nat} {v' : Value} {out : List UInt8} (hk : k = out.length) (h : w3.ownsRow B 5 1 v' (1 + k) ([.int .u8 (48 + (m : Int) % 10)] ++ byteCells out)) :
    ∃ g cap, v' = .slice (some ⟨g, 0, none⟩) (k + 1) cap ∧ OwnB w3 B v' (UInt8.ofNat (48 + m % 10) :: out) := by
  rw [dig_cell, Nat.add_comm 1 k] at h
  have h2 : OwnB w3 B v' (UInt8.ofNat (48 + m % 10) :: out) := by
    unfold OwnB
    rw [List.length_cons, ← hk]
    exact h
  rcases h.2 with ⟨_, h0⟩ | ⟨g, cap, cur, hv, _⟩
  · omega
  · exact ⟨g, cap, hv, h2⟩

def lenV : Value → Nat | .slice _ n _ => n | _ => 0
def DecAtP (u : Nat) (w : World) (v r : Value) (wr : World) : Prop :=
  ∃ m k g cap out, m ≤ u ∧ r = .int .i64 (m : Int) ∧ v = .slice (some ⟨g, 0, none⟩) k cap ∧ k = out.length ∧ DecR u m out ∧ OwnB wr w.heap.size v out ∧ Below w.heap.size w wr

set_option maxRecDepth 100000 in
set_option maxHeartbeats 4000000 in
theorem l01Dec_pos (u : Nat) (hu : u ≤ 9223372036854775807) (w : World) : Calls Tryd.prog 49 #[.int .i64 u] w fun e w' => e = .returned (.string ⟨(itoa (u : Int)).toArray⟩) ∧ Below w.heap.size w w' := by
  obtain ⟨i0, hi, hz0, hz1, hz2⟩ := info_parts infoB
  go_enter Tryd.func49, Tryd.ntmps49
  go_wp2_with fail
  go_loopw [3, 4] (fun v r wr => DecAtP u w v r wr) (fun v r _ => 2 * (Go.RowKit.intOf r).natAbs + (1 - lenV v))
  case atStart => exact ⟨u, 0, w.heap.size, 0, [], Nat.le_refl _, rfl, rfl, rfl, .inl ⟨rfl, rfl⟩, none_lit w, (Below.refl _ _).alloc (Nat.le_refl _) _⟩
  case round =>
    obtain ⟨m, k, g, cap, out, hm, rfl, rfl, hk, hR, hO, hB⟩ := hrel
    have hlen : k ≤ 21 := by
      have h1 := dec_len hR
      have h2 := itoa_length_le (u : Int) (by omega) (by omega)
      rw [itoa_nonneg] at h2
      omega
    by_cases hc : k = 0 ∨ m ≠ 0
    · have HR := Frame.hid hR
      have HK := Frame.hid hk
      have HO := Frame.hid hO
      have HB := Frame.hid hB
      have hsz := hB.size
      have HC := Frame.hid hc
      rcases (by omega : k = 0 ∨ (0 < k ∧ 0 < m)) with hk0 | ⟨hk0, hm0⟩
      · clear hc hR hO hB hk
        subst hk0
        go_wp2_with fail
        go_roundw
        case rel =>
          have e0 : out = [] := List.eq_nil_of_length_eq_zero HK.out.symm
          have hb := HB.out.alloc hsz (.cells #[.int .u8 (48 + (m : Int) % 10)] 5)
          exact ⟨m / 10, 1, wr.heap.size, 1, [UInt8.ofNat (48 + m % 10)], Nat.le_trans (Nat.div_le_self _ _) hm, rfl, rfl, rfl, by have h := dec_step HR.out (.inl e0); rw [e0] at h; exact h,
            by rw [dig_cell]; exact World.ownsRow_lit (base := w.heap.size) wr #[.int .u8 ((UInt8.ofNat (48 + m % 10)).toNat : Int)] 1 hsz (by unfold maxLen; omega) rfl, hb⟩
        case measure =>
          simp only [Go.RowKit.intOf, lenV]
          omega
      · have own1 : (wr.alloc (.cells #[.int .u8 (48 + (m : Int) % 10)] 5)).ownsRow w.heap.size 5 1 (.slice (some ⟨wr.heap.size, 0, none⟩) 1 1) 1 [.int .u8 (48 + (m : Int) % 10)] :=
          World.ownsRow_lit (base := w.heap.size) wr #[.int .u8 (48 + (m : Int) % 10)] 1 hsz (by unfold maxLen; omega) rfl
        have hnews : ∀ j u', (byteCells out)[j]? = some u' → (wr.alloc (.cells #[.int .u8 (48 + (m : Int) % 10)] 5)).cell? ((⟨g, 0, none⟩ : Addr).add j) = some u' :=
          World.ownsRow.cells (World.ownsRow.alloc hO _) rfl
        have hnl : (byteCells out).length = k * 1 := by rw [byteCells_length, hk, Nat.mul_one]
        have hkb : ((k : Int) == 0) = false := by rw [beq_eq_false_iff_ne]; omega
        have hmb : ((m : Int) != 0) = true := by rw [bne_iff_ne]; omega
        clear hc hR hO hB hk
        go_wp2_with (at_builtin; go_loud (refine wpList_append_own _ rfl _ _ 51 rfl w.heap.size 5 i0 (.int .u8 0) 1 1 Tryd.underlying51 hi hz0 hz1 hz2 rfl (by decide) _ _ _ rfl own1 ⟨g, 0, none⟩ k cap (byteCells out) rfl hnl hnews (bytes_one out) (by unfold maxLen; omega) (by omega) (by simp; omega) ?_); intro v' w3 hown' hgrow3 hnil3; obtain ⟨g', cap', rfl, hO2⟩ := own_cons HK.out hown')
        have hgrow4 : (wr.alloc (.cells #[.int .u8 (48 + (m : Int) % 10)] 5)).grownBy w3 (some wr.heap.size) := hgrow3
        have HB2 : Hid (Below w.heap.size w w3) := Below.grown (HB.out.alloc hsz _) hgrow4 (by simp; omega) (fun j hj => by injection hj with hj; rw [← hj]; exact hsz)
        clear hgrow3 hgrow4 hnil3 hown' own1 hnews hnl
        go_roundw
        case rel => exact ⟨m / 10, k + 1, g', cap', _, Nat.le_trans (Nat.div_le_self _ _) hm, rfl, rfl, by rw [HK.out]; rfl, dec_step HR.out (.inr (by omega)), hO2, HB2.out⟩
        case measure =>
          simp only [Go.RowKit.intOf, lenV]
          omega
    · have hm0 : m = 0 := by omega
      have hk0 : 0 < k := by omega
      subst hm0
      have hne : out ≠ [] := by intro e; rw [e] at hk; simp at hk; omega
      have hend := dec_end hR hne
      have hcv := run_convert_bytes_back (P := Tryd.prog) wr 51 9 5 ⟨g, 0, none⟩ cap out Tryd.underlying51 Tryd.underlying5 Tryd.underlying9 (fun j hj => World.ownsRow.cells hO (g := g) rfl j _ (by simp [byteCells, hj]))
      rw [← hk] at hcv
      have HE := Frame.hid hend
      have HB := Frame.hid hB
      clear hc hR hO hB hend hk hne
      go_wp2
      go_ret
      exact ⟨by rw [itoa_nonneg, HE.out]; rfl, HB.out⟩

end Go.Proofs.YtnhpiebddelebabDoor
