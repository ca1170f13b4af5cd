/-
  The text of a number on the specification's side, walked.
-/
import Derived.Test.YtnhpiebddelebabDoorHm
import Derived.Test.YtnhpiebddelebabDoorDc
import Derived.Laws.BitsAllLaws
namespace Go.Proofs.YtnhpiebddelebabDoor
open Go.RowKit Go.Lib Rd Go.WideShapes Fl

theorem own_appB {w3 : World} {B k : Nat} {x : UInt8} {v' : Value} {out : List UInt8} (hk : k = out.length) (h : w3.ownsRow B 5 1 v' (k + 1) (byteCells out ++ [.int .u8 (x.toNat : Int)])) :
    ∃ g cap, v' = .slice (some ⟨g, 0, none⟩) (k + 1) cap ∧ OwnB w3 B v' (out ++ [x]) := by
  have e : byteCells out ++ [Value.int .u8 (x.toNat : Int)] = byteCells (out ++ [x]) := by unfold byteCells; rw [List.map_append]; rfl
  rw [e] at h
  have h2 : OwnB w3 B v' (out ++ [x]) := by
    unfold OwnB
    rw [List.length_append, ← hk]
    exact h
  rcases h.2 with ⟨_, h0⟩ | ⟨g, cap, cur, hv, _⟩
  · omega
  · exact ⟨g, cap, hv, h2⟩

theorem and15_i64 (a : Nat) : bits .and .i64 (a : Int) 15 = ((a % 16 : Nat) : Int) := by
  have h15 : (BitVec.ofInt 64 15).toNat = 2 ^ 4 - 1 := by decide
  have key : (BitVec.ofInt 64 (a : Int) &&& BitVec.ofInt 64 15).toNat = ((a : Int) % ((2 ^ 64 : Nat) : Int)).toNat % 2 ^ 4 := by
    rw [BitVec.toNat_and, BitVec.toNat_ofInt, h15, Nat.and_two_pow_sub_one_eq_mod]
  show IntKind.i64.wrap ((BitVec.ofInt 64 (a : Int) &&& BitVec.ofInt 64 15).toNat : Nat) = _
  rw [key, IntKind.wrap_i64]
  omega
theorem and15_u64 (a : Nat) : bits .and .u64 (a : Int) 15 = ((a % 16 : Nat) : Int) := by
  have h15 : (BitVec.ofInt 64 15).toNat = 2 ^ 4 - 1 := by decide
  have key : (BitVec.ofInt 64 (a : Int) &&& BitVec.ofInt 64 15).toNat = ((a : Int) % ((2 ^ 64 : Nat) : Int)).toNat % 2 ^ 4 := by
    rw [BitVec.toNat_and, BitVec.toNat_ofInt, h15, Nat.and_two_pow_sub_one_eq_mod]
  show IntKind.u64.wrap ((BitVec.ofInt 64 (a : Int) &&& BitVec.ofInt 64 15).toNat : Nat) = _
  rw [key, IntKind.wrap_u64]
  omega
theorem pow_16 (j : Nat) : 2 ^ (4 * j) = 16 ^ j := by rw [Nat.pow_mul]
theorem shr_digit (n j : Nat) : bits .and .i64 ((n : Int) / 2 ^ (4 * j)) 15 = ((n / 16 ^ j % 16 : Nat) : Int) := by
  have e : (n : Int) / 2 ^ (4 * j) = ((n / 2 ^ (4 * j) : Nat) : Int) := by push_cast; rfl
  rw [e, and15_i64, pow_16]
theorem digs16_at : ∀ d : Fin 16, ((⟨#[48, 49, 50, 51, 52, 53, 54, 55, 56, 57, 97, 98, 99, 100, 101, 102]⟩ : ByteArray)[d.val]'(by show d.val < 16; omega)) = hexc d.val := by decide

def HexOut (n : Nat) (w : World) (v kv : Value) (wr : World) : Prop :=
  ∃ (j k g cap : Nat) (out : List UInt8), j ≤ 8 ∧ kv = .int .i64 (4 * (j : Int) - 4) ∧ v = .slice (some ⟨g, 0, none⟩) k cap ∧ k = out.length ∧ k + j = 8 ∧ low n 8 = out ++ low n j ∧ OwnB wr w.heap.size v out ∧ Below w.heap.size w wr

set_option maxRecDepth 100000 in
set_option maxHeartbeats 4000000 in
theorem l01Hex_calls (b : Nat) (hb : (b : Int) < 4294967296) (w : World) : Calls Tryd.prog 77 #[.float .f32 b] w fun e w' => e = .returned (.string ⟨(hex8 b).toArray⟩) ∧ Below w.heap.size w w' := by
  obtain ⟨i0, hi, hz0, hz1, hz2⟩ := info_parts infoB
  obtain ⟨h0, h1⟩ := bitsV_range hb
  obtain ⟨n, hn⟩ : ∃ n : Nat, bitsV b = n := ⟨(bitsV b).toNat, by omega⟩
  have HH : Hid (hex8 b = low n 8) := by show hex8 b = _; unfold hex8; rw [hn, Int.toNat_natCast]
  go_enter Tryd.func77, Tryd.ntmps77
  go_wp2_with (go_at_call 92; refine (l01Bits_calls _ hb _).mono ?_; rintro e w' ⟨rfl, rfl⟩; rw [hn])
  clear hn h0 h1 hb
  go_loopw [4, 5] (fun v k wr => HexOut n w v k wr) (fun _ k _ => (Go.RowKit.intOf k + 4).toNat)
  case atStart => exact ⟨8, 0, w.heap.size, 0, [], by omega, rfl, rfl, rfl, rfl, rfl, none_lit w, (Below.refl _ _).alloc (Nat.le_refl _) _⟩
  case round =>
    obtain ⟨j, k, g, cap, out, hj, rfl, rfl, hk, hkj, hL, hO, hB⟩ := hrel
    rcases j with _ | j
    · have HL : Hid (low n 8 = out) := by show _ = _; rw [hL]; simp [low]
      have HO := Frame.hid hO
      have HB := Frame.hid hB
      have HK := Frame.hid hk
      have hk8 : k = 8 := by omega
      subst hk8
      have hcs : ∀ j (hj : j < out.length), wr.cell? ((⟨g, 0, none⟩ : Addr).add j) = some (.int .u8 (out[j].toNat : Int)) := fun j hj => World.ownsRow.cells hO rfl j _ (by unfold byteCells; rw [List.getElem?_map, List.getElem?_eq_getElem hj]; rfl)
      have hcv := run_convert_bytes_back (P := Tryd.prog) wr 51 9 5 ⟨g, 0, none⟩ cap out Tryd.underlying51 Tryd.underlying5 Tryd.underlying9 hcs
      rw [← hk] at hcv
      clear hL hO hB hk hkj hcs
      go_wp2_with fail
      go_ret
      exact ⟨by rw [HH.out, HL.out]; rfl, HB.out⟩
    · have hO1 : wr.ownsRow w.heap.size 5 1 (.slice (some ⟨g, 0, none⟩) k cap) k (byteCells out) := by have h := hO; unfold OwnB at h; rwa [← hk] at h
      obtain ⟨K, hK⟩ : ∃ K : Nat, K = 4 * j := ⟨_, rfl⟩
      have hkv : (4 * ((j + 1 : Nat) : Int) - 4) = (K : Int) := by omega
      rw [hkv]
      obtain ⟨d, hd⟩ : ∃ d : Nat, d = n / 16 ^ j % 16 := ⟨_, rfl⟩
      have hd1 : bits .and .i64 ((n : Int) / 2 ^ K) 15 = (d : Int) := by rw [hK, shr_digit, hd]
      have hd16 : d < 16 := by rw [hd]; exact Nat.mod_lt _ (by omega)
      have hel := digs16_at ⟨d, hd16⟩
      have HD := Frame.hid hd
      have HK := Frame.hid hk
      have HL := Frame.hid hL
      have HB := Frame.hid hB
      have hsz := hB.size
      have hgB : w.heap.size ≤ g := (World.ownsRow.lt hO1 g rfl).1
      have HGB := Frame.hid hgB
      have HKV := Frame.hid hkv
      have HKK := Frame.hid hK
      have hK28 : K ≤ 28 := by omega
      clear hkv hK hd hk hL hO hB hgB
      go_wp2_with (at_builtin; refine wpList_append_own _ rfl _ _ 51 rfl w.heap.size 5 i0 (.int .u8 0) 1 1 Tryd.underlying51 hi hz0 hz1 hz2 rfl (by decide) _ _ _ rfl (hO1.alloc _) ⟨wr.heap.size, 0, none⟩ 1 1 [.int .u8 ((hexc d).toNat : Int)] rfl rfl (by first | exact cell_one_new _ _ _ | (rw [hel]; exact cell_one_new _ _ _)) (fun x hx => by simp at hx; subst hx; rfl) (by unfold maxLen; omega) (by omega) (by simp; omega) ?_; intro v' w3 hown' hgrow3 hnil3; obtain ⟨g', cap', rfl, hO2⟩ := own_appB HK.out hown')
      have hgrow4 : (wr.alloc (.cells #[.int .u8 ((hexc d).toNat : Int)] 5)).grownBy w3 (some g) := hgrow3
      have HB3 : Hid (Below w.heap.size w w3) := Below.grown (HB.out.alloc hsz _) hgrow4 (by simp; omega) (fun k hk => by injection hk with hk; rw [← hk]; exact HGB.out)
      have HO2 := Frame.hid hO2
      clear hgrow3 hgrow4 hnil3 hown' hO1 hO2 hsz HB hel hd1
      go_roundw
      case rel => exact ⟨j, k + 1, g', cap', _, by omega, by have := HKK.out; go_num, rfl, by rw [List.length_append, HK.out]; rfl, by omega, by rw [List.append_assoc, HL.out, low, HD.out]; rfl, HO2.out, HB3.out⟩
      case measure => have := HKK.out; simp [Go.RowKit.intOf]; omega

end Go.Proofs.YtnhpiebddelebabDoor
