/-
  Decimal: the digits of numbers below nothing, the program's side and the law.
-/
import Derived.Test.YtnhpiebddelebabDoorDc
namespace Go.Proofs.YtnhpiebddelebabDoor
open Go.RowKit Go.Lib

theorem dig_cell0 {m : Nat} (h : m % 10 = 0) : Value.int .u8 48 = .int .u8 ((UInt8.ofNat (48 + m % 10)).toNat : Int) := by rw [h]; rfl
theorem own_cons' {w3 : World} {B k : Nat} {x v' : Value} {b : UInt8} {out : List UInt8} (hk : k = out.length) (hx : x = .int .u8 (b.toNat : Int)) (h : w3.ownsRow B 5 1 v' (1 + k) ([x] ++ byteCells out)) :
    ∃ g cap, v' = .slice (some ⟨g, 0, none⟩) (k + 1) cap ∧ OwnB w3 B v' (b :: out) := by
  rw [hx, Nat.add_comm 1 k] at h
  have h2 : OwnB w3 B v' (b :: out) := by
    unfold OwnB
    rw [List.length_cons, ← hk]
    exact h
  rcases h.2 with ⟨_, h0⟩ | ⟨g, cap, cur, hv, _⟩
  · omega
  · exact ⟨g, cap, hv, h2⟩

def DecAtN (u : Nat) (w : World) (v r : Value) (wr : World) : Prop :=
  ∃ m k g cap out, m ≤ u ∧ r = .int .i64 (-(m : Int)) ∧ v = .slice (some ⟨g, 0, none⟩) k cap ∧ k = out.length ∧ DecR u m out ∧ OwnB wr w.heap.size v out ∧ Below w.heap.size w wr

set_option maxRecDepth 100000 in
set_option maxHeartbeats 4000000 in
theorem l01Dec_neg (u : Nat) (hu0 : 1 ≤ u) (hu : u ≤ 9223372036854775808) (w : World) : Calls Tryd.prog 49 #[.int .i64 (-(u : Int))] w fun e w' => e = .returned (.string ⟨(itoa (-(u : Int))).toArray⟩) ∧ Below w.heap.size w w' := by
  obtain ⟨i0, hi, hz0, hz1, hz2⟩ := info_parts infoB
  go_enter Tryd.func49, Tryd.ntmps49
  go_wp2_with fail
  go_loopw [3, 4] (fun v r wr => DecAtN u w v r wr) (fun v r _ => 2 * (Go.RowKit.intOf r).natAbs + (1 - lenV v))
  case atStart => exact ⟨u, 0, w.heap.size, 0, [], Nat.le_refl _, rfl, rfl, rfl, .inl ⟨rfl, rfl⟩, none_lit w, (Below.refl _ _).alloc (Nat.le_refl _) _⟩
  case round =>
    obtain ⟨m, k, g, cap, out, hm, rfl, rfl, hk, hR, hO, hB⟩ := hrel
    have hlen : k ≤ 21 := by
      have h1 := dec_len hR
      have h2 := itoa_length_le (-(u : Int)) (by omega) (by omega)
      rw [itoa_neg u hu0, List.length_cons] at h2
      omega
    have hsz := hB.size
    by_cases hc : k = 0 ∨ m ≠ 0
    · have HR := Frame.hid hR
      have HK := Frame.hid hk
      have HO := Frame.hid hO
      have HB := Frame.hid hB
      by_cases hdz : m % 10 = 0
      · have HD0 := Frame.hid hdz
        clear hdz
        rcases (by omega : k = 0 ∨ (0 < k ∧ 0 < m)) with hk0 | ⟨hk0, hm0⟩
        · have hd0 : (m : Int) % 10 = 0 := by have := HD0.out; omega
          clear hc hR hO hB hk
          subst hk0
          go_wp2_with fail
          go_roundw
          case rel =>
            have e0 : out = [] := List.eq_nil_of_length_eq_zero HK.out.symm
            have hb := HB.out.alloc hsz (.cells #[.int .u8 48] 5)
            exact ⟨m / 10, 1, wr.heap.size, 1, [UInt8.ofNat (48 + m % 10)], Nat.le_trans (Nat.div_le_self _ _) hm, rfl, rfl, rfl, by have h := dec_step HR.out (.inl e0); rw [e0] at h; exact h,
              by rw [(dig_cell0 HD0.out)]; exact World.ownsRow_lit (base := w.heap.size) wr #[.int .u8 ((UInt8.ofNat (48 + m % 10)).toNat : Int)] 1 hsz (by unfold maxLen; omega) rfl, hb⟩
          case measure =>
            simp only [Go.RowKit.intOf, lenV]
            omega
        · have own1 : (wr.alloc (.cells #[.int .u8 48] 5)).ownsRow w.heap.size 5 1 (.slice (some ⟨wr.heap.size, 0, none⟩) 1 1) 1 [.int .u8 48] :=
            World.ownsRow_lit (base := w.heap.size) wr #[.int .u8 48] 1 hsz (by unfold maxLen; omega) rfl
          have hnews : ∀ j u', (byteCells out)[j]? = some u' → (wr.alloc (.cells #[.int .u8 48] 5)).cell? ((⟨g, 0, none⟩ : Addr).add j) = some u' :=
            World.ownsRow.cells (World.ownsRow.alloc hO _) rfl
          have hnl : (byteCells out).length = k * 1 := by rw [byteCells_length, hk, Nat.mul_one]
          have hkb : ((k : Int) == 0) = false := by rw [beq_eq_false_iff_ne]; omega
          have hmb : ((m : Int) == 0) = false := by rw [beq_eq_false_iff_ne]; omega
          have hmc : ((m : Int) != 0) = true := by rw [bne_iff_ne]; omega
          have hmd : (-(m : Int) != 0) = true := by rw [bne_iff_ne]; omega
          have hd0 : (m : Int) % 10 = 0 := by have := HD0.out; omega
          clear hc hR hO hB hk
          go_wp2_with (at_builtin; refine wpList_append_own _ rfl _ _ 51 rfl w.heap.size 5 i0 (.int .u8 0) 1 1 Tryd.underlying51 hi hz0 hz1 hz2 rfl (by decide) _ _ _ rfl own1 ⟨g, 0, none⟩ k cap (byteCells out) rfl hnl hnews (bytes_one out) (by unfold maxLen; omega) (by omega) (by simp; omega) ?_; intro v' w3 hown' hgrow3 hnil3; obtain ⟨g', cap', rfl, hO2⟩ := own_cons' HK.out (dig_cell0 HD0.out) hown')
          have hgrow4 : (wr.alloc (.cells #[.int .u8 48] 5)).grownBy w3 (some wr.heap.size) := hgrow3
          have HB2 : Hid (Below w.heap.size w w3) := Below.grown (HB.out.alloc hsz _) hgrow4 (by simp; omega) (fun j hj => by injection hj with hj; rw [← hj]; exact hsz)
          clear hgrow3 hgrow4 hnil3 hown' own1 hnews hnl
          go_roundw
          case rel => exact ⟨m / 10, k + 1, g', cap', _, Nat.le_trans (Nat.div_le_self _ _) hm, rfl, rfl, by rw [HK.out]; rfl, dec_step HR.out (.inr (by omega)), hO2, HB2.out⟩
          case measure =>
            simp only [Go.RowKit.intOf, lenV]
            omega
      · have HD0 := Frame.hid hdz
        clear hdz
        rcases (by omega : k = 0 ∨ (0 < k ∧ 0 < m)) with hk0 | ⟨hk0, hm0⟩
        · have hd1 : -((m : Int) % 10) < 0 := by have := HD0.out; omega
          clear hc hR hO hB hk
          subst hk0
          go_wp2_with fail
          go_roundw
          case rel =>
            have e0 : out = [] := List.eq_nil_of_length_eq_zero HK.out.symm
            have hb := HB.out.alloc hsz (.cells #[.int .u8 (48 + (m : Int) % 10)] 5)
            exact ⟨m / 10, 1, wr.heap.size, 1, [UInt8.ofNat (48 + m % 10)], Nat.le_trans (Nat.div_le_self _ _) hm, rfl, rfl, rfl, by have h := dec_step HR.out (.inl e0); rw [e0] at h; exact h,
              by rw [(dig_cell m)]; exact World.ownsRow_lit (base := w.heap.size) wr #[.int .u8 ((UInt8.ofNat (48 + m % 10)).toNat : Int)] 1 hsz (by unfold maxLen; omega) rfl, hb⟩
          case measure =>
            simp only [Go.RowKit.intOf, lenV]
            omega
        · have own1 : (wr.alloc (.cells #[.int .u8 (48 + (m : Int) % 10)] 5)).ownsRow w.heap.size 5 1 (.slice (some ⟨wr.heap.size, 0, none⟩) 1 1) 1 [.int .u8 (48 + (m : Int) % 10)] :=
            World.ownsRow_lit (base := w.heap.size) wr #[.int .u8 (48 + (m : Int) % 10)] 1 hsz (by unfold maxLen; omega) rfl
          have hnews : ∀ j u', (byteCells out)[j]? = some u' → (wr.alloc (.cells #[.int .u8 (48 + (m : Int) % 10)] 5)).cell? ((⟨g, 0, none⟩ : Addr).add j) = some u' :=
            World.ownsRow.cells (World.ownsRow.alloc hO _) rfl
          have hnl : (byteCells out).length = k * 1 := by rw [byteCells_length, hk, Nat.mul_one]
          have hkb : ((k : Int) == 0) = false := by rw [beq_eq_false_iff_ne]; omega
          have hmb : ((m : Int) == 0) = false := by rw [beq_eq_false_iff_ne]; omega
          have hmc : ((m : Int) != 0) = true := by rw [bne_iff_ne]; omega
          have hmd : (-(m : Int) != 0) = true := by rw [bne_iff_ne]; omega
          have hd1 : -((m : Int) % 10) < 0 := by have := HD0.out; omega
          clear hc hR hO hB hk
          go_wp2_with (at_builtin; refine wpList_append_own _ rfl _ _ 51 rfl w.heap.size 5 i0 (.int .u8 0) 1 1 Tryd.underlying51 hi hz0 hz1 hz2 rfl (by decide) _ _ _ rfl own1 ⟨g, 0, none⟩ k cap (byteCells out) rfl hnl hnews (bytes_one out) (by unfold maxLen; omega) (by omega) (by simp; omega) ?_; intro v' w3 hown' hgrow3 hnil3; obtain ⟨g', cap', rfl, hO2⟩ := own_cons' HK.out (dig_cell m) hown')
          have hgrow4 : (wr.alloc (.cells #[.int .u8 (48 + (m : Int) % 10)] 5)).grownBy w3 (some wr.heap.size) := hgrow3
          have HB2 : Hid (Below w.heap.size w w3) := Below.grown (HB.out.alloc hsz _) hgrow4 (by simp; omega) (fun j hj => by injection hj with hj; rw [← hj]; exact hsz)
          clear hgrow3 hgrow4 hnil3 hown' own1 hnews hnl
          go_roundw
          case rel => exact ⟨m / 10, k + 1, g', cap', _, Nat.le_trans (Nat.div_le_self _ _) hm, rfl, rfl, by rw [HK.out]; rfl, dec_step HR.out (.inr (by omega)), hO2, HB2.out⟩
          case measure =>
            simp only [Go.RowKit.intOf, lenV]
            omega
    · have hm0 : m = 0 := by omega
      have hk0 : 0 < k := by omega
      subst hm0
      have hne : out ≠ [] := by intro e; rw [e] at hk; simp at hk; omega
      have hend := dec_end hR hne
      have own1 : (wr.alloc (.cells #[.int .u8 45] 5)).ownsRow w.heap.size 5 1 (.slice (some ⟨wr.heap.size, 0, none⟩) 1 1) 1 [.int .u8 45] :=
        World.ownsRow_lit (base := w.heap.size) wr #[.int .u8 45] 1 hsz (by unfold maxLen; omega) rfl
      have hnews : ∀ j u', (byteCells out)[j]? = some u' → (wr.alloc (.cells #[.int .u8 45] 5)).cell? ((⟨g, 0, none⟩ : Addr).add j) = some u' :=
        World.ownsRow.cells (World.ownsRow.alloc hO _) rfl
      have hnl : (byteCells out).length = k * 1 := by rw [byteCells_length, hk, Nat.mul_one]
      have HE := Frame.hid hend
      have HB := Frame.hid hB
      have HK := Frame.hid hk
      clear hc hR hO hB hend hk hne
      go_wp2_with (at_builtin; refine wpList_append_own _ rfl _ _ 51 rfl w.heap.size 5 i0 (.int .u8 0) 1 1 Tryd.underlying51 hi hz0 hz1 hz2 rfl (by decide) _ _ _ rfl own1 ⟨g, 0, none⟩ k cap (byteCells out) rfl hnl hnews (bytes_one out) (by unfold maxLen; omega) (by omega) (by simp; omega) ?_; intro v' w3 hown' hgrow3 hnil3; obtain ⟨g', cap', rfl, hO2⟩ := own_cons' (b := 45) HK.out rfl hown'; refine Hid.out ?_)
      refine Frame.hid ?_
      have hgrow4 : (wr.alloc (.cells #[.int .u8 45] 5)).grownBy w3 (some wr.heap.size) := hgrow3
      have HB2 : Hid (Below w.heap.size w w3) := Below.grown (HB.out.alloc hsz _) hgrow4 (by simp; omega) (fun j hj => by injection hj with hj; rw [← hj]; exact hsz)
      have hcv := run_convert_bytes_back (P := Tryd.prog) w3 51 9 5 ⟨g', 0, none⟩ cap' (45 :: out) Tryd.underlying51 Tryd.underlying5 Tryd.underlying9 (fun j hj => World.ownsRow.cells hO2 (g := g') rfl j _ (by simp only [byteCells, List.getElem?_map, List.getElem?_eq_getElem hj, Option.map_some]))
      rw [List.length_cons, ← HK.out] at hcv
      clear hgrow3 hgrow4 hnil3 hown' own1 hnews hnl hO2
      go_wp2
      go_ret
      exact ⟨by rw [itoa_neg u hu0, HE.out]; rfl, HB2.out⟩

end Go.Proofs.YtnhpiebddelebabDoor
