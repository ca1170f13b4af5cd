/-
  Cutting lists of spots: the specification's cutting.
-/
import Derived.Test.YtddbojpkmgmjmaaH5
namespace Go.Proofs.Ytddbojpkmgmjmaa
open Go.RowKit Fl Go.WideShapes Go.Deep
attribute [local go_sem] kstore_f kalloc_drewN kset_drewN hstore_i hstore_s

def sliceLen : Value → Nat
  | .slice _ n _ => n
  | _ => 0

set_option maxRecDepth 100000 in
set_option maxHeartbeats 4000000 in
theorem l04Cut_calls (A : Option Addr) (xs : List (Nat × Nat × Nat)) (m c t n : Nat) (hxm : m = xs.length) (hn : n ≤ m) (hm : m ≤ 100000) (w : World) (hr : RdS w A xs) :
    Calls Try.prog 116 #[.slice A m c, .float .f32 t, .int .i64 n] w fun e w' => ∃ A' c' ys, e = .returned (.slice A' n c') ∧ ys.length = n ∧ CutR t (m - n) xs ys ∧ RdS w' A' ys ∧ Below w.heap.size w w' := by
  have HX := Frame.hid hxm
  have HR := Frame.hid hr
  clear hxm hr
  go_enter Try.func116, Try.ntmps116
  go_wp2_with fail
  go_loopw [0] (fun v wr => ∃ k A' c' ys, k ≤ m - n ∧ v = .slice A' (m - k) c' ∧ ys.length = m - k ∧ CutR t k xs ys ∧ RdS wr A' ys ∧ Below w.heap.size w wr) (fun v _ => sliceLen v)
  case atStart => exact ⟨0, A, c, xs, Nat.zero_le _, rfl, HX.out.symm, rfl, HR.out, Below.refl _ _⟩
  case round =>
    obtain ⟨k, A', c', ys, hk, rfl, hl, hC, hR, hB⟩ := hrel
    have HC := Frame.hid hC
    have HR' := Frame.hid hR
    have HB := Frame.hid hB
    have HL := Frame.hid hl
    clear hC hR hB hl
    by_cases hlt : k < m - n
    · obtain ⟨L, hL⟩ : ∃ L, L = m - k := ⟨_, rfl⟩
      have hgt : n < L := by omega
      rw [← hL]
      have HLL := Frame.hid hL
      clear hL
      go_wp2_with fail
      refine (l04Next_calls A' ys L c' t (by rw [HL.out, HLL.out]) (by have := HLL.out; omega) wr HR'.out).mono ?_
      rintro e w2 ⟨v2, zs, rfl, hN, hO2, hB2⟩
      obtain ⟨A2, c2, rfl, hR2⟩ := hO2.rd
      have hzl : zs.length = m - (k + 1) := by rw [hN.1, HL.out]; omega
      rw [hzl]
      have HN := Frame.hid hN
      have HR2 := Frame.hid hR2
      have HB2 := Frame.hid (HB.out.trans (hB2.mono HB.out.size))
      have HZ := Frame.hid hzl
      clear hN hO2 hB2 hR2 hzl
      go_wp2_with fail
      go_roundw
      case rel => exact ⟨k + 1, A2, c2, zs, by omega, rfl, HZ.out, ⟨ys, HC.out, HN.out⟩, HR2.out, HB2.out⟩
      case measure => have := HLL.out; simp [sliceLen]; omega
    · have hkn : k = m - n := by omega
      have hmk : m - k = n := by omega
      rw [hmk]
      have HMK := Frame.hid hmk
      have HKN := Frame.hid hkn
      have hle : ¬ ((n : Int) > (n : Int)) := by omega
      clear hmk hkn
      go_wp2_with fail
      go_ret
      exact ⟨A', ⟨c', rfl⟩, ys, by rw [HL.out, HMK.out], by rw [← HKN.out]; exact HC.out, HR'.out, HB.out⟩

end Go.Proofs.Ytddbojpkmgmjmaa
