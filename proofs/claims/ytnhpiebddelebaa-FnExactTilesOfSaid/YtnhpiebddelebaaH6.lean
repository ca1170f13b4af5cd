/-
  Cutting lists of spots: the specification's cutting.
-/
import Derived.Test.YtnhpiebddelebaaH5
namespace Go.Proofs.Ytnhpiebddelebaa
open Go.RowKit Fl Go.WideShapes Go.Deep
attribute [local go_sem] kstore_f kalloc_drewN kset_drewN hstore_i hstore_s

def sliceLen : Value → Nat
  | .slice _ n _ => n
  | _ => 0

/-- A slice's block is new since w. -/
def NewB (w : World) (A : Option Addr) : Prop := ∀ b off, A = some ⟨b, off, none⟩ → w.heap.size ≤ b
theorem NewB.mono {w w' : World} {A : Option Addr} (h : NewB w' A) (hs : w.heap.size ≤ w'.heap.size) : NewB w A := fun b off e => Nat.le_trans hs (h b off e)
theorem OwnedS.rdF {w w0 : World} {v : Value} {xs : List (Nat × Nat × Nat)} (h : OwnedS w w0.heap.size v xs) : ∃ A c, v = .slice A xs.length c ∧ RdS w A xs ∧ NewB w0 A := by
  obtain ⟨A, c, rfl, hR⟩ := h.rd
  refine ⟨A, c, rfl, hR, fun b off e => ?_⟩
  subst e
  rcases h.2 with ⟨h0, _⟩ | ⟨g, cap, cur, e, hg, _⟩
  · injection h0 with h0; cases h0
  · injection e with e1
    injection e1 with e1
    injection e1 with e1
    omega

set_option maxRecDepth 100000 in
set_option maxHeartbeats 4000000 in
theorem l04CutF_calls (A : Option Addr) (xs : List (Nat × Nat × Nat)) (m c t n : Nat) (hxm : m = xs.length) (hn : n ≤ m) (hm : m ≤ 100000) (w : World) (hr : RdS w A xs) :
    Calls Try.prog 84 #[.slice A m c, .float .f32 t, .int .i64 n] w fun e w' => ∃ A' c' ys, e = .returned (.slice A' n c') ∧ ys.length = n ∧ CutR t (m - n) xs ys ∧ RdS w' A' ys ∧ Below w.heap.size w w' ∧ (A' = A ∨ NewB w A') := by
  have HX := Frame.hid hxm
  have HR := Frame.hid hr
  clear hxm hr
  go_enter Try.func84, Try.ntmps84
  go_wp2_with fail
  go_loopw [0] (fun v wr => ∃ k A' c' ys, k ≤ m - n ∧ v = .slice A' (m - k) c' ∧ ys.length = m - k ∧ CutR t k xs ys ∧ RdS wr A' ys ∧ Below w.heap.size w wr ∧ (A' = A ∨ NewB w A')) (fun v _ => sliceLen v)
  case atStart => exact ⟨0, A, c, xs, Nat.zero_le _, rfl, HX.out.symm, rfl, HR.out, Below.refl _ _, .inl rfl⟩
  case round =>
    obtain ⟨k, A', c', ys, hk, rfl, hl, hC, hR, hB, hNw⟩ := hrel
    have HC := Frame.hid hC
    have HR' := Frame.hid hR
    have HB := Frame.hid hB
    have HL := Frame.hid hl
    have HNW := Frame.hid hNw
    clear hC hR hB hl hNw
    by_cases hlt : k < m - n
    · obtain ⟨L, hL⟩ : ∃ L, L = m - k := ⟨_, rfl⟩
      have hgt : n < L := by omega
      rw [← hL]
      have HLL := Frame.hid hL
      clear hL
      go_wp2_with fail
      refine (l04Next_calls A' ys L c' t (by rw [HL.out, HLL.out]) (by have := HLL.out; omega) wr HR'.out).mono ?_
      rintro e w2 ⟨v2, zs, rfl, hN, hO2, hB2⟩
      obtain ⟨A2, c2, rfl, hR2, hF2⟩ := hO2.rdF
      have hzl : zs.length = m - (k + 1) := by rw [hN.1, HL.out]; omega
      rw [hzl]
      have HN := Frame.hid hN
      have HF2 := Frame.hid (hF2.mono HB.out.size)
      have HR2 := Frame.hid hR2
      have HB2 := Frame.hid (HB.out.trans (hB2.mono HB.out.size))
      have HZ := Frame.hid hzl
      clear hN hO2 hB2 hR2 hzl hF2
      go_wp2_with fail
      go_roundw
      case rel => exact ⟨k + 1, A2, c2, zs, by omega, rfl, HZ.out, ⟨ys, HC.out, HN.out⟩, HR2.out, HB2.out, .inr HF2.out⟩
      case measure => have := HLL.out; simp [sliceLen]; omega
    · have hkn : k = m - n := by omega
      have hmk : m - k = n := by omega
      rw [hmk]
      have HMK := Frame.hid hmk
      have HKN := Frame.hid hkn
      have hle : ¬ ((n : Int) > (n : Int)) := by omega
      clear hmk hkn
      go_wp2_with fail
      go_ret
      exact ⟨A', ⟨c', rfl⟩, ys, by rw [HL.out, HMK.out], by rw [← HKN.out]; exact HC.out, HR'.out, HB.out, HNW.out⟩

theorem l04Cut_calls (A : Option Addr) (xs : List (Nat × Nat × Nat)) (m c t n : Nat) (hxm : m = xs.length) (hn : n ≤ m) (hm : m ≤ 100000) (w : World) (hr : RdS w A xs) :
    Calls Try.prog 84 #[.slice A m c, .float .f32 t, .int .i64 n] w fun e w' => ∃ A' c' ys, e = .returned (.slice A' n c') ∧ ys.length = n ∧ CutR t (m - n) xs ys ∧ RdS w' A' ys ∧ Below w.heap.size w w' :=
  (l04CutF_calls A xs m c t n hxm hn hm w hr).mono fun _ _ ⟨A', c', ys, h1, h2, h3, h4, h5, _⟩ => ⟨A', c', ys, h1, h2, h3, h4, h5⟩

end Go.Proofs.Ytnhpiebddelebaa
