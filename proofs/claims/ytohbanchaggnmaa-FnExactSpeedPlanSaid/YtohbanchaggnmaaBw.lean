/-
  slices.Backward over a slice of 32-bit numbers: what it hands to its loop.
-/
import Derived.Test.YtohbanchaggnmaaJg
namespace Go.Proofs.Ytohbanchaggnmaa
open Go.RowKit Go.Shelf Fl Ieee
attribute [local go_sem] Oper.semAt_some

def encBack (xs : List Nat) {m : Nat} (x : Fin m) : Array Value := #[.int .i64 ((m : Int) - 1 - (x.val : Int)), .float .f32 (xs.getD (m - 1 - x.val) 0)]
/-- The two blocks that the walk reads stay. -/
def KpB (Bs b : Nat) (A B : World) : Prop := (∀ i, B.cell? ⟨Bs, i, none⟩ = A.cell? ⟨Bs, i, none⟩) ∧ (∀ i, B.cell? ⟨b, i, none⟩ = A.cell? ⟨b, i, none⟩)

set_option maxRecDepth 100000 in
set_option maxHeartbeats 1000000 in
theorem back1_in (F : Fence) (n : Nat) (hF : F.fn 154) (hro : F.round = none) (hn : 1 ≤ n) (l Bs b off m c : Nat) (hm : m ≤ 1000) (xs : List Nat) (J Jx : List (Fin m) → World → Prop)
    (hY : ∀ pre x W, J pre W → pre.length < m → YieldAt F (n - 1) Try.prog l (encBack xs x) W fun e W' => (e = .returned (.bool true) ∧ J (pre ++ [x]) W' ∧ KpB Bs b W W') ∨ (e = .returned (.bool false) ∧ Jx (pre ++ [x]) W'))
    (W : World) (hBs : W.cell? ⟨Bs, 0, none⟩ = some (.slice (some ⟨b, off, none⟩) m c)) (hxs : ∀ j, j < m → W.cell? ⟨b, off + j, none⟩ = some (.float .f32 (xs.getD j 0))) (h0 : J [] W) :
    CallsIn F n Try.prog 154 #[.func (.yield l) #[] #[], .pointer (some ⟨Bs, 0, none⟩)] W fun e W' => (∃ v, e = .returned v) ∧
      ((∃ ys, ys = List.finRange m ∧ J ys W') ∨ (∃ pre, (∃ k, k ≤ m ∧ pre = upTo m k) ∧ Jx pre W')) := by
  refine callsIn_of_wp Try.func154 rfl hF ?_ hro
  simp only [Try.ntmps154, List.size_toArray, List.length_cons, List.length_nil, Nat.reduceAdd, Nat.reduceSub, Array.replicate_succ, Array.replicate_zero, List.push_toArray, List.append_toArray, List.nil_append, List.cons_append]
  have HXS := Frame.hid hxs
  clear hxs
  have hBX := hBs
  gi_wp2
  clear hBs
  gi_loopw [3] (fun p wr => ∃ (k : Nat) (z : Int), k ≤ m ∧ z = (m : Int) - 1 - (k : Int) ∧ p = .int .i64 z ∧ J (upTo m k) wr ∧ wr.cell? ⟨Bs, 0, none⟩ = some (.slice (some ⟨b, off, none⟩) m c) ∧ (∀ j, j < m → wr.cell? ⟨b, off + j, none⟩ = some (.float .f32 (xs.getD j 0)))) (fun p _ => (intOf p + 1).toNat)
  case atStart => exact ⟨0, _, Nat.zero_le _, by omega, rfl, h0, hBX, HXS.out⟩
  case round =>
    obtain ⟨k, z, hk, hz, rfl, hJs, hB1, hX1⟩ := hrel
    by_cases hlt : k < m
    · obtain ⟨q, hq⟩ : ∃ q, q + k + 1 = m := ⟨m - 1 - k, by omega⟩
      have hzq : z = (q : Int) := by omega
      subst hzq
      obtain ⟨fn, tmps, assign, body, hy, hR⟩ := hY (upTo m k) ⟨k, hlt⟩ wr hJs (by rw [upTo_len hk]; exact hlt)
      have e1 : (m : Int) - 1 - ((⟨k, hlt⟩ : Fin m).val : Int) = (q : Int) := by show (m : Int) - 1 - (k : Int) = _; omega
      have e2 : m - 1 - (⟨k, hlt⟩ : Fin m).val = q := by show m - 1 - k = q; omega
      unfold encBack at hy
      rw [e1, e2] at hy
      have c1 := hX1 q (by omega)
      generalize xs.getD q 0 = x at hy c1
      have HX1 := Frame.hid hX1
      have HB1 := Frame.hid hB1
      have hqm : (q : Int) < (m : Int) := by omega
      have HQ := Frame.hid hq
      clear hX1 hB1 e1 e2 hz hq
      have hB1 := HB1.out
      gi_wp2
      refine hR.mono ?_
      rintro e W3 (⟨rfl, hJ3, hk3⟩ | ⟨rfl, hJx3⟩)
      · gi_wp2
        go_roundw
        case rel => exact ⟨k + 1, _, by omega, by have := HQ.out; omega, rfl, by rw [upTo_succ hlt]; exact hJ3, (hk3.1 0).trans HB1.out, fun j hj => (hk3.2 _).trans (HX1.out j hj)⟩
        case measure => simp [intOf]
      · gi_wp2
        refine bodyPost_ret (results_none rfl _ _ _) rfl ?_
        exact ⟨⟨_, rfl⟩, .inr ⟨_, ⟨k + 1, by omega, (upTo_succ hlt).symm⟩, hJx3⟩⟩
    · have hkm : k = m := by omega
      subst hkm
      have hz1 : z = -1 := by omega
      subst hz1
      gi_wp2
      go_end0
      exact ⟨⟨_, rfl⟩, .inl ⟨_, upTo_all k, hJs⟩⟩

set_option maxHeartbeats 1000000 in
theorem back_in (F : Fence) (n : Nat) (hF : F.fn 115) (hro : F.round = none) (A : Option Addr) (m c : Nat) (w : World) :
    CallsIn F n Try.prog 115 #[.slice A m c] w fun e w' => e = .returned (.func (.func 154) #[] #[.pointer (some ⟨w.heap.size, 0, none⟩)]) ∧ w' = w.alloc (.cells #[.slice A m c] 64) := by
  refine callsIn_of_wp Try.func115 rfl hF ?_ hro
  simp only [Try.ntmps115, List.size_toArray, List.length_cons, List.length_nil, Nat.reduceAdd, Nat.reduceSub, Array.replicate_succ, Array.replicate_zero, List.push_toArray, List.append_toArray, List.nil_append, List.cons_append]
  gi_wp2
  go_ret
  exact ⟨rfl, rfl⟩

theorem back_stops (F : Fence) (n : Nat) (hF : F.fn 154) (hro : F.round = none) (hn : 1 ≤ n) (Bs b off m c : Nat) (hm : m ≤ 1000) (xs : List Nat) (w : World) (hBl : Bs < w.heap.size) (hbl : b < w.heap.size)
    (hBs : w.cell? ⟨Bs, 0, none⟩ = some (.slice (some ⟨b, off, none⟩) m c)) (hxs : ∀ j, j < m → w.cell? ⟨b, off + j, none⟩ = some (.float .f32 (xs.getD j 0))) :
    SeqStopsK F n Try.prog 154 #[.pointer (some ⟨Bs, 0, none⟩)] (fun x : Fin m => encBack xs x) (KpB Bs b) (fun ys => ys = List.finRange m) (fun pre => ∃ k, k ≤ m ∧ pre = upTo m k) m w := fun l J Jx W hW _ _ hY h0 =>
  back1_in F n hF hro hn l Bs b off m c hm xs J Jx hY W ((hW.cell (p := ⟨Bs, 0, none⟩) hBl).trans hBs) (fun j hj => (hW.cell (p := ⟨b, off + j, none⟩) hbl).trans (hxs j hj)) h0

end Go.Proofs.Ytohbanchaggnmaa
