/-
  slices.Backward over a slice of rows of bends: what it hands to its loop.
-/
import Derived.Test.YtfkdkdocbecjmaaJg
namespace Go.Proofs.Ytfkdkdocbecjmaa
open Go.RowKit Go.Shelf Fl Ieee
attribute [local go_sem] Oper.semAt_some

def encBackB (xs : List Nat) {m : Nat} (x : Fin m) : Array Value := #[.int .i64 ((m : Int) - 1 - (x.val : Int)), .agg #[.float .f32 (xs.getD ((m - 1 - x.val) * 4) 0), .float .f32 (xs.getD ((m - 1 - x.val) * 4 + 1) 0), .float .f32 (xs.getD ((m - 1 - x.val) * 4 + 2) 0), .float .f32 (xs.getD ((m - 1 - x.val) * 4 + 3) 0)]]
/-- The two blocks that the walk reads stay. -/
def KpR (Bs b : Nat) (A B : World) : Prop := (∀ i, B.cell? ⟨Bs, i, none⟩ = A.cell? ⟨Bs, i, none⟩) ∧ (∀ i, B.cell? ⟨b, i, none⟩ = A.cell? ⟨b, i, none⟩)

set_option maxRecDepth 100000 in
set_option maxHeartbeats 1000000 in
theorem backB1_in (F : Fence) (n : Nat) (hF : F.fn 97) (hro : F.round = none) (hn : 1 ≤ n) (l Bs b off m c : Nat) (A : Option Addr) (hA : 0 < m → A = some ⟨b, off, none⟩) (hm : m ≤ 1000) (xs : List Nat) (J Jx : List (Fin m) → World → Prop)
    (hY : ∀ pre x W, J pre W → pre.length < m → YieldAt F (n - 1) Try.prog l (encBackB xs x) W fun e W' => (e = .returned (.bool true) ∧ J (pre ++ [x]) W' ∧ KpR Bs b W W') ∨ (e = .returned (.bool false) ∧ Jx (pre ++ [x]) W'))
    (W : World) (hBs : W.cell? ⟨Bs, 0, none⟩ = some (.slice A m c)) (hxs : ∀ j, j < m * 4 → W.cell? ⟨b, off + j, none⟩ = some (.float .f32 (xs.getD j 0))) (h0 : J [] W) :
    CallsIn F n Try.prog 97 #[.func (.yield l) #[] #[], .pointer (some ⟨Bs, 0, none⟩)] W fun e W' => (∃ v, e = .returned v) ∧
      ((∃ ys, ys = List.finRange m ∧ J ys W') ∨ (∃ pre, (∃ k, k ≤ m ∧ pre = upTo m k) ∧ Jx pre W')) := by
  refine callsIn_of_wp Try.func97 rfl hF ?_ hro
  simp only [Try.ntmps97, List.size_toArray, List.length_cons, List.length_nil, Nat.reduceAdd, Nat.reduceSub, Array.replicate_succ, Array.replicate_zero, List.push_toArray, List.append_toArray, List.nil_append, List.cons_append]
  have HXS := Frame.hid hxs
  clear hxs
  have hBX := hBs
  gi_wp2
  clear hBs
  gi_loopw [3] (fun p wr => ∃ (k : Nat) (z : Int), k ≤ m ∧ z = (m : Int) - 1 - (k : Int) ∧ p = .int .i64 z ∧ J (upTo m k) wr ∧ wr.cell? ⟨Bs, 0, none⟩ = some (.slice A m c) ∧ (∀ j, j < m * 4 → wr.cell? ⟨b, off + j, none⟩ = some (.float .f32 (xs.getD j 0)))) (fun p _ => (intOf p + 1).toNat)
  case atStart => exact ⟨0, _, Nat.zero_le _, by omega, rfl, h0, hBX, HXS.out⟩
  case round =>
    obtain ⟨k, z, hk, hz, rfl, hJs, hB1, hX1⟩ := hrel
    by_cases hlt : k < m
    · obtain ⟨q, hq⟩ : ∃ q, q + k + 1 = m := ⟨m - 1 - k, by omega⟩
      have hzq : z = (q : Int) := by omega
      subst hzq
      obtain ⟨fn, tmps, assign, body, hy, hR⟩ := hY (upTo m k) ⟨k, hlt⟩ wr hJs (by rw [upTo_len hk]; exact hlt)
      have e1 : (m : Int) - 1 - ((⟨k, hlt⟩ : Fin m).val : Int) = (q : Int) := by show (m : Int) - 1 - (k : Int) = _; omega
      have e2 : m - 1 - (⟨k, hlt⟩ : Fin m).val = q := by show m - 1 - k = q; omega
      unfold encBackB at hy
      rw [e1, e2] at hy
      have c0 := hX1 (q * 4) (by omega)
      have c1 := hX1 (q * 4 + 1) (by omega)
      have c2 := hX1 (q * 4 + 2) (by omega)
      have c3 := hX1 (q * 4 + 3) (by omega)
      rw [← Nat.add_assoc] at c1 c2 c3
      generalize xs.getD (q * 4) 0 = x0 at hy c0
      generalize xs.getD (q * 4 + 1) 0 = x1 at hy c1
      generalize xs.getD (q * 4 + 2) 0 = x2 at hy c2
      generalize xs.getD (q * 4 + 3) 0 = x3 at hy c3
      have HX1 := Frame.hid hX1
      have HB1 := Frame.hid hB1
      have hqm : (q : Int) < (m : Int) := by omega
      have HQ := Frame.hid hq
      clear hX1 hB1 e1 e2 hz hq
      have hB1 := HB1.out
      rw [hA (by omega)] at hB1
      gi_wp2
      refine hR.mono ?_
      rintro e W3 (⟨rfl, hJ3, hk3⟩ | ⟨rfl, hJx3⟩)
      · gi_wp2
        go_roundw
        case rel => exact ⟨k + 1, _, by omega, by have := HQ.out; omega, rfl, by rw [upTo_succ hlt]; exact hJ3, (hk3.1 0).trans HB1.out, fun j hj => (hk3.2 _).trans (HX1.out j hj)⟩
        case measure => simp [intOf]
      · gi_wp2
        refine bodyPost_ret (results_none rfl _ _ _) rfl ?_
        exact ⟨⟨_, rfl⟩, .inr ⟨_, ⟨k + 1, by omega, (upTo_succ hlt).symm⟩, hJx3⟩⟩
    · have hkm : k = m := by omega
      subst hkm
      have hz1 : z = -1 := by omega
      subst hz1
      gi_wp2
      go_end0
      exact ⟨⟨_, rfl⟩, .inl ⟨_, upTo_all k, hJs⟩⟩

set_option maxHeartbeats 1000000 in
theorem backB_in (F : Fence) (n : Nat) (hF : F.fn 85) (hro : F.round = none) (A : Option Addr) (m c : Nat) (w : World) :
    CallsIn F n Try.prog 85 #[.slice A m c] w fun e w' => e = .returned (.func (.func 97) #[] #[.pointer (some ⟨w.heap.size, 0, none⟩)]) ∧ w' = w.alloc (.cells #[.slice A m c] 86) := by
  refine callsIn_of_wp Try.func85 rfl hF ?_ hro
  simp only [Try.ntmps85, List.size_toArray, List.length_cons, List.length_nil, Nat.reduceAdd, Nat.reduceSub, Array.replicate_succ, Array.replicate_zero, List.push_toArray, List.append_toArray, List.nil_append, List.cons_append]
  gi_wp2
  go_ret
  exact ⟨rfl, rfl⟩

theorem backB_stops (F : Fence) (n : Nat) (hF : F.fn 97) (hro : F.round = none) (hn : 1 ≤ n) (Bs b off m c : Nat) (A : Option Addr) (hA : 0 < m → A = some ⟨b, off, none⟩) (hm : m ≤ 1000) (xs : List Nat) (w : World) (hBl : Bs < w.heap.size) (hbl : 0 < m → b < w.heap.size)
    (hBs : w.cell? ⟨Bs, 0, none⟩ = some (.slice A m c)) (hxs : ∀ j, j < m * 4 → w.cell? ⟨b, off + j, none⟩ = some (.float .f32 (xs.getD j 0))) :
    SeqStopsK F n Try.prog 97 #[.pointer (some ⟨Bs, 0, none⟩)] (fun x : Fin m => encBackB xs x) (KpR Bs b) (fun ys => ys = List.finRange m) (fun pre => ∃ k, k ≤ m ∧ pre = upTo m k) m w := fun l J Jx W hW _ _ hY h0 =>
  backB1_in F n hF hro hn l Bs b off m c A hA hm xs J Jx hY W ((hW.cell (p := ⟨Bs, 0, none⟩) hBl).trans hBs) (fun j hj => (hW.cell (p := ⟨b, off + j, none⟩) (hbl (by omega))).trans (hxs j hj)) h0

end Go.Proofs.Ytfkdkdocbecjmaa
