/-
  slices.Chunk of integers, three by three: what it hands to its loop.
-/
import Derived.Test.YtfkdkdocbecjmaaJg
import Derived.Test.YtfkdkdocbecjmaaZi
namespace Go.Proofs.Ytfkdkdocbecjmaa
open Go.RowKit Go.Shelf Fl Ieee
attribute [local go_sem] Oper.semAt_some

def encCh (b : Nat) {m : Nat} (x : Fin m) : Array Value := #[.slice (some ⟨b, 3 * x.val, none⟩) 3 3]
theorem grown_drew (W : World) : W.grownBy W.drew none := ⟨rfl, rfl, rfl, Nat.le_refl _, fun _ _ _ => rfl⟩

set_option maxRecDepth 100000 in
set_option maxHeartbeats 2000000 in
theorem chunk1_in (F : Fence) (hFF : ∀ f, F.fn f) (n : Nat) (hro : F.round = none) (hn : 1 ≤ n) (l Bs Bn b c m L : Nat) (hL : L = 3 * m) (hm : m ≤ 1000) (hc : L ≤ c) (J Jx : List (Fin m) → World → Prop)
    (hJs : ∀ s W W', J s W → W.grownBy W' none → J s W')
    (hY : ∀ pre x W, J pre W → pre.length < m → YieldAt F (n - 1) Try.prog l (encCh b x) W fun e W' => (e = .returned (.bool true) ∧ J (pre ++ [x]) W' ∧ (W'.cell? ⟨Bs, 0, none⟩ = some (.slice (some ⟨b, 0, none⟩) L c) ∧ W'.cell? ⟨Bn, 0, none⟩ = some (.int .i64 3))) ∨ (e = .returned (.bool false) ∧ Jx (pre ++ [x]) W'))
    (W : World) (hBs : W.cell? ⟨Bs, 0, none⟩ = some (.slice (some ⟨b, 0, none⟩) L c)) (hBn : W.cell? ⟨Bn, 0, none⟩ = some (.int .i64 3)) (h0 : J [] W) :
    CallsIn F n Try.prog 92 #[.func (.yield l) #[] #[], .pointer (some ⟨Bs, 0, none⟩), .pointer (some ⟨Bn, 0, none⟩)] W fun e W' => (∃ v, e = .returned v) ∧
      ((∃ ys, ys = List.finRange m ∧ J ys W') ∨ (∃ pre, (∃ k, k ≤ m ∧ pre = upTo m k) ∧ Jx pre W')) := by
  have HLM := Frame.hid hL
  have hL3 : L ≤ 3000 := by omega
  clear hL
  refine callsIn_of_wp Try.func92 rfl (hFF _) ?_ hro
  simp only [Try.ntmps92, List.size_toArray, List.length_cons, List.length_nil, Nat.reduceAdd, Nat.reduceSub, Array.replicate_succ, Array.replicate_zero, List.push_toArray, List.append_toArray, List.nil_append, List.cons_append]
  gi_wp2
  gi_loopw [4] (fun p wr => ∃ k : Nat, k ≤ m ∧ p = .int .i64 ((3 * k : Nat) : Int) ∧ J (upTo m k) wr ∧ wr.cell? ⟨Bs, 0, none⟩ = some (.slice (some ⟨b, 0, none⟩) L c) ∧ wr.cell? ⟨Bn, 0, none⟩ = some (.int .i64 3)) (fun p _ => L - (intOf p).toNat)
  case atStart => exact ⟨0, Nat.zero_le _, rfl, h0, hBs, hBn⟩
  case round =>
    obtain ⟨k, hk, rfl, hJk, cs, cn⟩ := hrel
    by_cases hlt : k < m
    · have hl3 : ((3 * k : Nat) : Int) < (L : Int) := by have := HLM.out; omega
      obtain ⟨q, hq⟩ : ∃ q, q = 3 * k := ⟨_, rfl⟩
      have hJd := hJs _ _ _ hJk (grown_drew wr)
      obtain ⟨fn, tmps, assign, body, hy, hR⟩ := hY (upTo m k) ⟨k, hlt⟩ wr.drew hJd (by rw [upTo_len hk]; exact hlt)
      unfold encCh at hy
      dsimp only at hy
      rw [← hq] at hl3 hy ⊢
      have hqL : q + 3 ≤ L := by have := HLM.out; omega
      have HQ := Frame.hid hq
      have HJK := Frame.hid hJk
      clear hq hJk hJd
      gi_wp2
      have hq0 : (0 : Int) ≤ (q : Int) := by omega
      have hq1 : (q : Int) ≤ (L : Int) := by omega
      have hq2 : (L : Int) ≤ (c : Int) := by omega
      have hmin : ¬ (((L - q : Nat) : Int) < 3) := by omega
      have hmin2 : ¬ ((L : Int) - (q : Int) < 3) := by omega
      have hS0 : wr.drew.cell? ⟨Bs, 0, none⟩ = some (.slice (some ⟨b, 0, none⟩) L c) ∧ wr.drew.cell? ⟨Bn, 0, none⟩ = some (.int .i64 3) := ⟨cs, cn⟩
      refine region_handI 6 (fun W => W.cell? ⟨Bs, 0, none⟩ = some (.slice (some ⟨b, 0, none⟩) L c) ∧ W.cell? ⟨Bn, 0, none⟩ = some (.int .i64 3)) (by kernel_rfl) ?_
      refine' wpEndI_take hFF 0 rfl (by kernel_rfl) hS0 (Or.inl ⟨by rfl, fun wq hSq => _⟩) _
      rotate_left
      · (obtain ⟨q0, q1⟩ := hSq; go_simp; (try with_reducible rfl))
      simp only [Act.put, List.setIfInBounds_toArray, List.set_cons_zero, List.set_cons_succ]
      refine' wpEndI_take hFF 1 rfl (by kernel_rfl) hS0 (Or.inl ⟨by rfl, fun wq hSq => _⟩) _
      rotate_left
      · (obtain ⟨q0, q1⟩ := hSq; go_simp; (try with_reducible rfl))
      simp only [Act.put, List.setIfInBounds_toArray, List.set_cons_zero, List.set_cons_succ]
      refine' wpEndI_take hFF 2 rfl (by kernel_rfl) hS0 (Or.inl ⟨by rfl, fun wq hSq => _⟩) _
      rotate_left
      · (obtain ⟨q0, q1⟩ := hSq; go_simp; (try with_reducible rfl))
      simp only [Act.put, List.setIfInBounds_toArray, List.set_cons_zero, List.set_cons_succ]
      refine' wpEndI_take hFF 3 rfl (by kernel_rfl) hS0 (Or.inl ⟨by rfl, fun wq hSq => _⟩) _
      rotate_left
      · (obtain ⟨q0, q1⟩ := hSq; go_simp; (try with_reducible rfl))
      simp only [Act.put, List.setIfInBounds_toArray, List.set_cons_zero, List.set_cons_succ]
      refine' wpEndI_take hFF 4 rfl (by kernel_rfl) hS0 (Or.inl ⟨by rfl, fun wq hSq => _⟩) _
      rotate_left
      · (obtain ⟨q0, q1⟩ := hSq; go_simp; (try with_reducible rfl))
      simp only [Act.put, List.setIfInBounds_toArray, List.set_cons_zero, List.set_cons_succ]
      refine' wpEndI_take hFF 5 rfl (by kernel_rfl) hS0 (Or.inl ⟨by rfl, fun wq hSq => _⟩) _
      rotate_left
      · (obtain ⟨q0, q1⟩ := hSq; go_simp; (try with_reducible rfl))
      simp only [Act.put, List.setIfInBounds_toArray, List.set_cons_zero, List.set_cons_succ]
      refine wpEndI_ready [6] (by kernel_rfl) rfl (AllI.cons rfl (fun K hK => ?_) AllI.nil)
      gi_wp2
      refine hK.out _ _ (by first | exact .inl rfl | exact .inl trivial) ?_
      clear hK K
      refine wpEndI_done (by kernel_rfl) ?_
      have hq3 : (q : Int) + 3 ≤ (c : Int) := by omega
      have hq4 : (q : Int) ≤ (q : Int) + 3 := by omega
      have hq5 : (q : Int) + 3 ≤ (L : Int) := by omega
      have hq6 : ((q : Int) + 3).toNat = q + 3 := by omega
      have hq7 : q + 3 - q = 3 := by omega
      have cs' : wr.drew.cell? ⟨Bs, 0, none⟩ = some (.slice (some ⟨b, 0, none⟩) L c) := cs
      have cn' : wr.drew.cell? ⟨Bn, 0, none⟩ = some (.int .i64 3) := cn
      gi_wp2
      refine hR.mono ?_
      rintro e W3 (⟨rfl, hJ3, d0, d1⟩ | ⟨rfl, hJx3⟩)
      · gi_wp2
        go_roundw
        case rel => exact ⟨k + 1, by omega, by have := HQ.out; go_num, by rw [upTo_succ hlt]; exact hJ3, d0, d1⟩
        case measure => simp [intOf]; omega
      · gi_wp2
        refine bodyPost_ret (results_none rfl _ _ _) rfl ?_
        exact ⟨⟨_, rfl⟩, .inr ⟨_, ⟨k + 1, by omega, (upTo_succ hlt).symm⟩, hJx3⟩⟩
    · have hkm : k = m := by omega
      subst hkm
      have hl3 : ¬ (((3 * k : Nat) : Int) < (L : Int)) := by have := HLM.out; omega
      gi_wp2
      go_end0
      exact ⟨⟨_, rfl⟩, .inl (by rw [← upTo_all k]; exact hJk)⟩

set_option maxRecDepth 100000 in
set_option maxHeartbeats 1000000 in
theorem chunk_in (F : Fence) (hFF : ∀ f, F.fn f) (n : Nat) (hro : F.round = none) (b L c : Nat) (w : World) :
    CallsIn F n Try.prog 77 #[.slice (some ⟨b, 0, none⟩) L c, .int .i64 3] w fun e w' => e = .returned (.func (.func 92) #[] #[.pointer (some ⟨w.heap.size, 0, none⟩), .pointer (some ⟨w.heap.size + 1, 0, none⟩)]) ∧ w' = (w.alloc (.cells #[.slice (some ⟨b, 0, none⟩) L c] 66)).alloc (.cells #[.int .i64 3] 3) := by
  refine callsIn_of_wp Try.func77 rfl (hFF _) ?_ hro
  simp only [Try.ntmps77, List.size_toArray, List.length_cons, List.length_nil, Nat.reduceAdd, Nat.reduceSub, Array.replicate_succ, Array.replicate_zero, List.push_toArray, List.append_toArray, List.nil_append, List.cons_append]
  gi_wp2
  go_ret
  exact ⟨rfl, rfl⟩

theorem chunk_stops (F : Fence) (hFF : ∀ f, F.fn f) (n : Nat) (hro : F.round = none) (hn : 1 ≤ n) (Bs Bn b c m L : Nat) (hL : L = 3 * m) (hm : m ≤ 1000) (hc : L ≤ c) (w : World) (hBs : w.cell? ⟨Bs, 0, none⟩ = some (.slice (some ⟨b, 0, none⟩) L c)) (hBn : w.cell? ⟨Bn, 0, none⟩ = some (.int .i64 3)) :
    SeqStopsK F n Try.prog 92 #[.pointer (some ⟨Bs, 0, none⟩), .pointer (some ⟨Bn, 0, none⟩)] (fun x : Fin m => encCh b x) (fun A B => (A.cell? ⟨Bs, 0, none⟩ = some (.slice (some ⟨b, 0, none⟩) L c) → B.cell? ⟨Bs, 0, none⟩ = some (.slice (some ⟨b, 0, none⟩) L c)) ∧ (A.cell? ⟨Bn, 0, none⟩ = some (.int .i64 3) → B.cell? ⟨Bn, 0, none⟩ = some (.int .i64 3))) (fun ys => ys = List.finRange m) (fun pre => ∃ k, k ≤ m ∧ pre = upTo m k) m w := fun l J Jx W hW hJ _ hY h0 => by
  have b0 := World.block_lt_of_cell? w _ hBs
  have b1 := World.block_lt_of_cell? w _ hBn
  refine (chunk1_in F hFF n hro hn l Bs Bn b c m L hL hm hc (fun s W => J s W ∧ W.cell? ⟨Bs, 0, none⟩ = some (.slice (some ⟨b, 0, none⟩) L c) ∧ W.cell? ⟨Bn, 0, none⟩ = some (.int .i64 3)) Jx (fun s W W' h hg => ⟨hJ s W W' none h.1 hg (fun r e => by cases e), cell_kept h.2.1 hg (fun r e => by cases e), cell_kept h.2.2 hg (fun r e => by cases e)⟩)
    (fun pre x W h hlt => ?_) W ((hW.cell b0).trans hBs) ((hW.cell b1).trans hBn) ⟨h0, (hW.cell b0).trans hBs, (hW.cell b1).trans hBn⟩).mono ?_
  · obtain ⟨fn, tmps, assign, body, hy, hR⟩ := hY pre x W h.1 hlt
    refine ⟨fn, tmps, assign, body, hy, hR.mono fun e W' hh => ?_⟩
    rcases hh with ⟨h1, h2, h3⟩ | hh
    · exact .inl ⟨h1, ⟨h2, h3.1 h.2.1, h3.2 h.2.2⟩, h3.1 h.2.1, h3.2 h.2.2⟩
    · exact .inr hh
  · rintro e W' ⟨h1, ⟨ys, h2, h3⟩ | h2⟩
    · exact ⟨h1, .inl ⟨ys, h2, h3.1⟩⟩
    · exact ⟨h1, .inr h2⟩

end Go.Proofs.Ytfkdkdocbecjmaa
