/-
  Lists of float32 that come in, as slices of the law's own; marks on them.
-/
import Derived.Test.YtfkdkdocbecjmaaEf
import Derived.Test.YtfkdkdocbecjmaaKq
import Derived.Test.YtfkdkdocbecjmaaSk
namespace Go.Proofs.Ytfkdkdocbecjmaa
open Go.RowKit Fl Ieee Go.WideShapes Go.Deep
attribute [local go_sem] run_store_f

set_option maxRecDepth 100000 in
set_option maxHeartbeats 1000000 in
theorem toFOwn_calls (A : Option Addr) (xs : List Nat) (c : Nat) (w : World) (hn : xs.length ≤ 1048576) (hr : RdF w A xs) :
    Calls Try.prog 21 #[.slice A xs.length c] w fun e w' => e = .returned (.slice (some ⟨w.heap.size, 0, none⟩) xs.length xs.length) ∧ OwnF w' w.heap.size (.slice (some ⟨w.heap.size, 0, none⟩) xs.length xs.length) xs ∧ Below w.heap.size w w' := by
  obtain ⟨i0, hi, hz0, hz1, hz2⟩ := info_parts Try.infoF
  have HR := Frame.hid hr
  clear hr
  obtain ⟨n, hxn⟩ : ∃ n, n = xs.length := ⟨_, rfl⟩
  rw [← hxn] at hn ⊢
  have HX := Frame.hid hxn
  clear hxn
  go_enter Try.func21, Try.ntmps21
  go_wp2_with (at_make; refine wpList_make_full _ rfl _ _ 44 rfl w.heap.size 25 i0 (.float .f32 0) 1 Try.underlying44 hi hz0 hz1 _ _ _ _ n rfl rfl rfl rfl ?c1 ?c2 ?c3 ?_)
  case c1 => rw [hz2]; omega
  case c2 => unfold maxLen; omega
  case c3 => simp
  intro w1 hown hgrow
  obtain ⟨g, hg⟩ : ∃ g, g = w.heap.size := ⟨_, rfl⟩
  have hblk : ∃ cs : Array Value, w1.heap[g]? = some (.cells cs 25 (0, 0)) ∧ cs.size = n := by
    rcases hown.2 with ⟨h0, _⟩ | ⟨g', cap, cur, hv, _, hh, _, _, hsz, _⟩
    · cases h0
    · cases hv
      exact ⟨cur, by rw [hg]; exact hh, by simpa using hsz⟩
  have HB := Frame.hid hblk
  have HW : Hid (Below w.heap.size w w1) := (Below.refl _ _).grown hgrow (Nat.le_refl _) (by simp)
  clear hown hgrow hblk
  rw [← hg]
  have HG := Frame.hid hg
  clear hg hi hz0 hz1 hz2
  go_wp2
  go_loopw [4] (fun i wr => CopyTo w g n xs i wr) (fun i _ => n - (intOf i).toNat)
  case atStart =>
    obtain ⟨cs, h1, h2⟩ := HB.out
    exact ⟨0, Nat.zero_le _, rfl, cs, h1, h2, fun j hj => absurd hj (by omega), HW.out⟩
  case round =>
    obtain ⟨k, hk, rfl, cs, h1, h2, h3, h4⟩ := hrel
    by_cases hlt : k < n
    · obtain ⟨b, off, rfl, hb, hc⟩ := HR.out (by have := HX.out; omega)
      have hstep := Frame.hid (copy_step (Nat.le_of_eq HG.out.symm) hlt h1 h2 h3 h4)
      have hc1 : wr.cell? ⟨b, off + k, none⟩ = some (.float .f32 (xs.getD k 0)) := (h4.cell (p := ⟨b, off + k, none⟩) hb).trans (hc k (by have := HX.out; omega))
      obtain ⟨u, hc2⟩ : ∃ u, wr.cell? ⟨g, k, none⟩ = some u := ⟨cs[k]'(by omega), by
        rw [cell_of_row wr g k cs _ (0, 0) h1, Array.getElem?_eq_getElem]⟩
      have hc3 : wr.frozen? ⟨g, k, none⟩ = false := frozen_row h1
      generalize xs.getD k 0 = x at *
      clear hc h1 h2 h3 h4 HB HW HG HR HX
      go_wp2
      go_roundw
      case rel => exact hstep.out
      case measure => simp [intOf]; omega
    · have hkn : k = n := by omega
      have ho : OwnF wr w.heap.size (.slice (some ⟨g, 0, none⟩) n n) xs := by
        have hx := HX.out
        show World.ownsRow _ _ _ _ _ _ _
        refine ⟨by rw [fl_len, ← hx, Nat.mul_one], .inr ⟨g, n, cs, by rw [← hx], Nat.le_of_eq HG.out.symm, h1, by rw [← hx]; exact Nat.le_refl _, by unfold maxLen; omega, by rw [Nat.mul_one]; exact h2, ?_⟩⟩
        rw [← hx, Nat.mul_one, List.take_of_length_le (by rw [Array.length_toList]; omega)]
        unfold fl
        refine List.ext_getElem (by rw [Array.length_toList, List.length_map]; omega) fun i i1 i2 => ?_
        have hi1 : i < n := by rw [Array.length_toList] at i1; omega
        have h := h3 i (by omega)
        rw [Array.getElem?_eq_getElem (by omega)] at h
        injection h with h
        rw [Array.getElem_toList, h, List.getElem_map]
        rw [List.getD_eq_getElem?_getD, List.getElem?_eq_getElem (by omega)]
        rfl
      have HO := Frame.hid ho
      have HX4 := Frame.hid h4
      clear h1 h2 h3 h4 HB HW hkn ho
      go_wp2
      go_ret
      have hgg := HG.out
      subst hgg
      exact ⟨rfl, HO.out, HX4.out⟩

set_option maxRecDepth 100000 in
set_option maxHeartbeats 1000000 in
theorem markFS_calls (B g m cap s : Nat) (ys : List Nat) (hl : ys.length = m) (hm : m ≤ 1048576) (hs : s ≤ 1048576) (w : World) (hO : OwnF w B (.slice (some ⟨g, 0, none⟩) m cap) ys) (hg : B ≤ g) :
    Calls Try.prog 24 #[.slice (some ⟨g, 0, none⟩) m cap, .int .i64 (1 + (s : Int))] w fun e w' => e = .returned (.int .i64 (1 + (s : Int) + (m : Int))) ∧ Below B w w' ∧ ∀ k, k ≠ g → w'.heap[k]? = w.heap[k]? := by
  have HL := Frame.hid hl
  have HO := Frame.hid hO
  have HG := Frame.hid hg
  clear hl hO hg
  go_enter Try.func24, Try.ntmps24
  go_wp2
  go_loopw [1, 5] (fun k i wr => ∃ (q : Nat) (zs : List Nat), q ≤ m ∧ k = .int .i64 (1 + (s : Int) + (q : Int)) ∧ i = .int .i64 q ∧ zs.length = m ∧ OwnF wr B (.slice (some ⟨g, 0, none⟩) m cap) zs ∧ Below B w wr ∧ ∀ k, k ≠ g → wr.heap[k]? = w.heap[k]?) (fun _ i _ => m - (intOf i).toNat)
  case atStart => exact ⟨0, ys, Nat.zero_le _, rfl, rfl, HL.out, HO.out, Below.refl _ _, fun _ _ => rfl⟩
  case round =>
    obtain ⟨q, zs, hq, rfl, rfl, hzl, hO, hB, hF⟩ := hrel
    by_cases hlt : q < m
    · have c1 := hO.cell hzl.symm (j := q) (by omega)
      have fz := hO.froz hzl.symm q
      have HZL := Frame.hid hzl
      have HO := Frame.hid hO
      have HF := Frame.hid hF
      have HB := Frame.hid hB
      generalize zs.getD q 0 = a at c1
      clear hzl hO hF hB
      go_wp2
      go_roundw
      case rel =>
        refine ⟨q + 1, _, by omega, by go_num, by go_num, ?_, OwnF.put HO.out HZL.out.symm q (floatOfInt .f32 (1 + (s : Int) + (q : Int))), HB.out.setCell (p := ⟨g, _, none⟩) HG.out _, fun k hk => ?_⟩
        · rw [List.length_set]; exact HZL.out
        · rw [Below.heap_setCell _ _ _ _ hk]; exact HF.out k hk
      case measure => simp [intOf]; omega
    · have hqm : q = m := by omega
      subst hqm
      have HF := Frame.hid hF
      have HB := Frame.hid hB
      clear hzl hO hF hB
      go_wp2
      go_ret
      exact ⟨rfl, HB.out, HF.out⟩

theorem OwnF.only {W W' : World} {base gx : Nat} {v : Value} {ys : List Nat} (h : OwnF W base v ys) (hlt : gx < base) (hF : ∀ k, k ≠ gx → W'.heap[k]? = W.heap[k]?) : OwnF W' base v ys := by
  refine ⟨h.1, ?_⟩
  rcases h.2 with hn | ⟨g, cap, cur, hv, hbg, hg, rest⟩
  · exact .inl hn
  · exact .inr ⟨g, cap, cur, hv, hbg, by rw [hF g (by omega)]; exact hg, rest⟩

end Go.Proofs.Ytfkdkdocbecjmaa
