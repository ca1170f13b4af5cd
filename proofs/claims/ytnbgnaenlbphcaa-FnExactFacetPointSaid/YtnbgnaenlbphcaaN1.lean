/-
  Nets: slices of integers and facets that come in, taken over, counted, compared.
-/
import Derived.Test.YtnbgnaenlbphcaaKh
import Derived.Deep.Slices
namespace Go.Proofs.Ytnbgnaenlbphcaa
open Go.RowKit Fl Go.WideShapes Go.Deep
attribute [local go_sem] kstore_f kalloc_drewN kset_drewN hstore_i hstore_s

/-- A slice of integers that reads as the list. -/
def RdJ (w : World) (A : Option Addr) (xs : List Int) : Prop :=
  0 < xs.length → ∃ b off, A = some ⟨b, off, none⟩ ∧ b < w.heap.size ∧ ∀ j, j < xs.length → w.cell? ⟨b, off + j, none⟩ = some (.int .i64 (xs.getD j 0))
theorem RdJ.below {w w' : World} {A : Option Addr} {xs : List Int} (h : RdJ w A xs) (hb : Below w.heap.size w w') : RdJ w' A xs := fun h0 => by
  obtain ⟨b, off, e, hlt, hc⟩ := h h0
  exact ⟨b, off, e, Nat.lt_of_lt_of_le hlt hb.size, fun j hj => (hb.cell (p := ⟨b, off + j, none⟩) hlt).trans (hc j hj)⟩

def numJ (v : Value) : Int := match v with | .int _ n => n | _ => 0
theorem open_i64sJ {H : Type} {enc : TypeId × Value → H} {P : Program} {w : World} {r : Reach} {b0 base : Nat} {spare : Nat → Bool} {held : Bool} {t e : TypeId} {v : Value} {d : DataW H} {ps : List MemPlace}
    (ht : P.underlying t = some (.slice e)) (he : P.underlying e = some (.int .i64)) (hc : P.cellsOf e = 1) (hval : Value.okWide P w r b0 t v)
    (h : DataW.Trod enc P w base spare held t v d ps) (hsp : ∀ b, spare b = true) :
    ∃ A xs c, v = .slice A xs.length c ∧ xs.length ≤ maxLen ∧ RdJ w A xs ∧ ∀ x ∈ xs, -9223372036854775808 ≤ x ∧ x ≤ 9223372036854775807 := by
  obtain ⟨a, len, cap, rfl⟩ := okWide_slice ht hval
  obtain ⟨fuel, hf⟩ := h
  rcases open_slice1 ht hc hf with ⟨hcs, _⟩ | ⟨a', len', cap', m, n, V, D, Pl, hcs, _, hl, hm, hmm, _, hx⟩
  · simp [Value.cells] at hcs
    obtain ⟨rfl, rfl, rfl⟩ := hcs
    exact ⟨none, [], 0, rfl, Nat.zero_le _, fun h0 => absurd h0 (by simp), fun x hx => by cases hx⟩
  · simp [Value.cells] at hcs
    obtain ⟨rfl, rfl, rfl⟩ := hcs
    rw [hsp, if_pos rfl] at hmm
    subst hmm
    have hb : ∀ i, i < m → V i = .int .i64 (numJ (V i)) ∧ -9223372036854775808 ≤ numJ (V i) ∧ numJ (V i) ≤ 9223372036854775807 := fun i hi => by
      obtain ⟨z, h1, _, hw⟩ := DataW.trod_int he (hx i hi).2
      have h1 : V i = .int .i64 z := by simpa using h1
      have e1 : IntKind.i64.min = -9223372036854775808 := rfl
      have e2 : IntKind.i64.max = 9223372036854775807 := rfl
      have hb : -9223372036854775808 ≤ z ∧ z ≤ 9223372036854775807 := by simpa only [Lit.wf, e1, e2, Bool.and_eq_true, decide_eq_true_eq] using hw
      rw [h1]
      exact ⟨rfl, hb⟩
    refine ⟨some a', (List.range len).map (fun i => numJ (V i)), m, by simp, by simp; omega, ?_, ?_⟩
    · intro h0
      simp at h0
      obtain ⟨b, off, spot⟩ := a'
      have c0 := (hx 0 (by omega)).1
      have hspot : spot = none := by simpa [Addr.add] using World.cell?_spot c0
      subst hspot
      refine ⟨b, off, rfl, ?_, fun j hj => ?_⟩
      · have := World.block_lt_of_cell? w _ c0
        simpa [add_plain] using this
      · simp at hj
        have cj := (hx j (by omega)).1
        rw [add_plain, (hb j (by omega)).1] at cj
        rw [cj]
        simp [List.getD, hj]
    · intro x hx'
      obtain ⟨i, hi, rfl⟩ := List.mem_map.1 hx'
      exact (hb i (by have := List.mem_range.1 hi; omega)).2

theorem infoJ : (Try.prog.info? 2).map (fun i => (i.zero, i.size, i.bytes)) = some (some (.int .i64 0), 1, 8) := by kernel_rfl
theorem heap_setJ {w : World} {g i : Nat} {cs : Array Value} {t : TypeId} (u : Value) (h : w.heap[g]? = some (.cells cs t (0, 0))) : (w.setCell ⟨g, i, none⟩ u).heap[g]? = some (.cells (cs.setIfInBounds i u) t (0, 0)) := by
  simp [World.setCell, Array.getElem?_modify, h]
theorem frozen_rowJ {w : World} {g i : Nat} {cs : Array Value} {t : TypeId} (h : w.heap[g]? = some (.cells cs t (0, 0))) : w.frozen? ⟨g, i, none⟩ = false := by
  simp [World.frozen?, h]

def CopyJ (w : World) (g n : Nat) (xs : List Int) (i : Value) (wr : World) : Prop :=
  ∃ k : Nat, k ≤ n ∧ i = .int .i64 k ∧ ∃ cs : Array Value, wr.heap[g]? = some (.cells cs 2 (0, 0)) ∧ cs.size = n ∧ (∀ j, j < k → cs[j]? = some (.int .i64 (xs.getD j 0))) ∧ Below w.heap.size w wr
def CopiedJ (xs : List Int) (w : World) (e : Ending) (w' : World) : Prop :=
  ∃ g, e = .returned (.slice (some ⟨g, 0, none⟩) xs.length xs.length) ∧ RdJ w' (some ⟨g, 0, none⟩) xs ∧ Below w.heap.size w w' ∧ w.heap.size ≤ g
theorem copyJ_done {wr : World} {g : Nat} {xs : List Int} {cs : Array Value} (h1 : wr.heap[g]? = some (.cells cs 2 (0, 0))) (h3 : ∀ j, j < xs.length → cs[j]? = some (.int .i64 (xs.getD j 0))) : RdJ wr (some ⟨g, 0, none⟩) xs := fun _ => by
  refine ⟨g, 0, rfl, ?_, fun j hj => ?_⟩
  · exact (Array.getElem?_eq_some_iff.1 h1).1
  · rw [cell_of_row wr g (0 + j) cs _ (0, 0) h1, Nat.zero_add]
    exact h3 j hj
theorem copyJ_step {w wr : World} {g n k : Nat} {xs : List Int} {cs : Array Value} (hg : w.heap.size ≤ g) (hk : k < n) (h1 : wr.heap[g]? = some (.cells cs 2 (0, 0))) (h2 : cs.size = n)
    (h3 : ∀ j, j < k → cs[j]? = some (.int .i64 (xs.getD j 0))) (h4 : Below w.heap.size w wr) : CopyJ w g n xs (.int .i64 ((k + 1 : Nat) : Int)) (wr.setCell ⟨g, k, none⟩ (.int .i64 (xs.getD k 0))) := by
  refine ⟨k + 1, by omega, rfl, _, heap_setJ _ h1, by simpa using h2, fun j hj => ?_, h4.setCell hg _⟩
  by_cases he : j = k
  · subst he
    simp [show j < cs.size by omega]
  · rw [Array.getElem?_setIfInBounds_ne (by omega)]
    exact h3 j (by omega)

set_option maxHeartbeats 1000000 in
theorem toInt64J_calls (A : Option Addr) (xs : List Int) (c : Nat) (w : World) (hn : xs.length ≤ 1048576) (hr : RdJ w A xs) :
    Calls Try.prog 158 #[.slice A xs.length c] w (CopiedJ xs w) := by
  obtain ⟨i0, hi, hz0, hz1, hz2⟩ := info_parts infoJ
  have HR := Frame.hid hr
  clear hr
  obtain ⟨n, hxn⟩ : ∃ n, n = xs.length := ⟨_, rfl⟩
  rw [← hxn] at hn ⊢
  have HX := Frame.hid hxn
  clear hxn
  go_enter Try.func158, Try.ntmps158
  go_wp2_with (at_make; refine wpList_make_full _ rfl _ _ 92 rfl w.heap.size 2 i0 (.int .i64 0) 1 Try.underlying92 hi hz0 hz1 _ _ _ _ n rfl rfl rfl rfl ?c1 ?c2 ?c3 ?_)
  case c1 => rw [hz2]; omega
  case c2 => unfold maxLen; omega
  case c3 => simp
  intro w1 hown hgrow
  obtain ⟨g, hg⟩ : ∃ g, g = w.heap.size := ⟨_, rfl⟩
  have hblk : ∃ cs : Array Value, w1.heap[g]? = some (.cells cs 2 (0, 0)) ∧ cs.size = n := by
    rcases hown.2 with ⟨h0, _⟩ | ⟨g', cap, cur, hv, _, hh, _, _, hsz, _⟩
    · cases h0
    · cases hv
      exact ⟨cur, by rw [hg]; exact hh, by simpa using hsz⟩
  have HB := Frame.hid hblk
  have HW : Hid (Below w.heap.size w w1) := (Below.refl _ _).grown hgrow (Nat.le_refl _) (by simp)
  clear hown hgrow hblk
  rw [← hg]
  have HG := Frame.hid hg
  clear hg hi hz0 hz1 hz2
  go_wp2
  go_loopw [4] (fun i wr => CopyJ w g n xs i wr) (fun i _ => n - (intOf i).toNat)
  case atStart =>
    obtain ⟨cs, h1, h2⟩ := HB.out
    exact ⟨0, Nat.zero_le _, rfl, cs, h1, h2, fun j hj => absurd hj (by omega), HW.out⟩
  case round =>
    obtain ⟨k, hk, rfl, cs, h1, h2, h3, h4⟩ := hrel
    by_cases hlt : k < n
    · obtain ⟨b, off, rfl, hb, hc⟩ := HR.out (by have := HX.out; omega)
      have hstep := Frame.hid (copyJ_step (Nat.le_of_eq HG.out.symm) hlt h1 h2 h3 h4)
      have hc1 : wr.cell? ⟨b, off + k, none⟩ = some (.int .i64 (xs.getD k 0)) := (h4.cell (p := ⟨b, off + k, none⟩) hb).trans (hc k (by have := HX.out; omega))
      obtain ⟨u, hc2⟩ : ∃ u, wr.cell? ⟨g, k, none⟩ = some u := ⟨cs[k]'(by omega), by
        rw [cell_of_row wr g k cs _ (0, 0) h1, Array.getElem?_eq_getElem]⟩
      have hc3 : wr.frozen? ⟨g, k, none⟩ = false := frozen_rowJ h1
      generalize xs.getD k 0 = x at *
      clear hc h1 h2 h3 h4 HB HW HG HR HX
      go_wp2
      go_roundw
      case rel => exact hstep.out
      case measure => simp [intOf]; omega
    · have hkn : k = xs.length := by have := HX.out; omega
      have hcp := Frame.hid (copyJ_done h1 (fun j hj => h3 j (by omega)))
      have HX4 := Frame.hid h4
      clear h1 h2 h3 h4 HB HW hkn
      go_wp2
      go_ret
      have hx := HX.out
      subst hx
      exact ⟨g, rfl, hcp.out, HX4.out, Nat.le_of_eq HG.out.symm⟩

set_option maxHeartbeats 1000000 in
theorem eqInt64J_calls (A B : Option Addr) (xs : List Int) (c d : Nat) (w : World) (hn : xs.length ≤ 1048576) (hA : RdJ w A xs) (hB : RdJ w B xs) :
    Calls Try.prog 160 #[.slice A xs.length c, .slice B xs.length d] w fun e w' => e = .returned (.bool true) ∧ ∃ m, w' = w.drewN m := by
  obtain ⟨n, hxn⟩ : ∃ n, n = xs.length := ⟨_, rfl⟩
  rw [← hxn] at hn ⊢
  have HX := Frame.hid hxn
  have HA := Frame.hid hA
  have HB := Frame.hid hB
  clear hxn hA hB
  go_enter Try.func160, Try.ntmps160
  go_wp2
  go_loopw [5] (fun i wr => ∃ k : Nat, k ≤ n ∧ i = .int .i64 k ∧ ∃ m, wr = w.drewN m) (fun i _ => n - (intOf i).toNat)
  case atStart => exact ⟨0, Nat.zero_le _, rfl, 0, rfl⟩
  case round =>
    obtain ⟨k, hk, rfl, m, rfl⟩ := hrel
    by_cases hlt : k < n
    · obtain ⟨b, off, rfl, hb, hc⟩ := HA.out (by have := HX.out; omega)
      obtain ⟨b', off', rfl, hb', hc'⟩ := HB.out (by have := HX.out; omega)
      have hc1 := hc k (by have := HX.out; omega)
      have hc2 := hc' k (by have := HX.out; omega)
      generalize xs.getD k 0 = x at *
      clear hc hc' HA HB HX
      go_wp2
      go_region
      all_goals
        go_wp2
        go_roundw
        case rel => exact ⟨k + 1, by omega, by go_num, _, rfl⟩
        case measure => simp [intOf]; omega
    · go_wp2
      go_ret
      exact ⟨rfl, _, rfl⟩


end Go.Proofs.Ytnbgnaenlbphcaa
