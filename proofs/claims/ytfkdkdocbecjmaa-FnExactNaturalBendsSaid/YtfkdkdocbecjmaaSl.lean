/-
  Slices of 32-bit numbers: copied, compared, added.
-/
import Derived.Test.YtfkdkdocbecjmaaSc
import Derived.Deep.RegionWith
import Derived.Laws.NewBlocks
import Derived.OwnWalk
namespace Go.Proofs.Ytfkdkdocbecjmaa
open Go.RowKit Fl

/-- A slice of 32-bit numbers that reads as the list. -/
def RdF (w : World) (A : Option Addr) (xs : List Nat) : Prop :=
  0 < xs.length → ∃ b off, A = some ⟨b, off, none⟩ ∧ b < w.heap.size ∧ ∀ j, j < xs.length → w.cell? ⟨b, off + j, none⟩ = some (.float .f32 (xs.getD j 0))

theorem RdF.below {w w' : World} {A : Option Addr} {xs : List Nat} (h : RdF w A xs) (hb : Below w.heap.size w w') : RdF w' A xs := fun h0 => by
  obtain ⟨b, off, e, hlt, hc⟩ := h h0
  exact ⟨b, off, e, Nat.lt_of_lt_of_le hlt hb.size, fun j hj => (hb.cell (p := ⟨b, off + j, none⟩) hlt).trans (hc j hj)⟩
theorem RdF.drewN {w : World} {A : Option Addr} {xs : List Nat} (h : RdF w A xs) (n : Nat) : RdF (w.drewN n) A xs := h

theorem Try.infoF : (Try.prog.info? 25).map (fun i => (i.zero, i.size, i.bytes)) = some (some (.float .f32 0), 1, 4) := by kernel_rfl

theorem run_store_f (P : Program) (w : World) (a : Addr) (m : Mode) (k : FloatKind) (b : Nat) : (store a (.float k b) m).run P w = stored P w a (.float k b) m := run_store P w a _ m rfl
attribute [local go_sem] run_store_f

theorem heap_set {w : World} {g i : Nat} {cs : Array Value} {t : TypeId} (u : Value) (h : w.heap[g]? = some (.cells cs t (0, 0))) : (w.setCell ⟨g, i, none⟩ u).heap[g]? = some (.cells (cs.setIfInBounds i u) t (0, 0)) := by
  simp [World.setCell, Array.getElem?_modify, h]
theorem frozen_row {w : World} {g i : Nat} {cs : Array Value} {t : TypeId} (h : w.heap[g]? = some (.cells cs t (0, 0))) : w.frozen? ⟨g, i, none⟩ = false := by
  simp [World.frozen?, h]

/-- After k rounds: the new block g holds the first k numbers. -/
def CopyTo (w : World) (g n : Nat) (xs : List Nat) (i : Value) (wr : World) : Prop :=
  ∃ k : Nat, k ≤ n ∧ i = .int .i64 k ∧ ∃ cs : Array Value, wr.heap[g]? = some (.cells cs 25 (0, 0)) ∧ cs.size = n ∧ (∀ j, j < k → cs[j]? = some (.float .f32 (xs.getD j 0))) ∧ Below w.heap.size w wr

/-- The copy that a law makes of a slice. -/
def Copied (xs : List Nat) (w : World) (e : Ending) (w' : World) : Prop :=
  ∃ g, e = .returned (.slice (some ⟨g, 0, none⟩) xs.length xs.length) ∧ RdF w' (some ⟨g, 0, none⟩) xs ∧ Below w.heap.size w w'

theorem copy_done {wr : World} {g : Nat} {xs : List Nat} {cs : Array Value} (h1 : wr.heap[g]? = some (.cells cs 25 (0, 0))) (h3 : ∀ j, j < xs.length → cs[j]? = some (.float .f32 (xs.getD j 0))) : RdF wr (some ⟨g, 0, none⟩) xs := fun _ => by
  refine ⟨g, 0, rfl, ?_, fun j hj => ?_⟩
  · exact (Array.getElem?_eq_some_iff.1 h1).1
  · rw [cell_of_row wr g (0 + j) cs _ (0, 0) h1, Nat.zero_add]
    exact h3 j hj

theorem copy_step {w wr : World} {g n k : Nat} {xs : List Nat} {cs : Array Value} (hg : w.heap.size ≤ g) (hk : k < n) (h1 : wr.heap[g]? = some (.cells cs 25 (0, 0))) (h2 : cs.size = n)
    (h3 : ∀ j, j < k → cs[j]? = some (.float .f32 (xs.getD j 0))) (h4 : Below w.heap.size w wr) : CopyTo w g n xs (.int .i64 ((k + 1 : Nat) : Int)) (wr.setCell ⟨g, k, none⟩ (.float .f32 (xs.getD k 0))) := by
  refine ⟨k + 1, by omega, rfl, _, heap_set _ h1, by simpa using h2, fun j hj => ?_, h4.setCell hg _⟩
  by_cases he : j = k
  · subst he
    simp [show j < cs.size by omega]
  · rw [Array.getElem?_setIfInBounds_ne (by omega)]
    exact h3 j (by omega)

set_option maxRecDepth 100000 in
set_option maxHeartbeats 1000000 in
theorem toFloat32S_calls (A : Option Addr) (xs : List Nat) (c : Nat) (w : World) (hn : xs.length ≤ 1048576) (hr : RdF w A xs) :
    Calls Try.prog 21 #[.slice A xs.length c] w (Copied xs w) := by
  obtain ⟨i0, hi, hz0, hz1, hz2⟩ := info_parts Try.infoF
  have HR := Frame.hid hr
  clear hr
  obtain ⟨n, hxn⟩ : ∃ n, n = xs.length := ⟨_, rfl⟩
  rw [← hxn] at hn ⊢
  have HX := Frame.hid hxn
  clear hxn
  go_enter Try.func21, Try.ntmps21
  go_wp2_with (at_make; refine wpList_make_full _ rfl _ _ 44 rfl w.heap.size 25 i0 (.float .f32 0) 1 Try.underlying44 hi hz0 hz1 _ _ _ _ n rfl rfl rfl rfl ?c1 ?c2 ?c3 ?_)
  case c1 => rw [hz2]; omega
  case c2 => unfold maxLen; omega
  case c3 => simp
  intro w1 hown hgrow
  obtain ⟨g, hg⟩ : ∃ g, g = w.heap.size := ⟨_, rfl⟩
  have hblk : ∃ cs : Array Value, w1.heap[g]? = some (.cells cs 25 (0, 0)) ∧ cs.size = n := by
    rcases hown.2 with ⟨h0, _⟩ | ⟨g', cap, cur, hv, _, hh, _, _, hsz, _⟩
    · cases h0
    · cases hv
      exact ⟨cur, by rw [hg]; exact hh, by simpa using hsz⟩
  have HB := Frame.hid hblk
  have HW : Hid (Below w.heap.size w w1) := (Below.refl _ _).grown hgrow (Nat.le_refl _) (by simp)
  clear hown hgrow hblk
  rw [← hg]
  have HG := Frame.hid hg
  clear hg hi hz0 hz1 hz2
  go_wp2
  go_loopw [4] (fun i wr => CopyTo w g n xs i wr) (fun i _ => n - (intOf i).toNat)
  case atStart =>
    obtain ⟨cs, h1, h2⟩ := HB.out
    exact ⟨0, Nat.zero_le _, rfl, cs, h1, h2, fun j hj => absurd hj (by omega), HW.out⟩
  case round =>
    obtain ⟨k, hk, rfl, cs, h1, h2, h3, h4⟩ := hrel
    by_cases hlt : k < n
    · obtain ⟨b, off, rfl, hb, hc⟩ := HR.out (by have := HX.out; omega)
      have hstep := Frame.hid (copy_step (Nat.le_of_eq HG.out.symm) hlt h1 h2 h3 h4)
      have hc1 : wr.cell? ⟨b, off + k, none⟩ = some (.float .f32 (xs.getD k 0)) := (h4.cell (p := ⟨b, off + k, none⟩) hb).trans (hc k (by have := HX.out; omega))
      obtain ⟨u, hc2⟩ : ∃ u, wr.cell? ⟨g, k, none⟩ = some u := ⟨cs[k]'(by omega), by
        rw [cell_of_row wr g k cs _ (0, 0) h1, Array.getElem?_eq_getElem]⟩
      have hc3 : wr.frozen? ⟨g, k, none⟩ = false := frozen_row h1
      generalize xs.getD k 0 = x at *
      clear hc h1 h2 h3 h4 HB HW HG HR HX
      go_wp2
      go_roundw
      case rel => exact hstep.out
      case measure => simp [intOf]; omega
    · have hkn : k = xs.length := by have := HX.out; omega
      have hcp := Frame.hid (copy_done h1 (fun j hj => h3 j (by omega)))
      have HX4 := Frame.hid h4
      clear h1 h2 h3 h4 HB HW HG hkn
      go_wp2
      go_ret
      have hx := HX.out
      subst hx
      exact ⟨g, rfl, hcp.out, HX4.out⟩

set_option maxRecDepth 100000 in
set_option maxHeartbeats 1000000 in
theorem eqFloat32S_calls (A B : Option Addr) (xs : List Nat) (c d : Nat) (w : World) (hn : xs.length ≤ 1048576) (hA : RdF w A xs) (hB : RdF w B xs) :
    Calls Try.prog 23 #[.slice A xs.length c, .slice B xs.length d] w fun e w' => e = .returned (.bool true) ∧ ∃ m, w' = w.drewN m := by
  obtain ⟨n, hxn⟩ : ∃ n, n = xs.length := ⟨_, rfl⟩
  rw [← hxn] at hn ⊢
  have HX := Frame.hid hxn
  have HA := Frame.hid hA
  have HB := Frame.hid hB
  clear hxn hA hB
  go_enter Try.func23, Try.ntmps23
  go_wp2
  go_loopw [5] (fun i wr => ∃ k : Nat, k ≤ n ∧ i = .int .i64 k ∧ ∃ m, wr = w.drewN m) (fun i _ => n - (intOf i).toNat)
  case atStart => exact ⟨0, Nat.zero_le _, rfl, 0, rfl⟩
  case round =>
    obtain ⟨k, hk, rfl, m, rfl⟩ := hrel
    by_cases hlt : k < n
    · obtain ⟨b, off, rfl, hb, hc⟩ := HA.out (by have := HX.out; omega)
      obtain ⟨b', off', rfl, hb', hc'⟩ := HB.out (by have := HX.out; omega)
      have hc1 := hc k (by have := HX.out; omega)
      have hc2 := hc' k (by have := HX.out; omega)
      generalize xs.getD k 0 = x at *
      clear hc hc' HA HB HX
      go_wp2
      go_region_with (first | (refine upon_conv _ _ .f32 .f64 _ (by decide) (.inl rfl) (by kernel_rfl) (by kernel_rfl) ?_; intro r n1 hr hl) | (go_at_call 18; refine (sameFloat_calls _ _ (wide_pair (FSame.refl _ _) (by with_reducible assumption) (by with_reducible assumption)) _).mono ?_; rintro e w' ⟨rfl, n2, rfl⟩))
      all_goals
        go_wp2
        go_roundw
        case rel => exact ⟨k + 1, by omega, by go_num, _, rfl⟩
        case measure => simp [intOf]; omega
    · go_wp2
      go_ret
      exact ⟨rfl, _, rfl⟩

/-- The sum of the first k numbers, from left to right. -/
def SumTo (xs : List Nat) : Nat → Nat → Prop
  | 0, r => r = 0
  | k + 1, r => ∃ s, SumTo xs k s ∧ FOp .add .f32 s (xs.getD k 0) r
theorem SumTo.same {xs : List Nat} : ∀ {k r r' : Nat}, SumTo xs k r → SumTo xs k r' → FSame .f32 r r'
  | 0, _, _, h, h' => .inl (Eq.trans h (Eq.symm h'))
  | _ + 1, _, _, ⟨_, h1, h2⟩, ⟨_, g1, g2⟩ => FOp.same (SumTo.same h1 g1) (FSame.refl _ _) h2 g2

def SumAt (xs : List Nat) (w : World) (n : Nat) (s i : Value) (wr : World) : Prop := ∃ k r : Nat, k ≤ n ∧ i = .int .i64 k ∧ s = .float .f32 r ∧ SumTo xs k r ∧ ∃ m, wr = w.drewN m

/-- What both sums give. -/
def SumV (xs : List Nat) (w : World) (e : Ending) (w' : World) : Prop :=
  ∃ r t m, e = .returned (.tuple #[.float .f32 r, .bool t]) ∧ ((xs.length ≤ 256 ∧ t = true ∧ SumTo xs xs.length r) ∨ (256 < xs.length ∧ t = false ∧ r = 0)) ∧ w' = w.drewN m

end Go.Proofs.Ytfkdkdocbecjmaa
