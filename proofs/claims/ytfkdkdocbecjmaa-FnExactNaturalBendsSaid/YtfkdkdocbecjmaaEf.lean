/-
  Slices of 32-bit numbers: equal lists, marks, what is held.
-/
import Derived.Test.YtfkdkdocbecjmaaOw
import Derived.OwnWalk
namespace Go.Proofs.Ytfkdkdocbecjmaa
open Go.RowKit Fl Ieee
attribute [local go_sem] run_store_f

set_option maxRecDepth 100000 in
set_option maxHeartbeats 1000000 in
theorem eqFl_calls (A B : Option Addr) (xs ys : List Nat) (c d : Nat) (w : World) (hn : xs.length ≤ 1048576) (hs : LSame xs ys) (hA : RdF w A xs) (hB : RdF w B ys) :
    Calls Try.prog 23 #[.slice A xs.length c, .slice B ys.length d] w fun e w' => e = .returned (.bool true) ∧ ∃ m, w' = w.drewN m := by
  obtain ⟨n, hxn⟩ : ∃ n, n = xs.length := ⟨_, rfl⟩
  rw [← hs.1]
  rw [← hxn] at hn ⊢
  have HX := Frame.hid hxn
  have HA := Frame.hid hA
  have HB := Frame.hid hB
  have HS := Frame.hid hs
  clear hxn hA hB hs
  go_enter Try.func23, Try.ntmps23
  go_wp2
  go_loopw [5] (fun i wr => ∃ k : Nat, k ≤ n ∧ i = .int .i64 k ∧ ∃ m, wr = w.drewN m) (fun i _ => n - (intOf i).toNat)
  case atStart => exact ⟨0, Nat.zero_le _, rfl, 0, rfl⟩
  case round =>
    obtain ⟨k, hk, rfl, m, rfl⟩ := hrel
    by_cases hlt : k < n
    · obtain ⟨b, off, rfl, hb, hc⟩ := HA.out (by have := HX.out; omega)
      obtain ⟨b', off', rfl, hb', hc'⟩ := HB.out (by have := HX.out; have := HS.out.1; omega)
      have hc1 := hc k (by have := HX.out; omega)
      have hc2 := hc' k (by have := HX.out; have := HS.out.1; omega)
      have HSK := Frame.hid (HS.out.2 k)
      generalize xs.getD k 0 = x at *
      generalize ys.getD k 0 = y at *
      clear hc hc' HA HB HX HS
      go_wp2
      go_region_with (first | (refine upon_conv _ _ .f32 .f64 _ (by decide) (.inl rfl) (by kernel_rfl) (by kernel_rfl) ?_; intro r n1 hr hl) | (go_at_call 18; refine (sameFloat_calls _ _ (by first | exact wide_pair HSK.out (by with_reducible assumption) (by with_reducible assumption)) _).mono ?_; rintro e w' ⟨rfl, n2, rfl⟩))
      all_goals
        go_wp2
        go_roundw
        case rel => exact ⟨k + 1, by omega, by go_num, _, rfl⟩
        case measure => simp [intOf]; omega
    · go_wp2
      go_ret
      exact ⟨rfl, _, rfl⟩

/-- The marksF. -/
def mkF (p : Nat) : Nat := floatOfInt .f32 (1 + (p : Int))
def marksF (m : Nat) : List Nat := (List.range m).map mkF
theorem marksF_len (m : Nat) : (marksF m).length = m := by simp [marksF]
theorem marksF_get {m p : Nat} (h : p < m) : (marksF m).getD p 0 = floatOfInt .f32 (1 + (p : Int)) := by
  have e : (marksF m)[p]? = some (mkF p) := by unfold marksF; rw [List.getElem?_map, List.getElem?_range h]; rfl
  rw [List.getD_eq_getElem?_getD, e]; rfl
theorem marksF_of {m : Nat} {zs : List Nat} (hl : zs.length = m) (h : ∀ p, p < m → zs.getD p 0 = floatOfInt .f32 (1 + (p : Int))) : zs = marksF m := by
  apply List.ext_getElem
  · rw [hl, marksF_len]
  · intro i h1 h2
    have a := h i (by omega)
    have b := marksF_get (m := m) (p := i) (by omega)
    rw [List.getD_eq_getElem?_getD, List.getElem?_eq_getElem h1] at a
    rw [List.getD_eq_getElem?_getD, List.getElem?_eq_getElem h2] at b
    exact (show zs[i] = _ from a).trans (show _ = (marksF m)[i] from b.symm)
theorem markF_num : ∀ p : Fin 257, isNan .f32 (floatOfInt .f32 (1 + (p.val : Int))) = false := by decide +kernel
theorem markF_self {p : Nat} (h : p < 257) : (FloatKind.f32.format.order (floatOfInt .f32 (1 + (p : Int))) (floatOfInt .f32 (1 + (p : Int))) != some Ordering.eq) = false := by
  rw [neq_self]
  exact markF_num ⟨p, h⟩

def MarkFAt (B : Nat) (g m cap : Nat) (w : World) (k i : Value) (wr : World) : Prop :=
  ∃ q : Nat, q ≤ m ∧ k = .int .i64 (1 + (q : Int)) ∧ i = .int .i64 q ∧ ∃ zs, zs.length = m ∧ OwnF wr B (.slice (some ⟨g, 0, none⟩) m cap) zs ∧ (∀ p, p < q → zs.getD p 0 = floatOfInt .f32 (1 + (p : Int))) ∧ Below B w wr

set_option maxRecDepth 100000 in
set_option maxHeartbeats 1000000 in
theorem markF_some (B g m cap : Nat) (ys : List Nat) (hl : ys.length = m) (hm : m ≤ 256) (w : World) (hO : OwnF w B (.slice (some ⟨g, 0, none⟩) m cap) ys) (hg : B ≤ g) :
    Calls Try.prog 24 #[.slice (some ⟨g, 0, none⟩) m cap, .int .i64 1] w fun e w' => e = .returned (.int .i64 (1 + (m : Int))) ∧ OwnF w' B (.slice (some ⟨g, 0, none⟩) m cap) (marksF m) ∧ Below B w w' := by
  have HL := Frame.hid hl
  have HO := Frame.hid hO
  have HG := Frame.hid hg
  clear hl hO hg
  go_enter Try.func24, Try.ntmps24
  go_wp2
  go_loopw [1, 5] (fun k i wr => MarkFAt B g m cap w k i wr) (fun _ i _ => m - (intOf i).toNat)
  case atStart => exact ⟨0, Nat.zero_le _, rfl, rfl, ys, HL.out, HO.out, fun p hp => by omega, Below.refl _ _⟩
  case round =>
    obtain ⟨q, hq, rfl, rfl, zs, hzl, hO, hz, hB⟩ := hrel
    by_cases hlt : q < m
    · have c1 := hO.cell hzl.symm (j := q) (by omega)
      have fz := hO.froz hzl.symm q
      have HZL := Frame.hid hzl
      have HO := Frame.hid hO
      have HZ := Frame.hid hz
      have HB := Frame.hid hB
      generalize zs.getD q 0 = a at c1
      clear hzl hO hz hB
      go_wp2
      go_roundw
      case rel =>
        refine ⟨q + 1, by omega, by go_num, by go_num, _, by rw [List.length_set]; exact HZL.out, OwnF.put HO.out HZL.out.symm q (floatOfInt .f32 (1 + (q : Int))), fun p hp => ?_, HB.out.setCell (p := ⟨g, _, none⟩) HG.out _⟩
        rw [getD_set _ _ _ _ (by rw [HZL.out]; omega)]
        by_cases he : p = q
        · rw [if_pos he, he]
        · rw [if_neg he]; exact HZ.out p (by omega)
      case measure => simp [intOf]; omega
    · have hqm : q = m := by omega
      subst hqm
      have HO := Frame.hid (show OwnF wr B (.slice (some ⟨g, 0, none⟩) q cap) (marksF q) by rw [← marksF_of hzl hz]; exact hO)
      have HB := Frame.hid hB
      clear hzl hO hz hB
      go_wp2
      go_ret
      exact ⟨rfl, HO.out, HB.out⟩

set_option maxRecDepth 100000 in
set_option maxHeartbeats 1000000 in
theorem heldF_some (B g m cap : Nat) (hm : m ≤ 256) (w : World) (hO : OwnF w B (.slice (some ⟨g, 0, none⟩) m cap) (marksF m)) :
    Calls Try.prog 25 #[.slice (some ⟨g, 0, none⟩) m cap, .int .i64 1] w fun e w' => e = .returned (.int .i64 (1 + (m : Int))) ∧ w = w' := by
  have HO := Frame.hid hO
  clear hO
  go_enter Try.func25, Try.ntmps25
  go_wp2
  go_loopw [1, 5] (fun k i wr => ∃ q : Nat, q ≤ m ∧ k = .int .i64 (1 + (q : Int)) ∧ i = .int .i64 q ∧ wr = w) (fun _ i _ => m - (intOf i).toNat)
  case atStart => exact ⟨0, Nat.zero_le _, rfl, rfl, rfl⟩
  case round =>
    obtain ⟨q, hq, rfl, rfl, rfl⟩ := hrel
    by_cases hlt : q < m
    · have c1 := HO.out.cell (marksF_len m).symm (j := q) (by rw [marksF_len]; omega)
      rw [marksF_get hlt] at c1
      have hne := markF_self (p := q) (by omega)
      go_wp2
      go_roundw
      case rel => exact ⟨q + 1, by omega, by go_num, by go_num, by first | rfl | trivial⟩
      case measure => simp [intOf]; omega
    · have hqm : q = m := by omega
      subst hqm
      go_wp2
      go_ret
      first | exact ⟨rfl, trivial⟩ | exact ⟨rfl, rfl⟩

theorem markF_nil (w : World) : Calls Try.prog 24 #[.slice none 0 0, .int .i64 1] w fun e w' => e = .returned (.int .i64 1) ∧ w = w' := by
  go_enter Try.func24, Try.ntmps24
  go_wp2
  go_loopw [1, 5] (fun k i wr => k = .int .i64 1 ∧ i = .int .i64 0 ∧ wr = w) (fun _ _ _ => 0)
  case atStart => exact ⟨rfl, rfl, rfl⟩
  case round =>
    obtain ⟨rfl, rfl, rfl⟩ := hrel
    go_wp2
    go_ret
    exact ⟨rfl, rfl⟩
theorem heldF_nil (w : World) : Calls Try.prog 25 #[.slice none 0 0, .int .i64 1] w fun e w' => e = .returned (.int .i64 1) ∧ w = w' := by
  go_enter Try.func25, Try.ntmps25
  go_wp2
  go_loopw [1, 5] (fun k i wr => k = .int .i64 1 ∧ i = .int .i64 0 ∧ wr = w) (fun _ _ _ => 0)
  case atStart => exact ⟨rfl, rfl, rfl⟩
  case round =>
    obtain ⟨rfl, rfl, rfl⟩ := hrel
    go_wp2
    go_ret
    exact ⟨rfl, rfl⟩


/-- Its form: none, or a block of its own. -/
theorem OwnF.form {w : World} {base : Nat} {v : Value} {ys : List Nat} (h : OwnF w base v ys) : (v = .slice none 0 0 ∧ ys = []) ∨ ∃ g cap, v = .slice (some ⟨g, 0, none⟩) ys.length cap ∧ base ≤ g ∧ g < w.heap.size := by
  rcases h.2 with ⟨hv, h0⟩ | ⟨g, cap, cur, hv, hb, hg, _⟩
  · exact .inl ⟨hv, List.eq_nil_of_length_eq_zero h0⟩
  · exact .inr ⟨g, cap, hv, hb, (Array.getElem?_eq_some_iff.1 hg).1⟩
theorem OwnF.reads {w : World} {base : Nat} {v : Value} {ys : List Nat} (h : OwnF w base v ys) : ∃ A c, v = .slice A ys.length c ∧ RdF w A ys := by
  rcases h.form with ⟨rfl, rfl⟩ | ⟨g, cap, rfl, hb, hlt⟩
  · exact ⟨none, 0, rfl, fun h => absurd h (by simp)⟩
  · exact ⟨_, cap, rfl, h.rd rfl⟩

theorem markF_calls (B : Nat) (v : Value) (ys : List Nat) (hm : ys.length ≤ 256) (w : World) (hO : OwnF w B v ys) :
    Calls Try.prog 24 #[v, .int .i64 1] w fun e w' => e = .returned (.int .i64 (1 + (ys.length : Int))) ∧ OwnF w' B v (marksF ys.length) ∧ Below B w w' := by
  rcases hO.form with ⟨rfl, rfl⟩ | ⟨g, cap, rfl, hb, hlt⟩
  · refine (markF_nil w).mono ?_
    rintro e w' ⟨rfl, rfl⟩
    exact ⟨rfl, hO, Below.refl _ _⟩
  · exact markF_some B g _ cap ys rfl hm w hO hb

theorem heldF_calls (B : Nat) (v : Value) (m : Nat) (hm : m ≤ 256) (w : World) (hO : OwnF w B v (marksF m)) :
    Calls Try.prog 25 #[v, .int .i64 1] w fun e w' => e = .returned (.int .i64 (1 + (m : Int))) ∧ w = w' := by
  rcases hO.form with ⟨rfl, h0⟩ | ⟨g, cap, rfl, hb, hlt⟩
  · have : m = 0 := by rw [← marksF_len m, h0]; rfl
    subst this
    exact heldF_nil w
  · rw [marksF_len] at hO ⊢
    exact heldF_some B g m cap hm w hO

end Go.Proofs.Ytfkdkdocbecjmaa
