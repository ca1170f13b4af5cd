/-
  Slices of int64 of the call's own (chapter 4): what is appended, marked, compared.
-/
import Derived.Test.YtnbgnaenlbphcaaRows
import Derived.Test.YtnbgnaenlbphcaaFrame
import Derived.Laws.NewBlocks
import Derived.Laws.NewFold
import Derived.OwnWalk
import Derived.WalkKit
import Derived.BigCall
import Derived.WalkSmall
namespace Go.Proofs.Ytnbgnaenlbphcaa
open Go.RowKit

/-- A slice of integers of the call's own. -/
def OwnI (w : World) (base : Nat) (v : Value) (xs : List Int) : Prop := w.ownsRow base 2 1 v xs.length (xs.map (Value.int .i64))
theorem none_litI (w : World) : OwnI (w.alloc (.cells #[] 2)) w.heap.size (.slice (some ⟨w.heap.size, 0, none⟩) 0 0) [] :=
  World.ownsRow_lit w #[] 0 (Nat.le_refl _) (by unfold maxLen; omega) rfl
theorem infoI64 : (Try.prog.info? 2).map (fun i => (i.zero, i.size, i.bytes)) = some (some (.int .i64 0), 1, 8) := by kernel_rfl
theorem ownI_below {w w' : World} {base : Nat} {e : TypeId} {size : Nat} {v : Value} {n : Nat} {xs : List Value} (h : w.ownsRow base e size v n xs) (hb : Below w.heap.size w w') : w'.ownsRow base e size v n xs := by
  refine ⟨h.1, ?_⟩
  rcases h.2 with hn | ⟨g, cap, cur, hv, hbg, hg, rest⟩
  · exact .inl hn
  · exact .inr ⟨g, cap, cur, hv, hbg, by rw [hb.block g (Array.getElem?_eq_some_iff.1 hg).1]; exact hg, rest⟩
theorem OwnI.below {w w' : World} {base : Nat} {v : Value} {ys : List Int} (h : OwnI w base v ys) (hb : Below w.heap.size w w') : OwnI w' base v ys := ownI_below h hb
theorem OwnI.mono {w : World} {base base' : Nat} {v : Value} {ys : List Int} (h : OwnI w base v ys) (hb : base' ≤ base) : OwnI w base' v ys := by
  refine ⟨h.1, ?_⟩
  rcases h.2 with hn | ⟨g, cap, cur, hv, hbg, rest⟩
  · exact .inl hn
  · exact .inr ⟨g, cap, cur, hv, by omega, rest⟩
theorem OwnI.app {w3 : World} {B k : Nat} {v' : Value} {out news : List Int} (hk : k = out.length) (h : w3.ownsRow B 2 1 v' (k + news.length) (out.map (Value.int .i64) ++ news.map (Value.int .i64))) : OwnI w3 B v' (out ++ news) := by
  unfold OwnI
  rw [List.length_append, List.map_append, ← hk]
  exact h
theorem OwnI.cell {w : World} {base g n cap : Nat} {ys : List Int} (h : OwnI w base (.slice (some ⟨g, 0, none⟩) n cap) ys) (hn : n = ys.length) {j : Nat} (hj : j < ys.length) : w.cell? ⟨g, j, none⟩ = some (.int .i64 (ys.getD j 0)) := by
  subst hn
  have := World.ownsRow.cellAt h j (by omega)
  rw [this, List.getElem?_map, List.getD_eq_getElem?_getD, List.getElem?_eq_getElem hj]
  rfl
theorem OwnI.froz {w : World} {base g n cap : Nat} {ys : List Int} (h : OwnI w base (.slice (some ⟨g, 0, none⟩) n cap) ys) (hn : n = ys.length) (j : Nat) : w.frozen? ⟨g, j, none⟩ = false := by
  subst hn
  exact World.ownsRow.frozenAt h j
theorem OwnI.put {w : World} {base g n cap : Nat} {ys : List Int} (h : OwnI w base (.slice (some ⟨g, 0, none⟩) n cap) ys) (hn : n = ys.length) (j : Nat) (r : Int) :
    OwnI (w.setCell ⟨g, j, none⟩ (.int .i64 r)) base (.slice (some ⟨g, 0, none⟩) n cap) (ys.set j r) := by
  subst hn
  have := (World.ownsRow.stored h j (.int .i64 r)).1
  have e : (ys.map (Value.int .i64)).set j (.int .i64 r) = (ys.set j r).map (Value.int .i64) := by rw [List.map_set]
  rw [e] at this
  unfold OwnI
  rw [List.length_set]
  exact this
theorem OwnI.form {w : World} {base : Nat} {v : Value} {ys : List Int} (h : OwnI w base v ys) : (v = .slice none 0 0 ∧ ys = []) ∨ ∃ g cap, v = .slice (some ⟨g, 0, none⟩) ys.length cap ∧ base ≤ g ∧ g < w.heap.size := by
  rcases h.2 with ⟨hv, h0⟩ | ⟨g, cap, cur, hv, hb, hg, _⟩
  · exact .inl ⟨hv, List.eq_nil_of_length_eq_zero h0⟩
  · exact .inr ⟨g, cap, hv, hb, (Array.getElem?_eq_some_iff.1 hg).1⟩
theorem OwnI.nilv (w : World) (B : Nat) : OwnI w B (.slice none 0 0) [] := World.ownsRow_nil _ _ _ _

/-- The marks. -/
def marksI (m : Nat) : List Int := (List.range m).map (fun p : Nat => 1 + (p : Int))
theorem marksI_len (m : Nat) : (marksI m).length = m := by simp [marksI]
theorem marksI_get {m p : Nat} (h : p < m) : (marksI m).getD p 0 = 1 + (p : Int) := by
  have e : (marksI m)[p]? = some (1 + (p : Int)) := by unfold marksI; rw [List.getElem?_map, List.getElem?_range h]; rfl
  rw [List.getD_eq_getElem?_getD, e]; rfl
theorem marksI_of {m : Nat} {zs : List Int} (hl : zs.length = m) (h : ∀ p, p < m → zs.getD p 0 = 1 + (p : Int)) : zs = marksI m := by
  apply List.ext_getElem
  · rw [hl, marksI_len]
  · intro i h1 h2
    have a := h i (by omega)
    have b := marksI_get (m := m) (p := i) (by omega)
    rw [List.getD_eq_getElem?_getD, List.getElem?_eq_getElem h1] at a
    rw [List.getD_eq_getElem?_getD, List.getElem?_eq_getElem h2] at b
    exact (show zs[i] = _ from a).trans (show _ = (marksI m)[i] from b.symm)

def MarkIAt (B : Nat) (g m cap : Nat) (w : World) (k i : Value) (wr : World) : Prop :=
  ∃ q : Nat, q ≤ m ∧ k = .int .i64 (1 + (q : Int)) ∧ i = .int .i64 q ∧ ∃ zs, zs.length = m ∧ OwnI wr B (.slice (some ⟨g, 0, none⟩) m cap) zs ∧ (∀ p, p < q → zs.getD p 0 = 1 + (p : Int)) ∧ Below B w wr

set_option maxRecDepth 100000 in
set_option maxHeartbeats 1000000 in
theorem markI_some (B g m cap : Nat) (ys : List Int) (hl : ys.length = m) (hm : m ≤ 1048576) (w : World) (hO : OwnI w B (.slice (some ⟨g, 0, none⟩) m cap) ys) (hg : B ≤ g) :
    Calls Try.prog 134 #[.slice (some ⟨g, 0, none⟩) m cap, .int .i64 1] w fun e w' => e = .returned (.int .i64 (1 + (m : Int))) ∧ OwnI w' B (.slice (some ⟨g, 0, none⟩) m cap) (marksI m) ∧ Below B w w' := by
  have HL := Frame.hid hl
  have HO := Frame.hid hO
  have HG := Frame.hid hg
  clear hl hO hg
  go_enter Try.func134, Try.ntmps134
  go_wp2
  go_loopw [1, 5] (fun k i wr => MarkIAt B g m cap w k i wr) (fun _ i _ => m - (Go.RowKit.intOf i).toNat)
  case atStart => exact ⟨0, Nat.zero_le _, rfl, rfl, ys, HL.out, HO.out, fun p hp => by omega, Below.refl _ _⟩
  case round =>
    obtain ⟨q, hq, rfl, rfl, zs, hzl, hO, hz, hB⟩ := hrel
    by_cases hlt : q < m
    · have c1 := hO.cell hzl.symm (j := q) (by omega)
      have fz := hO.froz hzl.symm q
      have HZL := Frame.hid hzl
      have HO := Frame.hid hO
      have HZ := Frame.hid hz
      have HB := Frame.hid hB
      generalize zs.getD q 0 = a at c1
      clear hzl hO hz hB
      go_wp2
      go_roundw
      case rel =>
        refine ⟨q + 1, by omega, by go_num, by go_num, _, by rw [List.length_set]; exact HZL.out, OwnI.put HO.out HZL.out.symm q (1 + (q : Int)), fun p hp => ?_, HB.out.setCell (p := ⟨g, _, none⟩) HG.out _⟩
        rw [List.getD_eq_getElem?_getD]
        by_cases he : p = q
        · subst he
          rw [List.getElem?_set_self (by have := HZL.out; omega)]
          rfl
        · rw [List.getElem?_set_ne (by omega), ← List.getD_eq_getElem?_getD]
          exact HZ.out p (by omega)
      case measure => simp [Go.RowKit.intOf]; omega
    · have hqm : q = m := by omega
      subst hqm
      have HO := Frame.hid (show OwnI wr B (.slice (some ⟨g, 0, none⟩) q cap) (marksI q) by rw [← marksI_of hzl hz]; exact hO)
      have HB := Frame.hid hB
      clear hzl hO hz hB
      go_wp2
      go_ret
      exact ⟨rfl, HO.out, HB.out⟩

set_option maxRecDepth 100000 in
set_option maxHeartbeats 1000000 in
theorem heldI_some (B g m cap : Nat) (hm : m ≤ 1048576) (w : World) (hO : OwnI w B (.slice (some ⟨g, 0, none⟩) m cap) (marksI m)) :
    Calls Try.prog 135 #[.slice (some ⟨g, 0, none⟩) m cap, .int .i64 1] w fun e w' => e = .returned (.int .i64 (1 + (m : Int))) ∧ w = w' := by
  have HO := Frame.hid hO
  clear hO
  go_enter Try.func135, Try.ntmps135
  go_wp2
  go_loopw [1, 5] (fun k i wr => ∃ q : Nat, q ≤ m ∧ k = .int .i64 (1 + (q : Int)) ∧ i = .int .i64 q ∧ wr = w) (fun _ i _ => m - (Go.RowKit.intOf i).toNat)
  case atStart => exact ⟨0, Nat.zero_le _, rfl, rfl, rfl⟩
  case round =>
    obtain ⟨q, hq, rfl, rfl, rfl⟩ := hrel
    by_cases hlt : q < m
    · have c1 := HO.out.cell (marksI_len m).symm (j := q) (by rw [marksI_len]; omega)
      rw [marksI_get hlt] at c1
      go_wp2
      go_roundw
      case rel => exact ⟨q + 1, by omega, by go_num, by go_num, by first | rfl | trivial⟩
      case measure => simp [Go.RowKit.intOf]; omega
    · have hqm : q = m := by omega
      subst hqm
      go_wp2
      go_ret
      first | exact ⟨rfl, trivial⟩ | exact ⟨rfl, rfl⟩

set_option maxRecDepth 100000 in
theorem markI_nil (w : World) : Calls Try.prog 134 #[.slice none 0 0, .int .i64 1] w fun e w' => e = .returned (.int .i64 1) ∧ w = w' := by
  go_enter Try.func134, Try.ntmps134
  go_wp2
  go_loopw [1, 5] (fun k i wr => k = .int .i64 1 ∧ i = .int .i64 0 ∧ wr = w) (fun _ _ _ => 0)
  case atStart => exact ⟨rfl, rfl, rfl⟩
  case round =>
    obtain ⟨rfl, rfl, rfl⟩ := hrel
    go_wp2
    go_ret
    exact ⟨rfl, rfl⟩

set_option maxRecDepth 100000 in
theorem heldI_nil (w : World) : Calls Try.prog 135 #[.slice none 0 0, .int .i64 1] w fun e w' => e = .returned (.int .i64 1) ∧ w = w' := by
  go_enter Try.func135, Try.ntmps135
  go_wp2
  go_loopw [1, 5] (fun k i wr => k = .int .i64 1 ∧ i = .int .i64 0 ∧ wr = w) (fun _ _ _ => 0)
  case atStart => exact ⟨rfl, rfl, rfl⟩
  case round =>
    obtain ⟨rfl, rfl, rfl⟩ := hrel
    go_wp2
    go_ret
    exact ⟨rfl, rfl⟩

theorem markI_calls (B : Nat) (v : Value) (ys : List Int) (hm : ys.length ≤ 1048576) (w : World) (hO : OwnI w B v ys) :
    Calls Try.prog 134 #[v, .int .i64 1] w fun e w' => e = .returned (.int .i64 (1 + (ys.length : Int))) ∧ OwnI w' B v (marksI ys.length) ∧ Below B w w' := by
  rcases hO.form with ⟨rfl, rfl⟩ | ⟨g, cap, rfl, hb, hlt⟩
  · refine (markI_nil w).mono ?_
    rintro e w' ⟨rfl, rfl⟩
    exact ⟨rfl, hO, Below.refl _ _⟩
  · exact markI_some B g ys.length cap ys rfl hm w hO hb

theorem heldI_calls (B : Nat) (v : Value) (m : Nat) (hm : m ≤ 1048576) (w : World) (hO : OwnI w B v (marksI m)) :
    Calls Try.prog 135 #[v, .int .i64 1] w fun e w' => e = .returned (.int .i64 (1 + (m : Int))) ∧ w = w' := by
  rcases hO.form with ⟨rfl, h0⟩ | ⟨g, cap, rfl, hb, hlt⟩
  · have : m = 0 := by have := congrArg List.length h0; rw [marksI_len] at this; exact this
    subst this
    exact heldI_nil w
  · rw [marksI_len] at *
    exact heldI_some B g m cap hm w hO

set_option maxRecDepth 100000 in
set_option maxHeartbeats 1000000 in
theorem eqI_calls (B B' : Nat) (v v' : Value) (xs : List Int) (w : World) (hn : xs.length ≤ 1048576) (hA : OwnI w B v xs) (hB : OwnI w B' v' xs) :
    Calls Try.prog 160 #[v, v'] w fun e w' => e = .returned (.bool true) ∧ ∃ m, w' = w.drewN m := by
  have hA0 := hA
  have hB0 := hB
  obtain ⟨n, hxn⟩ : ∃ n, n = xs.length := ⟨_, rfl⟩
  have e1 : ∃ A c, v = .slice A n c ∧ (0 < n → ∃ g, A = some ⟨g, 0, none⟩) := by
    rcases hA.form with ⟨rfl, h0⟩ | ⟨g, cap, rfl, _, _⟩
    · exact ⟨none, 0, by rw [hxn, h0]; rfl, fun h => by rw [hxn, h0] at h; cases h⟩
    · exact ⟨_, cap, by rw [hxn], fun _ => ⟨g, rfl⟩⟩
  have e2 : ∃ A c, v' = .slice A n c ∧ (0 < n → ∃ g, A = some ⟨g, 0, none⟩) := by
    rcases hB.form with ⟨rfl, h0⟩ | ⟨g, cap, rfl, _, _⟩
    · exact ⟨none, 0, by rw [hxn, h0]; rfl, fun h => by rw [hxn, h0] at h; cases h⟩
    · exact ⟨_, cap, by rw [hxn], fun _ => ⟨g, rfl⟩⟩
  obtain ⟨A, c, rfl, ha⟩ := e1
  obtain ⟨A', c', rfl, hb⟩ := e2
  rw [← hxn] at hn
  have HX := Frame.hid hxn
  have HA := Frame.hid hA0
  have HB := Frame.hid hB0
  have Ha := Frame.hid ha
  have Hb := Frame.hid hb
  clear hxn hA hB hA0 hB0 ha hb
  go_enter Try.func160, Try.ntmps160
  go_wp2
  go_loopw [5] (fun i wr => ∃ k : Nat, k ≤ n ∧ i = .int .i64 k ∧ ∃ m, wr = w.drewN m) (fun i _ => n - (intOf i).toNat)
  case atStart => exact ⟨0, Nat.zero_le _, rfl, 0, rfl⟩
  case round =>
    obtain ⟨k, hk, rfl, m, rfl⟩ := hrel
    by_cases hlt : k < n
    · obtain ⟨b, rfl⟩ := Ha.out (by omega)
      obtain ⟨b', rfl⟩ := Hb.out (by omega)
      have hc1 := HA.out.cell HX.out (j := k) (by have := HX.out; omega)
      have hc2 := HB.out.cell HX.out (j := k) (by have := HX.out; omega)
      generalize xs.getD k 0 = x at *
      clear HA HB HX Ha Hb
      go_wp2
      go_region
      all_goals
        go_wp2
        go_roundw
        case rel => exact ⟨k + 1, by omega, by go_num, _, rfl⟩
        case measure => simp [intOf]; omega
    · go_wp2
      go_ret
      exact ⟨rfl, m, rfl⟩

end Go.Proofs.Ytnbgnaenlbphcaa
