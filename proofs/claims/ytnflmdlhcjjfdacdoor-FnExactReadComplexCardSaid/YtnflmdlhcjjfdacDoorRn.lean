/-
  ReadList: marks, what is held, and the law, walked.
-/
import Derived.Test.YtnflmdlhcjjfdacDoorRm
namespace Go.Proofs.YtnflmdlhcjjfdacDoor
open Go.RowKit Go.Lib Rd Go.WideShapes

theorem cell_below {w w' : World} {p : Addr} {v : Value} (h : w.cell? p = some v) (hb : Below w.heap.size w w') : w'.cell? p = some v := (hb.cell (World.block_lt_of_cell? w p h)).trans h

/-- The marks. -/
def marksI (m : Nat) : List Int := (List.range m).map (fun p : Nat => 1 + (p : Int))
theorem marksI_len (m : Nat) : (marksI m).length = m := by simp [marksI]
theorem marksI_get {m p : Nat} (h : p < m) : (marksI m).getD p 0 = 1 + (p : Int) := by
  have e : (marksI m)[p]? = some (1 + (p : Int)) := by unfold marksI; rw [List.getElem?_map, List.getElem?_range h]; rfl
  rw [List.getD_eq_getElem?_getD, e]; rfl
theorem marksI_of {m : Nat} {zs : List Int} (hl : zs.length = m) (h : ∀ p, p < m → zs.getD p 0 = 1 + (p : Int)) : zs = marksI m := by
  apply List.ext_getElem
  · rw [hl, marksI_len]
  · intro i h1 h2
    have a := h i (by omega)
    have b := marksI_get (m := m) (p := i) (by omega)
    rw [List.getD_eq_getElem?_getD, List.getElem?_eq_getElem h1] at a
    rw [List.getD_eq_getElem?_getD, List.getElem?_eq_getElem h2] at b
    exact (show zs[i] = _ from a).trans (show _ = (marksI m)[i] from b.symm)
theorem OwnI.below {w w' : World} {base : Nat} {v : Value} {ys : List Int} (h : OwnI w base v ys) (hb : Below w.heap.size w w') : OwnI w' base v ys := own_below h hb
theorem OwnI.mono {w : World} {base base' : Nat} {v : Value} {ys : List Int} (h : OwnI w base v ys) (hb : base' ≤ base) : OwnI w base' v ys := own_mono h hb
theorem OwnI.cell {w : World} {base g n cap : Nat} {ys : List Int} (h : OwnI w base (.slice (some ⟨g, 0, none⟩) n cap) ys) (hn : n = ys.length) {j : Nat} (hj : j < ys.length) : w.cell? ⟨g, j, none⟩ = some (.int .i64 (ys.getD j 0)) := by
  subst hn
  have := World.ownsRow.cellAt h j (by omega)
  rw [this, List.getElem?_map, List.getD_eq_getElem?_getD, List.getElem?_eq_getElem hj]
  rfl
theorem OwnI.froz {w : World} {base g n cap : Nat} {ys : List Int} (h : OwnI w base (.slice (some ⟨g, 0, none⟩) n cap) ys) (hn : n = ys.length) (j : Nat) : w.frozen? ⟨g, j, none⟩ = false := by
  subst hn
  exact World.ownsRow.frozenAt h j
theorem OwnI.put {w : World} {base g n cap : Nat} {ys : List Int} (h : OwnI w base (.slice (some ⟨g, 0, none⟩) n cap) ys) (hn : n = ys.length) (j : Nat) (r : Int) :
    OwnI (w.setCell ⟨g, j, none⟩ (.int .i64 r)) base (.slice (some ⟨g, 0, none⟩) n cap) (ys.set j r) := by
  subst hn
  have := (World.ownsRow.stored h j (.int .i64 r)).1
  have e : (ys.map (Value.int .i64)).set j (.int .i64 r) = (ys.set j r).map (Value.int .i64) := by rw [List.map_set]
  rw [e] at this
  unfold OwnI
  rw [List.length_set]
  exact this
/-- Its form: none, or a block of its own. -/
theorem OwnI.form {w : World} {base : Nat} {v : Value} {ys : List Int} (h : OwnI w base v ys) : (v = .slice none 0 0 ∧ ys = []) ∨ ∃ g cap, v = .slice (some ⟨g, 0, none⟩) ys.length cap ∧ base ≤ g ∧ g < w.heap.size := by
  rcases h.2 with ⟨hv, h0⟩ | ⟨g, cap, cur, hv, hb, hg, _⟩
  · exact .inl ⟨hv, List.eq_nil_of_length_eq_zero h0⟩
  · exact .inr ⟨g, cap, hv, hb, (Array.getElem?_eq_some_iff.1 hg).1⟩
theorem OwnI.rd {w : World} {base : Nat} {v : Value} {ys : List Int} (h : OwnI w base v ys) : ∃ A c, v = .slice A ys.length c ∧ RdI w A ys := by
  rcases h.form with ⟨rfl, rfl⟩ | ⟨g, cap, rfl, hb, hlt⟩
  · exact ⟨none, 0, rfl, fun h => absurd h (by simp)⟩
  · refine ⟨_, cap, rfl, fun h0 => ⟨g, 0, rfl, hlt, fun j hj => ?_⟩⟩
    rw [Nat.zero_add]
    exact h.cell rfl hj

def MarkIAt (B : Nat) (g m cap : Nat) (w : World) (k i : Value) (wr : World) : Prop :=
  ∃ q : Nat, q ≤ m ∧ k = .int .i64 (1 + (q : Int)) ∧ i = .int .i64 q ∧ ∃ zs, zs.length = m ∧ OwnI wr B (.slice (some ⟨g, 0, none⟩) m cap) zs ∧ (∀ p, p < q → zs.getD p 0 = 1 + (p : Int)) ∧ Below B w wr

set_option maxHeartbeats 1000000 in
theorem markI_some (B g m cap : Nat) (ys : List Int) (hl : ys.length = m) (hm : m ≤ 1048576) (w : World) (hO : OwnI w B (.slice (some ⟨g, 0, none⟩) m cap) ys) (hg : B ≤ g) :
    Calls Tryd.prog 33 #[.slice (some ⟨g, 0, none⟩) m cap, .int .i64 1] w fun e w' => e = .returned (.int .i64 (1 + (m : Int))) ∧ OwnI w' B (.slice (some ⟨g, 0, none⟩) m cap) (marksI m) ∧ Below B w w' := by
  have HL := Frame.hid hl
  have HO := Frame.hid hO
  have HG := Frame.hid hg
  clear hl hO hg
  go_enter Tryd.func33, Tryd.ntmps33
  go_wp2
  go_loopw [1, 5] (fun k i wr => MarkIAt B g m cap w k i wr) (fun _ i _ => m - (Go.RowKit.intOf i).toNat)
  case atStart => exact ⟨0, Nat.zero_le _, rfl, rfl, ys, HL.out, HO.out, fun p hp => by omega, Below.refl _ _⟩
  case round =>
    obtain ⟨q, hq, rfl, rfl, zs, hzl, hO, hz, hB⟩ := hrel
    by_cases hlt : q < m
    · have c1 := hO.cell hzl.symm (j := q) (by omega)
      have fz := hO.froz hzl.symm q
      have HZL := Frame.hid hzl
      have HO := Frame.hid hO
      have HZ := Frame.hid hz
      have HB := Frame.hid hB
      generalize zs.getD q 0 = a at c1
      clear hzl hO hz hB
      go_wp2
      go_roundw
      case rel =>
        refine ⟨q + 1, by omega, by go_num, by go_num, _, by rw [List.length_set]; exact HZL.out, OwnI.put HO.out HZL.out.symm q (1 + (q : Int)), fun p hp => ?_, HB.out.setCell (p := ⟨g, _, none⟩) HG.out _⟩
        rw [List.getD_eq_getElem?_getD]
        by_cases he : p = q
        · subst he
          rw [List.getElem?_set_self (by have := HZL.out; omega)]
          rfl
        · rw [List.getElem?_set_ne (by omega), ← List.getD_eq_getElem?_getD]
          exact HZ.out p (by omega)
      case measure => simp [Go.RowKit.intOf]; omega
    · have hqm : q = m := by omega
      subst hqm
      have HO := Frame.hid (show OwnI wr B (.slice (some ⟨g, 0, none⟩) q cap) (marksI q) by rw [← marksI_of hzl hz]; exact hO)
      have HB := Frame.hid hB
      clear hzl hO hz hB
      go_wp2
      go_ret
      exact ⟨rfl, HO.out, HB.out⟩

set_option maxHeartbeats 1000000 in
theorem heldI_some (B g m cap : Nat) (hm : m ≤ 1048576) (w : World) (hO : OwnI w B (.slice (some ⟨g, 0, none⟩) m cap) (marksI m)) :
    Calls Tryd.prog 34 #[.slice (some ⟨g, 0, none⟩) m cap, .int .i64 1] w fun e w' => e = .returned (.int .i64 (1 + (m : Int))) ∧ w = w' := by
  have HO := Frame.hid hO
  clear hO
  go_enter Tryd.func34, Tryd.ntmps34
  go_wp2
  go_loopw [1, 5] (fun k i wr => ∃ q : Nat, q ≤ m ∧ k = .int .i64 (1 + (q : Int)) ∧ i = .int .i64 q ∧ wr = w) (fun _ i _ => m - (Go.RowKit.intOf i).toNat)
  case atStart => exact ⟨0, Nat.zero_le _, rfl, rfl, rfl⟩
  case round =>
    obtain ⟨q, hq, rfl, rfl, rfl⟩ := hrel
    by_cases hlt : q < m
    · have c1 := HO.out.cell (marksI_len m).symm (j := q) (by rw [marksI_len]; omega)
      rw [marksI_get hlt] at c1
      go_wp2
      go_roundw
      case rel => exact ⟨q + 1, by omega, by go_num, by go_num, by first | rfl | trivial⟩
      case measure => simp [Go.RowKit.intOf]; omega
    · have hqm : q = m := by omega
      subst hqm
      go_wp2
      go_ret
      first | exact ⟨rfl, trivial⟩ | exact ⟨rfl, rfl⟩

theorem markI_nil (w : World) : Calls Tryd.prog 33 #[.slice none 0 0, .int .i64 1] w fun e w' => e = .returned (.int .i64 1) ∧ w = w' := by
  go_enter Tryd.func33, Tryd.ntmps33
  go_wp2
  go_loopw [1, 5] (fun k i wr => k = .int .i64 1 ∧ i = .int .i64 0 ∧ wr = w) (fun _ _ _ => 0)
  case atStart => exact ⟨rfl, rfl, rfl⟩
  case round =>
    obtain ⟨rfl, rfl, rfl⟩ := hrel
    go_wp2
    go_ret
    exact ⟨rfl, rfl⟩
theorem heldI_nil (w : World) : Calls Tryd.prog 34 #[.slice none 0 0, .int .i64 1] w fun e w' => e = .returned (.int .i64 1) ∧ w = w' := by
  go_enter Tryd.func34, Tryd.ntmps34
  go_wp2
  go_loopw [1, 5] (fun k i wr => k = .int .i64 1 ∧ i = .int .i64 0 ∧ wr = w) (fun _ _ _ => 0)
  case atStart => exact ⟨rfl, rfl, rfl⟩
  case round =>
    obtain ⟨rfl, rfl, rfl⟩ := hrel
    go_wp2
    go_ret
    exact ⟨rfl, rfl⟩

theorem markI_calls (B : Nat) (v : Value) (ys : List Int) (hm : ys.length ≤ 1048576) (w : World) (hO : OwnI w B v ys) :
    Calls Tryd.prog 33 #[v, .int .i64 1] w fun e w' => e = .returned (.int .i64 (1 + (ys.length : Int))) ∧ OwnI w' B v (marksI ys.length) ∧ Below B w w' := by
  rcases hO.form with ⟨rfl, rfl⟩ | ⟨g, cap, rfl, hb, hlt⟩
  · refine (markI_nil w).mono ?_
    rintro e w' ⟨rfl, rfl⟩
    exact ⟨rfl, hO, Below.refl _ _⟩
  · exact markI_some B g _ cap ys rfl hm w hO hb
theorem heldI_calls (B : Nat) (v : Value) (m : Nat) (hm : m ≤ 1048576) (w : World) (hO : OwnI w B v (marksI m)) :
    Calls Tryd.prog 34 #[v, .int .i64 1] w fun e w' => e = .returned (.int .i64 (1 + (m : Int))) ∧ w = w' := by
  rcases hO.form with ⟨rfl, h0⟩ | ⟨g, cap, rfl, hb, hlt⟩
  · have : m = 0 := by rw [← marksI_len m, h0]; rfl
    subst this
    exact heldI_nil w
  · rw [marksI_len] at hO ⊢
    exact heldI_some B g m cap hm w hO

/-- What both sides answer, in one piece. -/
def RlW (l : List UInt8) (w : World) (e : Ending) (w' : World) : Prop :=
  ∃ v xs b, e = .returned (.tuple #[v, .bool b]) ∧ xs.length ≤ 64 ∧ ((b = true ∧ OkA l xs) ∨ (b = false ∧ BadA l ∧ xs = [])) ∧ OwnI w' w.heap.size v xs ∧ Below w.heap.size w w'
theorem RlV.one {l : List UInt8} {w w' : World} {e : Ending} (h : RlV l w e w') : RlW l w e w' := by
  obtain ⟨⟨v, xs, rfl, hA, hO⟩ | ⟨hA, rfl⟩, hB⟩ := h
  · refine ⟨v, xs, true, rfl, ?_, .inl ⟨rfl, hA⟩, hO, hB⟩
    rcases hA with ⟨_, rfl⟩ | ⟨_, h, _⟩
    · simp
    · exact h
  · exact ⟨_, [], false, rfl, by simp, .inr ⟨rfl, hA, rfl⟩, World.ownsRow_nil _ _ _ _, hB⟩
theorem rl_same {l : List UInt8} {xs ys : List Int} {b c : Bool} (h : (b = true ∧ OkA l xs) ∨ (b = false ∧ BadA l ∧ xs = [])) (g : (c = true ∧ OkA l ys) ∨ (c = false ∧ BadA l ∧ ys = [])) : ys = xs ∧ c = b := by
  rcases h with ⟨rfl, h⟩ | ⟨rfl, h, rfl⟩ <;> rcases g with ⟨rfl, g⟩ | ⟨rfl, g, rfl⟩
  · exact ⟨h.same g, rfl⟩
  · exact (h.not g).elim
  · exact (g.not h).elim
  · exact ⟨rfl, rfl⟩

set_option maxHeartbeats 2000000 in
theorem readList_law (s : ByteArray) (hmax : s.size ≤ 1048576) (w : World) (m : Int) (hm : w.cell? ⟨6, 0, none⟩ = some (.int .i64 m)) (tp tq : TypeId) (p q : Value) (hS : w.var? Tryd.prog "strconv.ErrSyntax" = some #[.iface tp p]) (hR : w.var? Tryd.prog "strconv.ErrRange" = some #[.iface tq q])
    (htab : TabIs Tryd.prog w "internal/strconv.uint64pow10" .u64 pow10Tab) : Calls Tryd.prog 9 #[.string s] w fun e w' => e = .returned (.bool true) ∧ Below w.heap.size w w' := by
  have HT := Frame.hid (tabBelow_of_tabIs htab)
  have HS := Frame.hid hS
  have HR := Frame.hid hR
  have HM := Frame.hid hm
  clear htab hS hR hm
  go_enter Tryd.func9, Tryd.ntmps9
  go_wp2_with fail
  refine (specReadList_calls s hmax _).mono ?_
  rintro e w1 h1
  obtain ⟨v1, xs, b, rfl, hl1, hA1, hO1, hB1⟩ := h1.one
  have HL1 := Frame.hid hl1
  have HA1 := Frame.hid hA1
  have HO1 := Frame.hid hO1
  have HB1 := Frame.hid hB1
  clear h1 hl1 hA1 hO1 hB1
  go_wp2_with fail
  refine (readList_calls s hmax _ m (cell_below HM.out HB1.out) tp tq p q (var_below HS.out HB1.out) (var_below HR.out HB1.out) (HT.out.on HB1.out).here).mono ?_
  rintro e w2 h2
  obtain ⟨v2, ys, c, rfl, hl2, hA2, hO2, hB2⟩ := h2.one
  obtain ⟨e1, e2⟩ := rl_same HA1.out hA2
  subst e1
  subst e2
  have HO2 := Frame.hid hO2
  have HO12 := Frame.hid (HO1.out.below (hB2.mono (Nat.le_refl _)))
  have HB2 := Frame.hid hB2
  clear h2 hl2 hA2 hO2 hB2
  go_wp2_with fail
  obtain ⟨A1, c1, rfl, hr1⟩ := HO12.out.rd
  obtain ⟨A2, c2, rfl, hr2⟩ := HO2.out.rd
  refine (eqInt64S_calls _ _ ys _ _ _ (by have := HL1.out; omega) hr2 hr1).mono ?_
  rintro e w3 ⟨rfl, m3, rfl⟩
  have hcc : (c != c) = false := by cases c <;> rfl
  clear hr1 hr2
  go_wp2_with fail
  refine (markI_calls _ _ ys (by have := HL1.out; omega) _ (HO2.out.below (below_drewN (Below.refl _ _) m3))).mono ?_
  rintro e w4 ⟨rfl, hO4, hB4⟩
  have HB14 := Frame.hid ((below_drewN HB2.out m3).trans hB4)
  have HO4 := Frame.hid hO4
  clear hO4 hB4
  go_wp2_with fail
  refine (heldI_calls _ _ ys.length (by have := HL1.out; omega) _ HO4.out).mono ?_
  rintro e w' ⟨rfl, rfl⟩
  go_wp2_with fail
  have hB04 := HB1.out.trans (HB14.out.mono HB1.out.size)
  have HB04 := Frame.hid hB04
  clear hB04
  refine (readList_calls s hmax _ m (cell_below HM.out HB04.out) tp tq p q (var_below HS.out HB04.out) (var_below HR.out HB04.out) (HT.out.on HB04.out).here).mono ?_
  rintro e w5 h5
  obtain ⟨v5, zs, d, rfl, hl5, hA5, hO5, hB5⟩ := h5.one
  obtain ⟨e1, e2⟩ := rl_same HA1.out hA5
  subst e1
  subst e2
  have HO5 := Frame.hid hO5
  have HM5 := Frame.hid (HO4.out.below hB5)
  have HB15 := Frame.hid (HB14.out.trans (hB5.mono HB14.out.size))
  clear h5 hl5 hA5 hO5 hB5
  go_wp2_with fail
  have hr1 : RdI w5 A1 zs := by
    obtain ⟨A', c', hv, hr⟩ := (HO1.out.below HB15.out).rd
    cases hv
    exact hr
  obtain ⟨A5, c5, rfl, hr5⟩ := HO5.out.rd
  refine (eqInt64S_calls _ _ zs _ _ _ (by have := HL1.out; omega) hr5 hr1).mono ?_
  rintro e w6 ⟨rfl, m6, rfl⟩
  clear hr1 hr5
  have hdd : (d != d) = false := by cases d <;> rfl
  go_wp2_with fail
  refine (heldI_calls _ _ zs.length (by have := HL1.out; omega) _ (HM5.out.below (below_drewN (Below.refl _ _) m6))).mono ?_
  rintro e w' ⟨rfl, rfl⟩
  go_wp2_with fail
  go_ret
  exact ⟨rfl, below_drewN (HB1.out.trans (HB15.out.mono HB1.out.size)) _⟩

theorem fnExactReadList_walk (s : ByteArray) (hs : s.size ≤ maxLen) (w : World) (m : Int) (hm : w.cell? ⟨6, 0, none⟩ = some (.int .i64 m)) (tp tq : TypeId) (p q : Value) (hS : w.var? Tryd.prog "strconv.ErrSyntax" = some #[.iface tp p]) (hR : w.var? Tryd.prog "strconv.ErrRange" = some #[.iface tq q])
    (htab : TabIs Tryd.prog w "internal/strconv.uint64pow10" .u64 pow10Tab) : Calls Tryd.prog 9 #[.string s] w fun e w' => e = .returned (.bool true) ∧ Below w.heap.size w w' := by
  by_cases h : s.size ≤ 1048576
  · exact readList_law s h w m hm tp tq p q hS hR htab
  · unfold maxLen at hs
    clear hS hR htab hm
    have h2 : 1048576 < s.size := by omega
    clear h
    go_enter Tryd.func9, Tryd.ntmps9
    go_wp2_with fail
    go_ret
    exact ⟨rfl, Below.refl _ _⟩

end Go.Proofs.YtnflmdlhcjjfdacDoor
