/-
  ReadList: what both sides answer, and the specification's side, walked.
-/
import Derived.Test.YtnflmdlhcjjfdacDoorCw
namespace Go.Proofs.YtnflmdlhcjjfdacDoor
open Go.RowKit Go.Lib Rd Go.WideShapes

/-- A slice of integers of the call's own. -/
def OwnI (w : World) (base : Nat) (v : Value) (xs : List Int) : Prop := w.ownsRow base 2 1 v xs.length (xs.map (Value.int .i64))
theorem none_litI (w : World) : OwnI (w.alloc (.cells #[] 2)) w.heap.size (.slice (some ⟨w.heap.size, 0, none⟩) 0 0) [] :=
  World.ownsRow_lit w #[] 0 (Nat.le_refl _) (by unfold maxLen; omega) rfl
theorem own_appI {w3 : World} {B k : Nat} {x : Int} {v' : Value} {out : List Int} (hk : k = out.length) (h : w3.ownsRow B 2 1 v' (k + 1) (out.map (Value.int .i64) ++ [.int .i64 x])) :
    ∃ g cap, v' = .slice (some ⟨g, 0, none⟩) (k + 1) cap ∧ OwnI w3 B v' (out ++ [x]) := by
  have h2 : OwnI w3 B v' (out ++ [x]) := by
    unfold OwnI
    rw [List.length_append, List.map_append, ← hk]
    exact h
  rcases h.2 with ⟨_, h0⟩ | ⟨g, cap, cur, hv, _⟩
  · omega
  · exact ⟨g, cap, hv, h2⟩
theorem rows_apart {w : World} {B B' n n' : Nat} {e e' : TypeId} {v v' : Value} {xs xs' : List Value} (h : w.ownsRow B e 1 v n xs) (h' : w.ownsRow B' e' 1 v' n' xs') (hne : e ≠ e') : v.ownBlock = none ∨ v.ownBlock ≠ v'.ownBlock := by
  rcases h.2 with ⟨rfl, _⟩ | ⟨g, cap, cur, rfl, _, hg, _⟩
  · exact .inl rfl
  · right
    rcases h'.2 with ⟨rfl, _⟩ | ⟨g', cap', cur', rfl, _, hg', _⟩
    · simp [Value.ownBlock]
    · simp only [Value.ownBlock]
      intro e
      injection e with e
      rw [e, hg'] at hg
      injection hg with hg
      injection hg with _ hg _
      exact hne hg.symm
theorem own_mono {w : World} {base base' : Nat} {e : TypeId} {v : Value} {n : Nat} {xs : List Value} (h : w.ownsRow base e 1 v n xs) (hb : base' ≤ base) : w.ownsRow base' e 1 v n xs := by
  refine ⟨h.1, ?_⟩
  rcases h.2 with hn | ⟨g, cap, cur, hv, hbg, rest⟩
  · exact .inl hn
  · exact .inr ⟨g, cap, cur, hv, by omega, rest⟩
theorem OwnT.cell {w : World} {base g n cap : Nat} {ps : List ByteArray} (h : OwnT w base (.slice (some ⟨g, 0, none⟩) n cap) ps) (hn : n = ps.length) {j : Nat} {p : ByteArray} (hp : ps[j]? = some p) : w.cell? ⟨g, j, none⟩ = some (.string p) := by
  subst hn
  have := World.ownsRow.cellAt h j (by have := (List.getElem?_eq_some_iff.1 hp).1; omega)
  rw [this, List.getElem?_map, hp]
  rfl

def noneT : List UInt8 := [110, 111, 110, 101]
def OkA (l : List UInt8) (xs : List Int) : Prop := (l = noneT ∧ xs = []) ∨ (l ≠ noneT ∧ xs.length ≤ 64 ∧ xs.length = (Ct.cut 44 l).length ∧ ∀ (j : Nat) x, xs[j]? = some x → ∃ p, (Ct.cut 44 l)[j]? = some p ∧ Want p x)
def BadA (l : List UInt8) : Prop := l ≠ noneT ∧ (64 < (Ct.cut 44 l).length ∨ ∃ p ∈ Ct.cut 44 l, ∀ n, ¬ Want p n)
theorem OkA.same {l : List UInt8} {xs ys : List Int} (h : OkA l xs) (g : OkA l ys) : ys = xs := by
  rcases h with ⟨h1, h2⟩ | ⟨h1, h2, h3, h4⟩ <;> rcases g with ⟨g1, g2⟩ | ⟨g1, g2, g3, g4⟩
  · rw [h2, g2]
  · exact absurd h1 g1
  · exact absurd g1 h1
  · apply List.ext_getElem?
    intro j
    by_cases hj : j < xs.length
    · obtain ⟨p, e1, e2⟩ := h4 j _ (List.getElem?_eq_getElem hj)
      obtain ⟨q, e3, e4⟩ := g4 j _ (List.getElem?_eq_getElem (show j < ys.length by omega))
      rw [e1] at e3
      injection e3 with e3
      rw [← e3] at e4
      rw [List.getElem?_eq_getElem hj, List.getElem?_eq_getElem (show j < ys.length by omega), Want.one e2 e4]
    · rw [List.getElem?_eq_none (by omega), List.getElem?_eq_none (by omega)]
theorem OkA.not {l : List UInt8} {xs : List Int} (h : OkA l xs) (g : BadA l) : False := by
  rcases h with ⟨h1, h2⟩ | ⟨h1, h2, h3, h4⟩
  · exact g.1 h1
  · rcases g.2 with g2 | ⟨p, hp, hn⟩
    · omega
    · obtain ⟨j, hj, e⟩ := List.getElem_of_mem hp
      obtain ⟨q, e1, e2⟩ := h4 j _ (List.getElem?_eq_getElem (show j < xs.length by omega))
      rw [List.getElem?_eq_getElem hj] at e1
      injection e1 with e1
      rw [e] at e1
      rw [← e1] at e2
      exact hn _ e2

/-- What both sides answer. -/
def RlV (l : List UInt8) (w : World) (e : Ending) (w' : World) : Prop :=
  ((∃ v xs, e = .returned (.tuple #[v, .bool true]) ∧ OkA l xs ∧ OwnI w' w.heap.size v xs) ∨ (BadA l ∧ e = .returned (.tuple #[.slice none 0 0, .bool false]))) ∧ Below w.heap.size w w'

def NumAt (ps : List ByteArray) (gp cp n : Nat) (w : World) (v iv : Value) (wr : World) : Prop :=
  ∃ (k g cap : Nat) (xs : List Int), k ≤ n ∧ iv = .int .i64 k ∧ v = .slice (some ⟨g, 0, none⟩) k cap ∧ k = xs.length ∧ (∀ (j : Nat) x, xs[j]? = some x → ∃ p : ByteArray, ps[j]? = some p ∧ Want p.data.toList x) ∧
    OwnI wr w.heap.size v xs ∧ OwnT wr w.heap.size (.slice (some ⟨gp, 0, none⟩) n cp) ps ∧ Below w.heap.size w wr

theorem infoN : (Tryd.prog.info? 2).map (fun i => (i.zero, i.size, i.bytes)) = some (some (.int .i64 0), 1, 8) := by kernel_rfl

theorem cut_part (c : UInt8) (l : List UInt8) : ∀ p ∈ Ct.cut c l, p.length ≤ l.length := by
  induction l with
  | nil => intro p hp; simp [Ct.cut] at hp; simp [hp]
  | cons b l ih =>
    intro p hp
    by_cases h : b = c
    · subst h
      rw [Ct.cut_cons_eq] at hp
      rcases List.mem_cons.1 hp with rfl | hp
      · simp
      · have := ih p hp; simp; omega
    · cases hc : Ct.cut c l with
      | nil => have := Ct.cut_ne c l; rw [hc] at this; simp at this
      | cons q qs =>
        rw [Ct.cut_cons_ne l q qs h hc] at hp
        rw [hc] at ih
        rcases List.mem_cons.1 hp with rfl | hp
        · have := ih q (by simp); simp; omega
        · have := ih p (by simp [hp]); simp; omega
theorem part_le {s : ByteArray} {c : UInt8} {ps : List ByteArray} (h : Ct.cut c s.data.toList = ps.map (·.data.toList)) {j : Nat} {p : ByteArray} (hp : ps[j]? = some p) : p.size ≤ s.size := by
  have := cut_part c s.data.toList p.data.toList (by rw [h]; exact List.mem_map_of_mem (List.mem_of_getElem? hp))
  rwa [size_list, size_list] at this
theorem want_snoc {ps : List ByteArray} {xs : List Int} {p : ByteArray} {r : Int} (h : ∀ (j : Nat) x, xs[j]? = some x → ∃ p : ByteArray, ps[j]? = some p ∧ Want p.data.toList x) (hp : ps[xs.length]? = some p) (hw : Want p.data.toList r) :
    ∀ (j : Nat) x, (xs ++ [r])[j]? = some x → ∃ p : ByteArray, ps[j]? = some p ∧ Want p.data.toList x := by
  intro j x hx
  by_cases hj : j < xs.length
  · rw [List.getElem?_append_left hj] at hx
    exact h j x hx
  · rw [List.getElem?_append_right (by omega)] at hx
    have hj2 : j - xs.length < [r].length := (List.getElem?_eq_some_iff.1 hx).1
    have : j = xs.length := by simp at hj2; omega
    subst this
    simp at hx
    exact ⟨p, hp, by rw [← hx]; exact hw⟩
theorem ok_all {l : List UInt8} {ps : List ByteArray} {xs : List Int} (hn : l ≠ noneT) (hcut : Ct.cut 44 l = ps.map (·.data.toList)) (hl : xs.length = ps.length) (h64 : ps.length ≤ 64) (h : ∀ (j : Nat) x, xs[j]? = some x → ∃ p : ByteArray, ps[j]? = some p ∧ Want p.data.toList x) : OkA l xs := by
  refine .inr ⟨hn, by omega, by rw [hcut, List.length_map, hl], fun j x hx => ?_⟩
  obtain ⟨p, h1, h2⟩ := h j x hx
  exact ⟨_, by rw [hcut, List.getElem?_map, h1]; rfl, h2⟩
theorem bad_one {l : List UInt8} {ps : List ByteArray} {p : ByteArray} {j : Nat} (hn : l ≠ noneT) (hcut : Ct.cut 44 l = ps.map (·.data.toList)) (hp : ps[j]? = some p) (h : ∀ n, ¬ Want p.data.toList n) : BadA l :=
  ⟨hn, .inr ⟨p.data.toList, by rw [hcut]; exact List.mem_map_of_mem (List.mem_of_getElem? hp), h⟩⟩

set_option maxRecDepth 100000 in
set_option maxHeartbeats 4000000 in
theorem l01Numbers_calls (s : ByteArray) (hmax : s.size ≤ 1048576) (w : World) : Calls Tryd.prog 56 #[.string s] w (RlV s.data.toList w) := by
  obtain ⟨i0, hi, hz0, hz1, hz2⟩ := info_parts infoN
  by_cases hnone : s.data.toList = noneT
  · have hb : (s.toList == [110, 111, 110, 101]) = true := by rw [bytes_toList, hnone]; rfl
    have HN := Frame.hid hnone
    clear hnone
    go_enter Tryd.func56, Tryd.ntmps56
    go_wp2_with fail
    go_ret2
    exact ⟨.inl ⟨_, [], rfl, .inl ⟨HN.out, rfl⟩, none_litI w⟩, (Below.refl _ _).alloc (Nat.le_refl _) _⟩
  · have hb : (s.toList == [110, 111, 110, 101]) = false := by rw [bytes_toList, beq_eq_false_iff_ne]; exact hnone
    have HN := Frame.hid hnone
    clear hnone
    go_enter Tryd.func56, Tryd.ntmps56
    go_wp2_with fail
    refine (l01Cut_calls s 44 hmax _).mono ?_
    rintro e w1 ⟨gp, cp, ps, rfl, hcut, hT, hB1⟩
    obtain ⟨n, hpn⟩ : ∃ n, n = ps.length := ⟨_, rfl⟩
    rw [← hpn] at hT ⊢
    have HPN := Frame.hid hpn
    have HC := Frame.hid hcut
    have hsz1 := hB1.size
    have HOW := Frame.hid (own_below (none_litI w) hB1)
    have HT : Hid (OwnT w1 w.heap.size (.slice (some ⟨gp, 0, none⟩) n cp) ps) := by
      have h := own_mono hT (base' := w.heap.size) (by simp)
      exact h
    have HB1 : Hid (Below w.heap.size w w1) := (((Below.refl w.heap.size w).alloc (Nat.le_refl _) _)).trans (hB1.mono (by simp))
    clear hpn hcut hB1 hT hb
    by_cases h64 : 64 < n
    · go_wp2_with fail
      go_ret2
      exact ⟨.inr ⟨⟨HN.out, .inl (by have := HC.out; rw [this, List.length_map, ← HPN.out]; exact h64)⟩, rfl⟩, HB1.out⟩
    · go_wp2_with fail
      go_loopw [4, 6] (fun v i wr => NumAt ps gp cp n w v i wr) (fun _ i _ => n - (Go.RowKit.intOf i).toNat)
      case atStart => exact ⟨0, _, 0, [], Nat.zero_le _, rfl, rfl, rfl, fun j x hx => by simp at hx, HOW.out, HT.out, HB1.out⟩
      case round =>
        obtain ⟨k, g, cap, xs, hk, rfl, rfl, hkx, hW, hO, hT, hB⟩ := hrel
        have HKX := Frame.hid hkx
        have HW := Frame.hid hW
        have HO := Frame.hid hO
        have HT := Frame.hid hT
        have HB := Frame.hid hB
        clear hkx hW hO hT hB HOW HB1
        by_cases hlt : k < n
        · obtain ⟨p, hp⟩ : ∃ p, ps[k]? = some p := ⟨_, List.getElem?_eq_getElem (by have := HPN.out; omega)⟩
          have hc1 := HT.out.cell HPN.out hp
          have hpl := part_le HC.out hp
          have HP := Frame.hid hp
          clear hp
          go_wp2_with fail
          refine (l01Value_calls p (by omega) _).mono ?_
          rintro e w2 ⟨r, t, rfl, hA, hB2⟩
          have HO2 := Frame.hid (own_below HO.out hB2)
          have HT2 := Frame.hid (own_below HT.out hB2)
          have HB2 := Frame.hid (HB.out.trans (hB2.mono HB.out.size))
          have hsz := HB2.out.size
          clear hB2 hc1
          rcases hA with ⟨rfl, hw⟩ | ⟨rfl, rfl, hw⟩
          · have HWT := Frame.hid hw
            have hO1 : w2.ownsRow w.heap.size 2 1 (.slice (some ⟨g, 0, none⟩) k cap) k (xs.map (Value.int .i64)) := by have h := HO2.out; rwa [← HKX.out] at h
            have hgB : w.heap.size ≤ g := (World.ownsRow.lt hO1 g rfl).1
            have HGB := Frame.hid hgB
            clear hw hgB
            go_wp2_with (at_builtin; refine wpList_append_own _ rfl _ _ 41 rfl w.heap.size 2 i0 (.int .i64 0) 1 8 Tryd.underlying41 hi hz0 hz1 hz2 rfl (by decide) _ _ _ rfl (hO1.alloc _) ⟨w2.heap.size, 0, none⟩ 1 1 [.int .i64 r] rfl rfl (cell_one_new _ _ _) (fun x hx => by simp at hx; subst hx; rfl) (by unfold maxLen; omega) (by omega) (by simp; omega) ?_; intro v' w3 hown' hgrow3 hnil3; obtain ⟨g', cap', rfl, hO2⟩ := own_appI HKX.out hown')
            have hgrow4 : (w2.alloc (.cells #[.int .i64 r] 2)).grownBy w3 (some g) := hgrow3
            have HB3 : Hid (Below w.heap.size w w3) := Below.grown (HB2.out.alloc hsz _) hgrow4 (by simp; omega) (fun k hk => by injection hk with hk; rw [← hk]; exact HGB.out)
            have HT3 : Hid (OwnT w3 w.heap.size (.slice (some ⟨gp, 0, none⟩) n cp) ps) := World.ownsRow.kept (World.ownsRow.alloc HT2.out _) hgrow4 (rows_apart HT2.out hO1 (by decide))
            have HO3 := Frame.hid hO2
            clear hgrow3 hgrow4 hnil3 hown' hO1 hO2 hsz HB2 HT2
            go_roundw
            case rel => exact ⟨k + 1, g', cap', _, by omega, by go_num, rfl, by rw [List.length_append, HKX.out]; rfl, want_snoc HW.out (by rw [← HKX.out]; exact HP.out) HWT.out, HO3.out, HT3.out, HB3.out⟩
            case measure => simp [Go.RowKit.intOf]; omega
          · have HBAD := Frame.hid (bad_one HN.out HC.out HP.out hw)
            clear hw
            go_wp2_with fail
            go_ret2
            exact ⟨.inr ⟨HBAD.out, rfl⟩, HB2.out⟩
        · have hkn : k = n := by omega
          subst hkn
          have HOK := Frame.hid (ok_all HN.out HC.out (by rw [← HKX.out, HPN.out]) (by rw [← HPN.out]; omega) HW.out)
          go_wp2_with fail
          go_ret2
          exact ⟨.inl ⟨_, xs, rfl, HOK.out, HO.out⟩, HB.out⟩

theorem specReadList_calls (s : ByteArray) (hmax : s.size ≤ 1048576) (w : World) : Calls Tryd.prog 31 #[.string s] w (RlV s.data.toList w) := by
  go_enter Tryd.func31, Tryd.ntmps31
  go_wp2_with fail
  refine (l01Numbers_calls s hmax _).mono ?_
  rintro e w1 ⟨hA, hB⟩
  have HB := Frame.hid hB
  clear hB
  rcases hA with ⟨v, xs, rfl, hA, hO⟩ | ⟨hA, rfl⟩
  · have HA := Frame.hid hA
    have HO := Frame.hid hO
    clear hA hO
    go_wp2_with fail
    go_ret2
    exact ⟨.inl ⟨_, xs, rfl, HA.out, HO.out⟩, HB.out⟩
  · have HA := Frame.hid hA
    clear hA
    go_wp2_with fail
    go_ret2
    exact ⟨.inr ⟨HA.out, rfl⟩, HB.out⟩

end Go.Proofs.YtnflmdlhcjjfdacDoor
