/-
  Shares, walked on both sides.
-/
import Derived.Test.YtnflmdlhcjjfdaaSh
import Derived.OwnWalk
namespace Go.Proofs.Ytnflmdlhcjjfdaa
open Go.RowKit Fl Ieee
attribute [local go_sem] run_store_f

theorem OwnF.base_le {w : World} {base g n cap : Nat} {ys : List Nat} (h : OwnF w base (.slice (some ⟨g, 0, none⟩) n cap) ys) : base ≤ g := (World.ownsRow.lt h g rfl).1
theorem before_zero (ys : List Nat) : before ys 0 = 0 := rfl
theorem before_succ (ys : List Nat) (p : Nat) : before ys (p + 1) = ys.getD p 0 := rfl

set_option maxHeartbeats 1000000 in
theorem sharesAt_no (n : Int) (t : Nat) (hno : ¬ (1 ≤ n ∧ n ≤ 7 ∧ isShareB t = true)) (w : World) : Calls Try.prog 5 #[.int .i64 n, .float .f32 t] w (SharesNo w) := by
  unfold SharesNo
  rcases (by omega : n < 1 ∨ (1 ≤ n ∧ 7 < n) ∨ (1 ≤ n ∧ n ≤ 7)) with hc | ⟨hc, hc2⟩ | ⟨hc, hc2⟩
  · clear hno
    go_enter Try.func5, Try.ntmps5
    go_wp2_with fail
    go_ret2
    exact ⟨rfl, rfl⟩
  · clear hno
    go_enter Try.func5, Try.ntmps5
    go_wp2_with fail
    go_ret2
    exact ⟨rfl, rfl⟩
  · cases hs : isShareB t
    · clear hno
      go_enter Try.func5, Try.ntmps5
      go_wp2_with (go_at_call 11; refine (isShare_calls _ _).mono ?_; rintro e w' ⟨rfl, rfl⟩; rw [hs])
      go_ret2
      exact ⟨rfl, rfl⟩
    · exact absurd ⟨hc, hc2, hs⟩ hno

def ShOut (n t : Nat) (w : World) (v i : Value) (wr : World) : Prop :=
  ∃ j : Nat, j ≤ n ∧ i = .int .i64 j ∧ ∃ g cap ys, v = .slice (some ⟨g, 0, none⟩) (j + 1) cap ∧ ShR t j ys ∧ OwnF wr w.heap.size v ys ∧ Below w.heap.size w wr
def ShIn (t : Nat) (w : World) (ys : List Nat) (j : Nat) (v : Value) (k : Value) (wr : World) : Prop :=
  ∃ i q : Nat, q + i = j + 2 ∧ k = .int .i64 ((q : Int) - 1) ∧ ∃ zs, Half t ys zs i ∧ OwnF wr w.heap.size v zs ∧ Below w.heap.size w wr

theorem own_app {w3 : World} {B m : Nat} {v' : Value} {ys : List Nat} {r : Nat} (hm : ys.length = m) (h : w3.ownsRow B 22 1 v' (m + 1) (fl ys ++ [.float .f32 r])) : ∃ g cap, v' = .slice (some ⟨g, 0, none⟩) (m + 1) cap ∧ OwnF w3 B v' (ys ++ [r]) := by
  have e : fl ys ++ [.float .f32 r] = fl (ys ++ [r]) := by rw [← fl_app]; rfl
  rw [e] at h
  subst hm
  have h' : OwnF w3 B v' (ys ++ [r]) := by unfold OwnF; rw [List.length_append]; exact h
  obtain ⟨g, cap, hv, _⟩ := h'.shape (by simp)
  exact ⟨g, cap, by rw [hv]; simp, h'⟩

theorem own_drew {w : World} {base : Nat} {e : TypeId} {size : Nat} {v : Value} {n : Nat} {xs : List Value} (h : w.ownsRow base e size v n xs) (k : Nat) : (w.drewN k).ownsRow base e size v n xs := h
theorem sp_step {w wr w3 : World} {B g2 g m cap : Nat} {ys : List Nat} (hO : OwnF wr w.heap.size (.slice (some ⟨g, 0, none⟩) m cap) ys) (hgB : g < B) (hB : Below w.heap.size w wr) (hwB : w.heap.size ≤ B) (k : Nat) (o : Obj)
    (hgrow : ((wr.drewN k).alloc o).grownBy w3 (some g2)) (hg2 : B ≤ g2) : OwnF w3 w.heap.size (.slice (some ⟨g, 0, none⟩) m cap) ys ∧ Below w.heap.size w w3 := by
  refine ⟨OwnF.grown (w := (wr.drewN k).alloc o) (World.ownsRow.alloc (own_drew hO k) o) hgrow (fun k' hk g' hg' => ?_), Below.grown ((below_drewN hB k).alloc hB.size o) hgrow (by have := hB.size; simp; omega) (fun k' hk => ?_)⟩
  · injection hk with hk
    injection hg' with hg'
    have hg'' : g = g' := hg'
    omega
  · injection hk with hk
    omega

theorem one_lit (w : World) : OwnF (w.alloc (.cells #[.float .f32 1065353216] 22)) w.heap.size (.slice (some ⟨w.heap.size, 0, none⟩) 1 1) [1065353216] :=
  World.ownsRow_lit w #[.float .f32 1065353216] 1 (Nat.le_refl _) (by unfold maxLen; omega) rfl

set_option maxHeartbeats 4000000 in
theorem sharesAt_yes (n : Nat) (hc1 : 1 ≤ n) (hc2 : n ≤ 7) (t : Nat) (hs : isShareB t = true) (w : World) : Calls Try.prog 5 #[.int .i64 n, .float .f32 t] w (SharesOk n t w) := by
  obtain ⟨i0, hi, hz0, hz1, hz2⟩ := info_parts Try.infoF
  go_enter Try.func5, Try.ntmps5
  go_wp2_with (go_at_call 11; refine (isShare_calls _ _).mono ?_; rintro e w' ⟨rfl, rfl⟩; rw [hs])
  clear hs
  go_loopw [6, 22] (fun v i wr => ShOut n t w v i wr) (fun _ i _ => n - (intOf i).toNat)
  case atStart => exact ⟨0, Nat.zero_le _, rfl, _, _, [1065353216], rfl, rfl, one_lit w, (Below.refl _ _).alloc (Nat.le_refl _) _⟩
  case round =>
    obtain ⟨j, hj, rfl, g, cap, ys, rfl, hR, hO, hB⟩ := hrel
    by_cases hlt : j < n
    · have hlen := hR.len
      have hsz := hB.size
      have hO1 : wr.ownsRow w.heap.size 22 1 (.slice (some ⟨g, 0, none⟩) (j + 1) cap) (j + 1) (fl ys) := by have h := hO; unfold OwnF at h; rwa [hlen] at h
      have hgB : w.heap.size ≤ g := (World.ownsRow.lt hO g rfl).1
      have HR := Frame.hid hR
      have HLEN := Frame.hid hlen
      have HGB := Frame.hid hgB
      have HB := Frame.hid hB
      clear hR hO hB hlen hgB
      go_wp2_with (at_builtin; refine wpList_append_own _ rfl _ _ 23 rfl w.heap.size 22 i0 (.float .f32 0) 1 4 Try.underlying23 hi hz0 hz1 hz2 rfl (by decide) _ _ _ rfl (hO1.alloc _) ⟨wr.heap.size, 0, none⟩ 1 1 [.float .f32 0] rfl rfl (cell_one_new _ _ _) (fun x hx => by simp at hx; subst hx; rfl) (by unfold maxLen; omega) (by omega) (by simp; omega) ?_; intro v' w3 hown' hgrow3 hnil3; obtain ⟨g', cap', rfl, hO2⟩ := own_app HLEN.out hown')
      have hgrow4 : (wr.alloc (.cells #[.float .f32 0] 22)).grownBy w3 (some g) := hgrow3
      have HB2 : Hid (Below w.heap.size w w3) := Below.grown (HB.out.alloc hsz _) hgrow4 (by simp; omega) (fun k hk => by injection hk with hk; rw [← hk]; exact HGB.out)
      have HO2 := Frame.hid hO2
      clear hgrow3 hgrow4 hnil3 hown' hO1 hO2 hsz HB
      go_loopw [7] (fun k wr => ShIn t w ys j (.slice (some ⟨g', 0, none⟩) (j + 1 + 1) cap') k wr) (fun k _ => (intOf k + 1).toNat)
      case atStart => exact ⟨0, j + 2, by omega, by simp; omega, ys ++ [0], half_start t ys, HO2.out, HB2.out⟩
      case round =>
        obtain ⟨i, q, hqi, rfl, zs, hH, hO, hB⟩ := hrel
        have hzl : zs.length = j + 1 + 1 := by rw [hH.1, HLEN.out]
        rcases q with _ | _ | p
        · -- the end of the round
          have HH := Frame.hid hH
          have HO := Frame.hid hO
          have HB3 := Frame.hid hB
          clear hH hO hB HB2 HO2
          go_wp2_with fail
          go_roundw
          case rel =>
            have hi : i = ys.length + 1 := by rw [HLEN.out]; omega
            exact ⟨j + 1, by omega, by go_num, g', cap', zs, rfl, half_end HR.out (by rw [← hi]; exact HH.out), HO.out, HB3.out⟩
          case measure => simp [intOf]; omega
        · have c1 := hO.cell hzl.symm (j := 0) (by omega)
          have fz := hO.froz hzl.symm 0
          have HH := Frame.hid hH
          have HO := Frame.hid hO
          have HB3 := Frame.hid hB
          have HZL := Frame.hid hzl
          clear hH hO hB HB2 HO2 hzl
          obtain ⟨a, ha⟩ : ∃ a, a = zs.getD 0 0 := ⟨_, rfl⟩
          rw [← ha] at c1
          have HA := Frame.hid ha
          clear ha
          go_wp2_with (refine wpList_arith rfl _ _ _ _ _ rfl rfl _ _ _ rfl rfl ?_; intro r n hr hl)
          rename_i s_ n1_ hs ls p_ n2_ hp lp q_ n3_ hq lq _
          go_roundw
          case rel =>
            have hq0 : 0 + i = ys.length := by rw [HLEN.out]; omega
            have hst : ShStep t (ys.getD 0 0) (before ys 0) r := ⟨s_, p_, q_, hs, by rw [← HH.out.2.1 0 (by omega), ← HA.out]; exact hp, by rw [before_zero]; exact hq, hr⟩
            exact ⟨i + 1, 0, by omega, by simp, _, half_step HH.out hq0 hst, OwnF.put (HO.out) HZL.out.symm 0 r, (below_drewN HB3.out _).setCell (p := ⟨g', _, none⟩) HO.out.base_le _⟩
          case measure => simp [intOf]
        · have c1 := hO.cell hzl.symm (j := p + 1) (by omega)
          have c0 := hO.cell hzl.symm (j := p) (by omega)
          have fz := hO.froz hzl.symm (p + 1)
          have HH := Frame.hid hH
          have HO := Frame.hid hO
          have HB3 := Frame.hid hB
          have HZL := Frame.hid hzl
          clear hH hO hB HB2 HO2 hzl
          obtain ⟨a, ha⟩ : ∃ a, a = zs.getD (p + 1) 0 := ⟨_, rfl⟩
          obtain ⟨b, hb⟩ : ∃ b, b = zs.getD p 0 := ⟨_, rfl⟩
          rw [← ha] at c1
          rw [← hb] at c0
          have HA := Frame.hid ha
          have HBB := Frame.hid hb
          clear ha hb
          go_wp2_with (refine wpList_arith rfl _ _ _ _ _ rfl rfl _ _ _ rfl rfl ?_; intro r n hr hl)
          rename_i s_ n1_ hs ls p_ n2_ hp lp q_ n3_ hq lq _
          go_roundw
          case rel =>
            have hq0 : p + 1 + i = ys.length := by rw [HLEN.out]; omega
            have hst : ShStep t (ys.getD (p + 1) 0) (before ys (p + 1)) r := ⟨s_, p_, q_, hs, by rw [← HH.out.2.1 (p + 1) (by omega), ← HA.out]; exact hp, by rw [before_succ, ← HH.out.2.1 p (by omega), ← HBB.out]; exact hq, hr⟩
            exact ⟨i + 1, p + 1, by omega, by simp, _, half_step HH.out hq0 hst, OwnF.put (HO.out) HZL.out.symm (p + 1) r, (below_drewN HB3.out _).setCell (p := ⟨g', _, none⟩) HO.out.base_le _⟩
          case measure => simp [intOf]; omega
    · have hjn : j = n := by omega
      subst hjn
      have hlen := hR.len
      have HR := Frame.hid hR
      have HO := Frame.hid hO
      have HB := Frame.hid hB
      clear hR hO hB
      go_wp2_with fail
      go_ret2
      exact ⟨g, cap, ys, by rw [hlen]; rfl, HR.out, by rw [hlen]; exact HO.out, HB.out⟩


set_option maxHeartbeats 1000000 in
theorem specShares_no (n : Int) (t : Nat) (hno : ¬ (1 ≤ n ∧ n ≤ 7 ∧ isShareB t = true)) (w : World) : Calls Try.prog 4 #[.int .i64 n, .float .f32 t] w (SharesNo w) := by
  unfold SharesNo
  by_cases hc : 1 ≤ n ∧ n ≤ 7
  · have hs : isShareB t = false := by
      cases hs : isShareB t
      · rfl
      · exact absurd ⟨hc.1, hc.2, hs⟩ hno
    have HD : Hid ((decide (1 ≤ n) && decide (n ≤ 7)) = true) := by show _ = true; simp [hc]
    clear hno
    go_enter Try.func4, Try.ntmps4
    go_wp2_with (first | (go_at_call 9; refine (l00In_calls _ _ _ _).mono ?_; rintro e w' ⟨rfl, rfl⟩; rw [HD.out]) | (go_at_call 10; refine (l02Share_calls _ _).mono ?_; rintro e w' ⟨rfl, rfl⟩; rw [hs]))
    go_ret2
    exact ⟨rfl, rfl⟩
  · have HD : Hid ((decide (1 ≤ n) && decide (n ≤ 7)) = false) := by show _ = false; rw [Bool.and_eq_false_iff, decide_eq_false_iff_not, decide_eq_false_iff_not]; omega
    clear hno hc
    go_enter Try.func4, Try.ntmps4
    go_wp2_with (go_at_call 9; refine (l00In_calls _ _ _ _).mono ?_; rintro e w' ⟨rfl, rfl⟩; rw [HD.out])
    go_ret2
    exact ⟨rfl, rfl⟩

def SpOut (n t : Nat) (w : World) (v i : Value) (wr : World) : Prop :=
  ∃ j : Nat, j ≤ n ∧ i = .int .i64 j ∧ ∃ g cap ys, v = .slice (some ⟨g, 0, none⟩) (j + 1) cap ∧ ShR t j ys ∧ OwnF wr w.heap.size v ys ∧ Below w.heap.size w wr
/-- The first numbers of the next list. -/
def Begun (t : Nat) (ys zs : List Nat) (q : Nat) : Prop := zs.length = q ∧ ∀ i, i < q → ShStep t (ys.getD i 0) (before ys i) (zs.getD i 0)
theorem begun_step {t : Nat} {ys zs : List Nat} {q r : Nat} (h : Begun t ys zs q) (hr : ShStep t (ys.getD q 0) (before ys q) r) : Begun t ys (zs ++ [r]) (q + 1) := by
  refine ⟨by simp [h.1], fun i hi => ?_⟩
  rw [getD_snoc, h.1]
  by_cases hq : i = q
  · rw [if_pos hq, hq]; exact hr
  · rw [if_neg hq]; exact h.2 i (by omega)
def SpIn (t : Nat) (w : World) (now : Value) (ys : List Nat) (B j : Nat) (v k : Value) (wr : World) : Prop :=
  ∃ q : Nat, q ≤ j + 2 ∧ k = .int .i64 q ∧ ∃ g cap zs, v = .slice (some ⟨g, 0, none⟩) q cap ∧ Begun t ys zs q ∧ OwnF wr B v zs ∧ OwnF wr w.heap.size now ys ∧ Below w.heap.size w wr ∧ B ≤ wr.heap.size

set_option maxHeartbeats 4000000 in
theorem specShares_yes (n : Nat) (hc1 : 1 ≤ n) (hc2 : n ≤ 7) (t : Nat) (hs : isShareB t = true) (w : World) : Calls Try.prog 4 #[.int .i64 n, .float .f32 t] w (SharesOk n t w) := by
  obtain ⟨i0, hi, hz0, hz1, hz2⟩ := info_parts Try.infoF
  have HD : Hid ((decide ((1 : Int) ≤ (n : Int)) && decide ((n : Int) ≤ 7)) = true) := by show _ = true; rw [Bool.and_eq_true, decide_eq_true_eq, decide_eq_true_eq]; omega
  go_enter Try.func4, Try.ntmps4
  go_wp2_with (first | (go_at_call 9; refine (l00In_calls _ _ _ _).mono ?_; rintro e w' ⟨rfl, rfl⟩; rw [HD.out]) | (go_at_call 10; refine (l02Share_calls _ _).mono ?_; rintro e w' ⟨rfl, rfl⟩; rw [hs]))
  clear hs
  go_loopw [6, 7] (fun v i wr => SpOut n t w v i wr) (fun _ i _ => n - (intOf i).toNat)
  case atStart => exact ⟨0, Nat.zero_le _, rfl, _, _, [1065353216], rfl, rfl, one_lit w, (Below.refl _ _).alloc (Nat.le_refl _) _⟩
  case round =>
    obtain ⟨j, hj, rfl, g, cap, ys, rfl, hR, hO, hB⟩ := hrel
    by_cases hlt : j < n
    · have hlen := hR.len
      have hsz := hB.size
      have hg := World.ownsRow.lt hO g rfl
      obtain ⟨B, hBB⟩ : ∃ B, B = wr.heap.size := ⟨_, rfl⟩
      have HST : Hid (SpIn t w (.slice (some ⟨g, 0, none⟩) (j + 1) cap) ys B j (.slice (some ⟨wr.heap.size, 0, none⟩) 0 0) (.int .i64 0) (wr.alloc (.cells #[] 22))) :=
        ⟨0, by omega, rfl, _, _, [], rfl, ⟨rfl, fun i hi => by omega⟩, by rw [hBB]; exact World.ownsRow_lit wr #[] 0 (Nat.le_refl _) (by unfold maxLen; omega) rfl, World.ownsRow.alloc hO _, hB.alloc hsz _, by rw [hBB]; simp⟩
      have HR := Frame.hid hR
      have HLEN := Frame.hid hlen
      have HG : Hid (g < B ∧ w.heap.size ≤ B) := ⟨by omega, by omega⟩
      clear hR hO hB hlen hg hsz hBB
      go_wp2_with fail
      go_loopw [8, 9] (fun v k wr => SpIn t w (.slice (some ⟨g, 0, none⟩) (j + 1) cap) ys B j v k wr) (fun _ k _ => j + 2 - (intOf k).toNat)
      case atStart => exact HST.out
      case round =>
        obtain ⟨q, hq, rfl, g2, cap2, zs, rfl, hH, hO2, hO, hB, hBs⟩ := hrel
        have hzl := hH.1
        by_cases hq2 : q < j + 2
        · have hO1 : wr.ownsRow B 22 1 (.slice (some ⟨g2, 0, none⟩) q cap2) q (fl zs) := by have h := hO2; unfold OwnF at h; rwa [hzl] at h
          have hsz := hB.size
          have HH := Frame.hid hH
          have HG2 := Frame.hid hO2.base_le
          rcases q with _ | p
          · have c1 := hO.cell HLEN.out.symm (j := 0) (by have := HLEN.out; omega)
            obtain ⟨a, ha⟩ : ∃ a, a = ys.getD 0 0 := ⟨_, rfl⟩
            rw [← ha] at c1
            have HA := Frame.hid ha
            have HO := Frame.hid hO
            have HB := Frame.hid hB
            have HZL := Frame.hid hzl
            clear ha hO hB hH hO2 hzl HST
            go_wp2_with (first | (refine wpList_arith rfl _ _ _ _ _ rfl rfl _ _ _ rfl rfl ?_; intro r n hr hl) | (at_builtin; refine wpList_append_own _ rfl _ _ 23 rfl B 22 i0 (.float .f32 0) 1 4 Try.underlying23 hi hz0 hz1 hz2 rfl (by decide) _ _ _ rfl ((own_drew hO1 _).alloc _) ⟨_, 0, none⟩ 1 1 [.float .f32 r] rfl rfl (cell_one_new _ _ _) (fun x hx => by simp at hx; subst hx; rfl) (by unfold maxLen; omega) (by omega) (by simp; omega) ?_; intro v' w3 hown' hgrow3 hnil3; obtain ⟨g', cap', rfl, hO2⟩ := own_app HZL.out hown'))
            rename_i s_ n1_ hs ls p_ n2_ hp lp q_ n3_ hq lq
            obtain ⟨k1, k2⟩ := sp_step HO.out HG.out.1 HB.out HG.out.2 _ _ hgrow3 HG2.out
            have hbs : B ≤ w3.heap.size := Nat.le_trans (Nat.le_trans hBs (by simp)) hgrow3.size
            have hst : ShStep t (ys.getD (0) 0) (before ys (0)) r := ⟨s_, p_, q_, hs, by rw [← HA.out]; exact hp, by rw [before_zero]; exact hq, hr⟩
            clear hgrow3 hnil3 hown'
            go_roundw
            case rel => exact ⟨0 + 1, by omega, by go_num, g', cap', _, rfl, begun_step HH.out hst, hO2, k1, k2, hbs⟩
            case measure => simp [intOf]
          · by_cases hp1 : p + 1 < j + 1
            · have c1 := hO.cell HLEN.out.symm (j := p + 1) (by have := HLEN.out; omega)
              have c0 := hO.cell HLEN.out.symm (j := p) (by have := HLEN.out; omega)
              obtain ⟨a, ha⟩ : ∃ a, a = ys.getD (p + 1) 0 := ⟨_, rfl⟩
              obtain ⟨b, hb⟩ : ∃ b, b = ys.getD p 0 := ⟨_, rfl⟩
              rw [← ha] at c1
              rw [← hb] at c0
              have HA := Frame.hid ha
              have HBB := Frame.hid hb
              have HO := Frame.hid hO
              have HB := Frame.hid hB
              have HZL := Frame.hid hzl
              clear ha hb hO hB hH hO2 hzl HST
              go_wp2_with (first | (refine wpList_arith rfl _ _ _ _ _ rfl rfl _ _ _ rfl rfl ?_; intro r n hr hl) | (at_builtin; refine wpList_append_own _ rfl _ _ 23 rfl B 22 i0 (.float .f32 0) 1 4 Try.underlying23 hi hz0 hz1 hz2 rfl (by decide) _ _ _ rfl ((own_drew hO1 _).alloc _) ⟨_, 0, none⟩ 1 1 [.float .f32 r] rfl rfl (cell_one_new _ _ _) (fun x hx => by simp at hx; subst hx; rfl) (by unfold maxLen; omega) (by omega) (by simp; omega) ?_; intro v' w3 hown' hgrow3 hnil3; obtain ⟨g', cap', rfl, hO2⟩ := own_app HZL.out hown'))
              rename_i s_ n1_ hs ls p_ n2_ hp lp q_ n3_ hq lq
              obtain ⟨k1, k2⟩ := sp_step HO.out HG.out.1 HB.out HG.out.2 _ _ hgrow3 HG2.out
              have hbs : B ≤ w3.heap.size := Nat.le_trans (Nat.le_trans hBs (by simp)) hgrow3.size
              have hst : ShStep t (ys.getD (p + 1) 0) (before ys (p + 1)) r := ⟨s_, p_, q_, hs, by rw [← HA.out]; exact hp, by rw [before_succ, ← HBB.out]; exact hq, hr⟩
              clear hgrow3 hnil3 hown'
              go_roundw
              case rel => exact ⟨p + 1 + 1, by omega, by go_num, g', cap', _, rfl, begun_step HH.out hst, hO2, k1, k2, hbs⟩
              case measure => simp [intOf]; omega
            · have hp2 : p = j := by omega
              subst hp2
              have c0 := hO.cell HLEN.out.symm (j := p) (by have := HLEN.out; omega)
              obtain ⟨b, hb⟩ : ∃ b, b = ys.getD p 0 := ⟨_, rfl⟩
              rw [← hb] at c0
              have HBB := Frame.hid hb
              have HO := Frame.hid hO
              have HB := Frame.hid hB
              have HZL := Frame.hid hzl
              clear hb hO hB hH hO2 hzl HST
              go_wp2_with (first | (refine wpList_arith rfl _ _ _ _ _ rfl rfl _ _ _ rfl rfl ?_; intro r n hr hl) | (at_builtin; refine wpList_append_own _ rfl _ _ 23 rfl B 22 i0 (.float .f32 0) 1 4 Try.underlying23 hi hz0 hz1 hz2 rfl (by decide) _ _ _ rfl ((own_drew hO1 _).alloc _) ⟨_, 0, none⟩ 1 1 [.float .f32 r] rfl rfl (cell_one_new _ _ _) (fun x hx => by simp at hx; subst hx; rfl) (by unfold maxLen; omega) (by omega) (by simp; omega) ?_; intro v' w3 hown' hgrow3 hnil3; obtain ⟨g', cap', rfl, hO2⟩ := own_app HZL.out hown'))
              rename_i s_ n1_ hs ls p_ n2_ hp lp q_ n3_ hq lq
              obtain ⟨k1, k2⟩ := sp_step HO.out HG.out.1 HB.out HG.out.2 _ _ hgrow3 HG2.out
              have hbs : B ≤ w3.heap.size := Nat.le_trans (Nat.le_trans hBs (by simp)) hgrow3.size
              have hst : ShStep t (ys.getD (p + 1) 0) (before ys (p + 1)) r := ⟨s_, p_, q_, hs, by rw [getD_none (by rw [HLEN.out]; omega)]; exact hp, by rw [before_succ, ← HBB.out]; exact hq, hr⟩
              clear hgrow3 hnil3 hown'
              go_roundw
              case rel => exact ⟨p + 1 + 1, by omega, by go_num, g', cap', _, rfl, begun_step HH.out hst, hO2, k1, k2, hbs⟩
              case measure => simp [intOf]; omega
        · have hqe : q = j + 2 := by omega
          subst hqe
          have HH := Frame.hid hH
          have HO2 := Frame.hid (hO2.mono HG.out.2)
          have HB := Frame.hid hB
          clear hH hO2 hO hB HST
          go_wp2_with fail
          go_roundw
          case rel => exact ⟨j + 1, by omega, by go_num, g2, cap2, zs, rfl, ⟨ys, HR.out, by rw [hzl, HLEN.out], fun i hi => HH.out.2 i (by rw [HLEN.out] at hi; omega)⟩, HO2.out, HB.out⟩
          case measure => simp [intOf]; omega
    · have hjn : j = n := by omega
      subst hjn
      have hlen := hR.len
      have HR := Frame.hid hR
      have HO := Frame.hid hO
      have HB := Frame.hid hB
      clear hR hO hB
      go_wp2_with fail
      go_ret2
      exact ⟨g, cap, ys, by rw [hlen]; rfl, HR.out, by rw [hlen]; exact HO.out, HB.out⟩

end Go.Proofs.Ytnflmdlhcjjfdaa
