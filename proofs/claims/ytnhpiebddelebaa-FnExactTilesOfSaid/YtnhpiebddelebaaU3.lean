/-
  TilesOf: the rows put behind one another, the program's side.
-/
import Derived.Test.YtnhpiebddelebaaU2
namespace Go.Proofs.Ytnhpiebddelebaa
open Go.RowKit Fl Go.WideShapes Go.Deep
attribute [local go_sem] kstore_f kalloc_drewN kset_drewN hstore_i hstore_s

/-- The rows of the tiles. -/
def RowsO (a b : Int) (xs : List (Nat × Nat × Nat)) (p q gr B Q : Nat) (vs : List Value) (w : World) : Prop :=
  vs.length = Q ∧ w.ownsRow B 26 1 (.slice (some ⟨gr, 0, none⟩) Q Q) Q vs ∧ ∀ j, j < Q → RowP a b xs p q gr j w (vs.getD j undef)

set_option maxRecDepth 100000 in
set_option maxHeartbeats 4000000 in
theorem tilesOfRows_calls (a b : Int) (xs : List (Nat × Nat × Nat)) (p q gr B Q : Nat) (vs : List Value) (hp : p ≤ 12) (hq : q ≤ 12) (hQ : Q = q + 1) (w : World) (hR : RowsO a b xs p q gr B Q vs w) :
    Calls Try.prog 44 #[.slice (some ⟨gr, 0, none⟩) Q Q] w fun e w' => Below w.heap.size w w' ∧
      ((∃ A c L zs, e = .returned (.tuple #[.slice A L c, .bool true]) ∧ L = zs.length ∧ zs.length = Q * (p + 1) ∧ GridL a b xs p q zs ∧ OwnedS w' w.heap.size (.slice A L c) zs) ∨ (e = .returned (.tuple #[.slice none 0 0, .bool false]) ∧ NoP a b xs p q)) := by
  obtain ⟨i0, hi, hz0, hz1, hz2⟩ := info_parts infoSpot
  obtain ⟨hvl, hO, hRP⟩ := hR
  have hgr : gr < w.heap.size := (World.ownsRow.lt hO gr rfl).2
  have hcell : ∀ k, k < Q → w.cell? ⟨gr, k, none⟩ = some (vs.getD k undef) := fun k hk => by
    rw [World.ownsRow.cellAt hO k (by omega), List.getD_eq_getElem?_getD, List.getElem?_eq_getElem (by omega)]
    rfl
  have HCELL := Frame.hid hcell
  have HRP := Frame.hid hRP
  obtain ⟨P1, hP1⟩ : ∃ P1, P1 = p + 1 := ⟨_, rfl⟩
  have HP1 := Frame.hid hP1
  have HQ := Frame.hid hQ
  have hp1 : 1 ≤ P1 ∧ P1 ≤ 13 := by omega
  have hq1 : 1 ≤ Q ∧ Q ≤ 13 := by omega
  clear hvl hO hRP hcell
  rw [← hP1]
  clear hP1 hQ
  go_enter Try.func44, Try.ntmps44
  go_wp2_with fail
  go_loopw [4, 9] (fun tv iv wr => ∃ k zs, k ≤ Q ∧ iv = .int .i64 (k : Nat) ∧ zs.length = k * P1 ∧ GridL a b xs p q zs ∧ OwnedS wr w.heap.size tv zs ∧ Below w.heap.size w wr) (fun _ iv _ => Q - (intOf iv).toNat)
  case atStart => exact ⟨0, [], Nat.zero_le _, rfl, by simp, GridL.nil, OwnedS.nil _ _, Below.refl _ _⟩
  case round =>
    obtain ⟨k, zs, hk, rfl, hzl, hG, hO, hB⟩ := hrel
    have HZL := Frame.hid hzl
    have HG := Frame.hid hG
    have HB := Frame.hid hB
    have HO := Frame.hid hO
    by_cases hlt : k < Q
    · have hc1 : _ := (hB.cell (p := ⟨gr, k, none⟩) hgr).trans (HCELL.out k hlt)
      have hrow := (HRP.out k hlt).below hB
      have hk0 : (0 : Int) ≤ (k : Int) := by omega
      have hsz := hB.size
      have hkp : k * P1 ≤ 13 * 13 := Nat.mul_le_mul (by omega) (by omega)
      have hown : wr.ownsRow w.heap.size 57 3 u4 (k * P1) (cellsS zs) := by have h := hO; unfold OwnedS at h; rw [hzl] at h; exact h
      clear hzl hG hB hO
      rcases hrow with ⟨g, ys, v, hgg, hval, hyl, hv, hT, hRd⟩ | ⟨hval, hN⟩
      · rw [hval] at hc1
        have hlt3 : (k : Int) < (Q : Int) := by omega
        have hne : ¬ ((P1 : Int) = 0) := by omega
        obtain ⟨L, hL⟩ : ∃ L, L = k * P1 := ⟨_, rfl⟩
        rw [← hL] at hown hkp
        rw [← HP1.out] at hc1 hyl
        obtain ⟨hgl, hnews⟩ := hRd.news (by omega)
        have HNW := Frame.hid hnews
        have HYL := Frame.hid hyl
        have HV := Frame.hid hv
        have HT := Frame.hid hT
        have HL := Frame.hid hL
        have HOW := Frame.hid hown
        have HCL : Hid ((cellsS ys).length = P1 * 3) := Frame.hid (by rw [cellsS_len, hyl])
        clear hval hyl hv hT hRd hnews hL hgg hown
        go_wp2_with (at_builtin; refine wpList_append_own _ rfl _ _ 26 rfl w.heap.size 57 i0 (.agg #[.float .f32 0, .float .f32 0, .float .f32 0]) 3 12 Try.underlying26 hi hz0 hz1 hz2 rfl (by decide) u4 L (cellsS zs) rfl HOW.out ⟨g, 0, none⟩ P1 P1 (cellsS ys) rfl HCL.out HNW.out (cellsS_one _) (by unfold maxLen; omega) (by omega) (by omega) ?_; intro v3 w3 hown3 hgrow3 hnil3; have HBW := Frame.hid (Below.grown (B := w.heap.size) (a := w) HB.out hgrow3 (by omega) (fun k' hk' => (World.ownsRow.lt HOW.out k' hk').1)); have HOX := Frame.hid hown3; clear hown3 hgrow3 hnil3)
        go_roundw
        case rel =>
          have hz : zs.length = k * (p + 1) := by rw [HZL.out, HP1.out]
          refine ⟨k + 1, zs ++ ys, by omega, by go_num, by rw [List.length_append, HZL.out, HYL.out, Nat.succ_mul], HG.out.row hz (by rw [HYL.out, HP1.out]) HV.out HT.out, ?_, HBW.out⟩
          unfold OwnedS
          rw [cellsS_append, List.length_append, HZL.out, HYL.out, ← HL.out]
          exact HOX.out
        case measure => simp [intOf]; omega
      · rw [hval] at hc1
        have hlt3 : (k : Int) < (Q : Int) := by omega
        have HN := Frame.hid hN
        clear hval hN
        go_wp2_with fail
        go_ret2
        exact ⟨HB.out, .inr ⟨rfl, HN.out⟩⟩
    · have hkq : k = Q := by omega
      subst hkq
      obtain ⟨A, c, rfl, -, -⟩ := hO.rdF
      obtain ⟨L, hL⟩ : ∃ L, L = zs.length := ⟨_, rfl⟩
      rw [← hL]
      have HL := Frame.hid hL
      clear hO hL hzl hG hB
      go_wp2_with fail
      go_ret2
      exact ⟨HB.out, .inl ⟨_, _, _, zs, rfl, HL.out, HZL.out, HG.out, by rw [HL.out]; exact HO.out⟩⟩

set_option maxRecDepth 100000 in
theorem areTiles_calls (m n : Int) (w : World) : Calls Try.prog 41 #[.int .i64 m, .int .i64 n] w fun e w' => e = .returned (.bool (tilB m n)) ∧ w = w' := by
  by_cases h1 : 1 ≤ m <;> by_cases h2 : m ≤ 12 <;> by_cases h3 : 1 ≤ n <;> by_cases h4 : n ≤ 12
  all_goals
    go_enter Try.func41, Try.ntmps41
    go_wp2_with fail
    all_goals go_ret
    all_goals exact ⟨ret_bool (by simp [tilB, h1, h2, h3, h4]), rfl⟩

/-- What one call of TilesOf hands out. -/
def TlO (a b : Int) (xs : List (Nat × Nat × Nat)) (m k : Int) (w : World) (e : Ending) (w' : World) : Prop :=
  ∃ A c L zs ok, e = .returned (.tuple #[.slice A L c, .bool ok]) ∧ L = zs.length ∧ TilesO a b xs m k zs ok ∧ OwnedS w' w.heap.size (.slice A L c) zs ∧ Below w.heap.size w w'

set_option maxRecDepth 100000 in
set_option maxHeartbeats 4000000 in
theorem tilesOf_calls (A : Option Addr) (xs : List (Nat × Nat × Nat)) (n : Nat) (hxn : n = xs.length) (a b m k : Int) (w : World) (hn : n ≤ 1048576) (hr : RdS w A xs) :
    Calls Try.prog 12 #[.agg #[.int .i64 a, .int .i64 b, .slice A n n], .int .i64 m, .int .i64 k] w (TlO a b xs m k w) := by
  cases ht : tilB m k
  · have HT := Frame.hid ht
    clear ht hr hxn
    go_enter Try.func12, Try.ntmps12
    go_wp2_with (go_at_call 41; refine (areTiles_calls _ _ _).mono ?_; rintro e w' ⟨rfl, rfl⟩; rw [HT.out])
    go_ret2
    exact ⟨none, 0, 0, [], false, rfl, rfl, .inr ⟨rfl, rfl, .inl HT.out⟩, OwnedS.nil _ _, by (apply bel_of; (repeat (first | apply below_dn | apply below_al)); exact below_st _)⟩
  · have HT := Frame.hid ht
    obtain ⟨p, q, rfl, rfl, hp, hq⟩ : ∃ p q : Nat, m = p ∧ k = q ∧ (1 ≤ p ∧ p ≤ 12) ∧ (1 ≤ q ∧ q ≤ 12) := by
      simp [tilB] at ht
      exact ⟨m.toNat, k.toNat, by omega, by omega, by omega, by omega⟩
    obtain ⟨i0, hi, hz0, hz1, hz2⟩ := info_parts infoSpots
    have HROW := Frame.hid (fun v W (h : Below w.heap.size w W) => rowOfTiles_calls A xs n hxn a b p v (by omega) W hn (hr.below h))
    clear ht hr hxn
    have em : ((q + 1 : Nat) : Int) = (q : Int) + 1 := by omega
    have a5 : IntKind.i64.wrap ((q : Int) + 1) = (q : Int) + 1 := by rw [IntKind.wrap_i64]; omega
    go_enter Try.func12, Try.ntmps12
    go_wp2_with (first | (go_at_call 41; refine (areTiles_calls _ _ _).mono ?_; rintro e w' ⟨rfl, rfl⟩; rw [HT.out]) | (at_make; go_loud (refine wpList_make_full _ rfl _ _ 65 rfl w.heap.size 26 i0 (.slice none 0 0) 1 Try.underlying65 hi hz0 hz1 _ _ _ _ (q + 1) rfl rfl rfl rfl ?c1 ?c2 ?c3 ?_)))
    case c1 => rw [hz2]; omega
    case c2 => unfold maxLen; omega
    case c3 => simp
    intro w1 hown hgrow
    obtain ⟨Q, hQ⟩ : ∃ Q, Q = q + 1 := ⟨_, rfl⟩
    obtain ⟨gr, hgr⟩ : ∃ gr, gr = w.heap.size + 1 := ⟨_, rfl⟩
    have hSh : Sh3 w1 w.heap.size a b (.slice A n n) := (Sh3.here w a b (.slice A n n) 30).below ((Below.refl _ _).grown hgrow (Nat.le_refl _) (by simp))
    have hB1 : Below w.heap.size w w1 := ((Below.refl _ _).alloc (Nat.le_refl _) _).grown hgrow (by simp) (by simp)
    have hO1 : w1.ownsRow w.heap.size 26 1 (.slice (some ⟨gr, 0, none⟩) Q Q) Q (List.replicate Q (.slice none 0 0)) := by
      rw [hQ, hgr]
      have e : (madeCells #[Value.slice none 0 0] (q + 1)).toList = List.replicate (q + 1) (.slice none 0 0) := toList_madeCells_one _ _
      rw [e] at hown
      simpa using hown
    have hq1 : 1 ≤ Q ∧ Q ≤ 13 := by omega
    have eQ : ((q : Int) + 1) = (Q : Int) := by omega
    rw [← hgr, ← hQ]
    have HGR := Frame.hid hgr
    have HQ := Frame.hid hQ
    have HO1 := Frame.hid hO1
    have HB1 := Frame.hid hB1
    have HSH := Frame.hid hSh
    clear hown hgrow hgr hQ hO1 hB1 hSh hi hz0 hz1 hz2 em a5
    have a5 : IntKind.i64.wrap ((q : Int) + 1) = (Q : Int) := by rw [IntKind.wrap_i64]; omega
    clear eQ
    go_wp2_with fail
    go_loopw [19] (fun jv wr => ∃ j vs, j ≤ Q ∧ jv = .int .i64 (j : Nat) ∧ vs.length = Q ∧ wr.ownsRow w.heap.size 26 1 (.slice (some ⟨gr, 0, none⟩) Q Q) Q vs ∧ (∀ i, i < j → RowP a b xs p q gr i wr (vs.getD i undef)) ∧ Below w.heap.size w wr ∧ Sh3 wr w.heap.size a b (.slice A n n)) (fun jv _ => Q - (intOf jv).toNat)
    case atStart => exact ⟨0, _, Nat.zero_le _, rfl, List.length_replicate, HO1.out, fun i hi => absurd hi (by omega), HB1.out, HSH.out⟩
    case round =>
      obtain ⟨j, vs, hj, rfl, hvl, hO, hRP, hB, hS3⟩ := hrel
      have HVL := Frame.hid hvl
      have HO := Frame.hid hO
      have HRP := Frame.hid hRP
      have HB := Frame.hid hB
      have HS3 := Frame.hid hS3
      clear hvl hO hRP HO1 HB1 HSH
      by_cases hlt : j < Q
      · have b0 : (j : Int) < (Q : Int) := by omega
        have b1 : (0 : Int) ≤ (j : Int) := by omega
        have hsw : w.heap.size ≤ wr.heap.size := hB.size
        have hgl : gr < wr.heap.size := (World.ownsRow.lt HO.out gr rfl).2
        clear hB hS3
        go_wp2_with fail
        have hk : ∀ W, Below wr.heap.size wr W → (W.cell? ⟨w.heap.size, 0, none⟩ = some (.int .i64 a) ∧ W.cell? ⟨w.heap.size, 1, none⟩ = some (.int .i64 b) ∧ W.cell? ⟨w.heap.size, 2, none⟩ = some (.slice A n n)) := fun W h => ⟨(HS3.out.below h).c0, (HS3.out.below h).c1, (HS3.out.below h).c2⟩
        have hS0 : Below wr.heap.size wr wr.drew := (Below.refl _ _).drew
        refine region_hand 9 (fun W => Below wr.heap.size wr W) (by kernel_rfl) ?_
        refine' wpEnd_take 0 rfl (by kernel_rfl) hS0 (Or.inl ⟨by rfl, fun wq hSq => _⟩) _
        rotate_left
        · (obtain ⟨q0, q1, q2⟩ := hk _ hSq; go_simp; (try with_reducible rfl))
        simp only [Act.put, List.setIfInBounds_toArray, List.set_cons_zero, List.set_cons_succ]
        refine' wpEnd_take 1 rfl (by kernel_rfl) hS0 (Or.inl ⟨by rfl, fun wq hSq => _⟩) _
        rotate_left
        · (obtain ⟨q0, q1, q2⟩ := hk _ hSq; go_simp; (try with_reducible rfl))
        simp only [Act.put, List.setIfInBounds_toArray, List.set_cons_zero, List.set_cons_succ]
        refine' wpEnd_take 2 rfl (by kernel_rfl) hS0 (Or.inl ⟨by rfl, fun wq hSq => _⟩) _
        rotate_left
        · (obtain ⟨q0, q1, q2⟩ := hk _ hSq; go_simp; (try with_reducible rfl))
        simp only [Act.put, List.setIfInBounds_toArray, List.set_cons_zero, List.set_cons_succ]
        refine' wpEnd_take 3 rfl (by kernel_rfl) hS0 (Or.inl ⟨by rfl, fun wq hSq => _⟩) _
        rotate_left
        · (obtain ⟨q0, q1, q2⟩ := hk _ hSq; go_simp; (try with_reducible rfl))
        simp only [Act.put, List.setIfInBounds_toArray, List.set_cons_zero, List.set_cons_succ]
        refine' wpEnd_take 4 rfl (by kernel_rfl) hS0 (Or.inl ⟨by rfl, fun wq hSq => _⟩) _
        rotate_left
        · (obtain ⟨q0, q1, q2⟩ := hk _ hSq; go_simp; (try with_reducible rfl))
        simp only [Act.put, List.setIfInBounds_toArray, List.set_cons_zero, List.set_cons_succ]
        refine' wpEnd_take 5 rfl (by kernel_rfl) hS0 (Or.inl ⟨by rfl, fun wq hSq => _⟩) _
        rotate_left
        · (obtain ⟨q0, q1, q2⟩ := hk _ hSq; go_simp; (try with_reducible rfl))
        simp only [Act.put, List.setIfInBounds_toArray, List.set_cons_zero, List.set_cons_succ]
        have hsz : wr.heap.size ≤ wr.drew.heap.size := hS0.size
        generalize wr.drew = wd at hS0 hsz ⊢
        refine wpEnd_ready [6] (by kernel_rfl) rfl (AllE.cons rfl (fun K hK => ?_) AllE.nil)
        go_simp
        go_at_call 43
        refine (quotient_calls _ _ _).mono ?_
        rintro e_ wq_ ⟨v, nq, rfl, hv, rfl⟩
        have hS1 := below_drewN hS0 nq
        refine hK.out _ _ (.inr hS1) ?_
        clear hK K
        (try simp only [Act.put, List.setIfInBounds_toArray, List.set_cons_zero, List.set_cons_succ])
        refine wpEnd_ready [7] (by kernel_rfl) rfl (AllE.cons rfl (fun K hK => ?_) AllE.nil)
        go_simp
        go_at_call 42
        refine (HROW.out v _ (HB.out.trans (hS1.mono hsw))).mono ?_
        rintro e_ w8 ⟨hB8, hcase⟩
        have hS2 := hS1.trans (hB8.mono hS1.size)
        have hO8 := ownsRow_past HO.out hS2
        obtain ⟨A8, m8, c8, rfl, hRV⟩ : ∃ A8 m8 c8, e_ = .returned (.slice A8 m8 c8) ∧ RowP a b xs p q gr j w8 (.slice A8 m8 c8) := by
          rcases hcase with ⟨g, zs, hg, rfl, hzl, hT, hR⟩ | ⟨rfl, i, u, x, y, z, hi, hu, hat⟩
          · exact ⟨_, _, _, rfl, .inl ⟨g, zs, v, Nat.lt_of_lt_of_le hgl (Nat.le_trans hS1.size hg), rfl, hzl, hv, hT, hR⟩⟩
          · exact ⟨_, _, _, rfl, .inr ⟨rfl, i, j, u, v, x, y, z, hi, by have := HQ.out; omega, hu, hv, hat⟩⟩
        refine hK.out _ _ (.inr hS2) ?_
        clear hK K
        (try simp only [Act.put, List.setIfInBounds_toArray, List.set_cons_zero, List.set_cons_succ])
        obtain ⟨x0, hx0⟩ : ∃ x0, vs[j]? = some x0 := ⟨_, List.getElem?_eq_getElem (by have := HVL.out; omega)⟩
        have hc2 : w8.cell? ⟨gr, j, none⟩ = some x0 := by rw [World.ownsRow.cellAt hO8 j (by omega), hx0]
        have hfz := World.ownsRow.frozenAt hO8 j
        have HO8 := Frame.hid hO8
        have HRV := Frame.hid hRV
        have HS2 := Frame.hid hS2
        clear hO8 hRV hcase hB8 hx0
        refine wpEnd_ready [8] (by kernel_rfl) rfl (AllE.cons rfl (fun K hK => ?_) AllE.nil)
        go_simp
        refine hK.out _ _ (.inr HS2.out) ?_
        clear hK K
        (try simp only [Act.put, List.setIfInBounds_toArray, List.set_cons_zero, List.set_cons_succ])
        refine wpEnd_ready [9] (by kernel_rfl) rfl (AllE.cons rfl (fun K hK => ?_) AllE.nil)
        go_simp
        refine hK.out _ _ (.inl rfl) ?_
        clear hK K
        refine wpEnd_done (by kernel_rfl) ?_
        go_wp2_with fail
        go_roundw
        case rel =>
          have hst := (World.ownsRow.stored HO8.out j (.slice A8 m8 c8)).1
          refine ⟨j + 1, vs.set j (.slice A8 m8 c8), by omega, by go_num, by rw [List.length_set]; exact HVL.out, hst, fun i hi => ?_, (HB.out.trans (HS2.out.mono hsw)).setCell (p := ⟨gr, j, none⟩) (by have := HGR.out; show w.heap.size ≤ gr; omega) _, (HS3.out.below HS2.out).put (by have := HGR.out; omega) _ _⟩
          by_cases he : i = j
          · subst he
            have e : (vs.set i (.slice A8 m8 c8)).getD i undef = .slice A8 m8 c8 := by rw [List.getD_eq_getElem?_getD, List.getElem?_set_self (by have := HVL.out; omega)]; rfl
            rw [e]
            exact HRV.out.put
          · have e : (vs.set j (.slice A8 m8 c8)).getD i undef = vs.getD i undef := by rw [List.getD_eq_getElem?_getD, List.getD_eq_getElem?_getD, List.getElem?_set_ne (by omega)]
            rw [e]
            exact ((HRP.out i (by omega)).below HS2.out).put
        case measure => simp [intOf]; omega
      · have hjq : j = Q := by omega
        subst hjq
        have hRO : RowsO a b xs p q gr w.heap.size j vs wr := ⟨HVL.out, HO.out, HRP.out⟩
        have HT2 := Frame.hid (tilesOfRows_calls a b xs p q gr w.heap.size j vs hp.2 hq.2 HQ.out wr hRO)
        have hsw : w.heap.size ≤ wr.heap.size := hB.size
        clear hB hS3 hRO
        go_wp2_with fail
        refine HT2.out.mono ?_
        rintro e w2 ⟨hB2, hcase⟩
        have HB2 := Frame.hid (HB.out.trans (hB2.mono hsw))
        clear hB2
        rcases hcase with ⟨A2, c2, L2, zs, rfl, hl2, hzl, hG, hOZ⟩ | ⟨rfl, hN⟩
        · have HF : Hid (TilesO a b xs p q zs true) := Frame.hid (.inl ⟨rfl, p, q, rfl, rfl, hp, hq, by rw [hzl, HQ.out], hG⟩)
          have HL2 := Frame.hid hl2
          have HOZ := Frame.hid (hOZ.mono' hsw)
          clear hl2 hzl hG hOZ
          go_wp2_with fail
          go_ret2
          exact ⟨_, _, _, zs, true, rfl, HL2.out, HF.out, HOZ.out, HB2.out⟩
        · have HF : Hid (TilesO a b xs p q [] false) := Frame.hid (.inr ⟨rfl, rfl, .inr (.inr ⟨p, q, rfl, rfl, hp, hq, hN⟩)⟩)
          clear hN
          go_wp2_with fail
          go_ret2
          exact ⟨none, 0, 0, [], false, rfl, rfl, HF.out, OwnedS.nil _ _, HB2.out⟩

end Go.Proofs.Ytnhpiebddelebaa
