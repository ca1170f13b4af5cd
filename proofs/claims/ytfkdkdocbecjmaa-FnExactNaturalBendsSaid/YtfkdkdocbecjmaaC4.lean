/-
  NaturalBends: the program's side.
-/
import Derived.Test.YtfkdkdocbecjmaaC3
import Derived.Laws.CopyOwn
import Derived.Maps.AppendAt
namespace Go.Proofs.Ytfkdkdocbecjmaa
open Go.RowKit Fl Go.WideShapes Go.Deep
attribute [local go_sem] kstore_f kalloc_drewN kset_drewN

theorem infoRow4 : (Try.prog.info? 90).map (fun i => (i.zero, i.size, i.bytes)) = some (some (.agg #[.float .f32 0, .float .f32 0, .float .f32 0, .float .f32 0]), 4, 16) := by kernel_rfl
/-- Rows as they are built. -/
def RowsR (xs ys : List Nat) (k : Nat) (zs : List Nat) : Prop := zs.length = k * 4 ∧ ∀ i, i < k → WdR xs i (zs.getD (i * 4) 0) ∧ WdR xs (i + 1) (zs.getD (i * 4 + 2) 0) ∧ RawA xs i (zs.getD (i * 4 + 1) 0) ∧ RawR xs ys i (zs.getD (i * 4 + 3) 0)
theorem getD_app_left {zs us : List Nat} {i : Nat} (h : i < zs.length) : (zs ++ us).getD i 0 = zs.getD i 0 := by
  rw [List.getD_eq_getElem?_getD, List.getElem?_append_left h, ← List.getD_eq_getElem?_getD]
theorem getD_app_right {zs us : List Nat} {i : Nat} : (zs ++ us).getD (zs.length + i) 0 = us.getD i 0 := by
  rw [List.getD_eq_getElem?_getD, List.getElem?_append_right (by omega), Nat.add_sub_cancel_left, ← List.getD_eq_getElem?_getD]
theorem RowsR.step {xs ys : List Nat} {k b a h r : Nat} {zs : List Nat} (hz : RowsR xs ys k zs) (h1 : WdR xs k b) (h2 : RawA xs k a) (h3 : WdR xs (k + 1) h) (h4 : RawR xs ys k r) : RowsR xs ys (k + 1) (zs ++ [b, a, h, r]) := by
  obtain ⟨e, g⟩ := hz
  refine ⟨by rw [List.length_append, e]; simp; omega, fun i hi => ?_⟩
  by_cases hik : i = k
  · subst hik
    rw [show i * 4 + 2 = zs.length + 2 by omega, show i * 4 + 1 = zs.length + 1 by omega, show i * 4 + 3 = zs.length + 3 by omega, show i * 4 = zs.length + 0 by omega, getD_app_right, getD_app_right, getD_app_right, getD_app_right]
    exact ⟨h1, h3, h2, h4⟩
  · rw [getD_app_left (by omega), getD_app_left (by omega), getD_app_left (by omega), getD_app_left (by omega)]
    exact g i (by omega)
theorem RowsR.raw {xs ys : List Nat} {k : Nat} {zs : List Nat} (hz : RowsR xs ys k zs) : RowsE xs ys k 0 zs := by
  refine ⟨hz.1, fun i hi => ?_⟩
  obtain ⟨a, b, c, d⟩ := hz.2 i hi
  refine ⟨a, b, fun h0 => ?_, fun _ => ⟨c, d⟩⟩
  obtain rfl : i = 0 := by omega
  exact ⟨c, d⟩
theorem RiseL.all2 {xs ys : List Nat} {m : Nat} {cs : List Value} (h : RiseL xs ys (List.finRange m) cs) : ∃ l : List (Nat × Nat), l.length = m ∧ cs = riseCells l ∧ ∀ i, i < m → RiseR xs ys i (l.getD i (0, 0)).1 (l.getD i (0, 0)).2 := by
  obtain ⟨l, h1, h2, h3⟩ := h
  rw [List.length_finRange] at h1
  refine ⟨l, h1, h2, fun i hi => h3 i (by omega) ⟨i, hi⟩ ?_⟩
  rw [List.getElem?_eq_getElem (by simpa using hi), List.getElem_finRange]
  rfl
theorem fl_four (zs : List Nat) (b a h r : Nat) : fl (zs ++ [b, a, h, r]) = fl zs ++ [.float .f32 b, .float .f32 a, .float .f32 h, .float .f32 r] := by
  unfold fl
  rw [List.map_append]
  rfl
theorem rowB_drewN {w : World} {base size n m : Nat} {t : TypeId} {v : Value} {xs : List Value} (h : w.ownsRow base t size v n xs) : (w.drewN m).ownsRow base t size v n xs := h
/-- The rows so far. -/
def BrW (xs ys : List Nat) (m : Nat) (w2 : World) (v iv : Value) (wr : World) : Prop := ∃ (k : Nat) (zs : List Nat), k + 1 ≤ m ∧ iv = .int .i64 k ∧ RowsR xs ys k zs ∧ wr.ownsRow w2.heap.size 90 4 v k (fl zs) ∧ Below w2.heap.size w2 wr
/-- Where nothing is asked of worlds, the last operation may be another one. -/
theorem wpEnd_swap {P : Program} {ops : Array Oper} {md : Region.Mode} {Q : Exit → Act → World → Prop} {S : World → Prop} (last last' : Nat) (hS : ∀ w, S w) : ∀ (fuel : Nat) (listed : Array Bool) (a : Act) (w : World), wpEnd P md ops Q S last fuel listed a w → wpEnd P md ops Q S last' fuel listed a w
  | 0, _, _, _, h => h
  | fuel + 1, _, _, _, h => ⟨h.1, fun _ hi => wpOp_mono (fun a' w' h' => ⟨.inr (hS w'), wpEnd_swap last last' hS fuel _ a' w' h'.2⟩) (h.2 _ hi)⟩
/-- Bends between two zeros. -/
theorem nat_of {xs ys : List Nat} {N : Nat} {bs : List Nat} (h : BackP xs ys N N bs) : NatL xs ys N (0 :: (bs ++ [0])) := by
  obtain ⟨h1, h2⟩ := h
  refine ⟨by simp [h1], rfl, ?_, fun i hi => ?_⟩
  · rw [List.getD_cons_succ, show N = bs.length + 0 by omega, getD_app_right]; rfl
  · rw [List.getD_cons_succ, getD_app_left (by omega)]
    exact h2 i hi (by omega)
theorem splice_bends (N : Nat) (bs : List Nat) (h : bs.length = N) : splice (fl (List.replicate (N + 2) 0)) 1 (fl bs) = fl (0 :: (bs ++ [0])) := by
  unfold splice fl
  rw [List.length_map, h, List.replicate_succ, List.map_cons, List.take_succ_cons, List.take_zero, List.map_cons, List.map_append, show 1 + N = N + 1 by omega, List.drop_succ_cons, List.map_replicate, List.drop_replicate, show N + 1 - N = 1 by omega]
  rfl

set_option maxRecDepth 100000 in
set_option maxHeartbeats 4000000 in
theorem naturalBends_calls (A B : Option Addr) (xs ys : List Nat) (c d : Nat) (w : World) (hn : xs.length ≤ 1048576) (hn' : ys.length ≤ 1048576) (hA : RdF w A xs) (hB : RdF w B ys) (hg : graphB xs ys = true) :
    Calls Try.prog 22 #[.slice A xs.length c, .slice B ys.length d] w fun e w' => ∃ v zs ok, e = .returned (.tuple #[v, .bool ok]) ∧ NatL xs ys (xs.length - 2) zs ∧ ok = finL zs ∧ (ok = true → OwnF w' w.heap.size v zs) ∧ (ok = false → v = .slice none 0 0) ∧ Below w.heap.size w w' := by
  obtain ⟨h2, h48, hyl⟩ := graphB_len hg
  have HGR := Frame.hid (isGraph_calls A B xs ys c d w hn hn' hA hB)
  have HG := Frame.hid hg
  obtain ⟨b, off, rfl, hb, hx⟩ := hA (by omega)
  obtain ⟨b2, off2, rfl, hb2, hy⟩ := hB (by omega)
  obtain ⟨m0, hm⟩ : ∃ m0, xs.length = m0 + 1 := ⟨xs.length - 1, by omega⟩
  have hym : ys.length = m0 + 1 := by omega
  have hm1 : 1 ≤ m0 ∧ m0 ≤ 1000 := by omega
  have hm47 : m0 ≤ 47 := by omega
  rw [hm, hym] at HGR ⊢
  obtain ⟨ml, hml⟩ : ∃ ml, m0 = ml + 1 := ⟨m0 - 1, by omega⟩
  rw [show m0 + 1 - 2 = ml by omega]
  have HML := Frame.hid hml
  clear hml
  have HXC := Frame.hid hx
  have HYC := Frame.hid hy
  have HM := Frame.hid (And.intro hm hym)
  clear hx hy hg hA hB hyl h2 h48 hn hn' hm hym
  obtain ⟨i0, hi, hz0, hz1, hz2⟩ := info_parts infoF6
  obtain ⟨i1, gi, gz0, gz1, gz2⟩ := info_parts infoRow4
  go_enter Try.func22, Try.ntmps22
  go_wp2_with fail
  refine HGR.out.mono ?_
  rintro e w1 ⟨rfl, hB1⟩
  rw [HG.out]
  have HB1 := Frame.hid hB1
  have hs1 := hB1.size
  clear hB1
  go_wp2_with fail
  refine (risesOf_calls b off c b2 off2 d m0 xs ys hm1 w1 (fun j hj => (HB1.out.cell (p := ⟨b, off + j, none⟩) hb).trans (HXC.out j (by have := HM.out; omega))) (fun j hj => (HB1.out.cell (p := ⟨b2, off2 + j, none⟩) hb2).trans (HYC.out j (by have := HM.out; omega))) (by omega) (by omega)).mono ?_
  rintro e w2 ⟨v, cs, rfl, hR, hO, hB2⟩
  obtain ⟨gr, cr, rfl, hgr, hgr2⟩ := hO.form (by omega : 0 < m0)
  obtain ⟨l, hl1, rfl, hl3⟩ := hR.all2
  obtain ⟨of, hoff⟩ : ∃ off, off = 0 := ⟨_, rfl⟩
  have HSL := Frame.hid hl3
  have HLC : Hid (∀ i, i < m0 → w2.cell? ⟨gr, of + i * 2, none⟩ = some (.float .f32 (l.getD i (0, 0)).1) ∧ w2.cell? ⟨gr, of + i * 2 + 1, none⟩ = some (.float .f32 (l.getD i (0, 0)).2)) := by
    subst hoff
    intro i hi
    have h := riseCells_at l i (by omega)
    rw [Nat.zero_add]
    exact ⟨(hO.cellAt _ (by omega)).trans h.1, (hO.cellAt _ (by omega)).trans h.2⟩
  have HCAP : Hid (m0 ≤ cr) := by
    rcases hO.2 with ⟨h0, _⟩ | ⟨_, _, _, hv, _, _, hc, _⟩
    · cases h0
    · cases hv; exact hc
  have HB2 := Frame.hid (HB1.out.trans (hB2.mono hs1))
  have hs2 : w.heap.size ≤ w2.heap.size := Nat.le_trans hs1 hB2.size
  rw [show (⟨gr, 0, none⟩ : Addr) = ⟨gr, of, none⟩ by rw [hoff]]
  have HMM := Frame.hid hm47
  have HGR2 := Frame.hid hgr2
  clear hR hO hB2 hoff hl3 hl1 HGR hm1 hm47 hgr hgr2
  have hmlm : ml < m0 := by have := HML.out; omega
  have hml1 : m0 - 1 = ml := by have := HML.out; omega
  have hm0p : 0 < m0 := by omega
  by_cases hcr : cr = 1
  · have hml0 : ml = 0 := by have := HCAP.out; have := HML.out; omega
    have HML0 := Frame.hid hml0
    clear hml0
    subst hcr
    go_wp2_with fail
    go_loopw [7, 22] (fun v i wr => BrW xs ys m0 w2 v i wr) (fun _ i _ => m0 - (intOf i).toNat)
    case atStart => exact ⟨0, [], by omega, rfl, ⟨rfl, fun i hi => absurd hi (by omega)⟩, ⟨rfl, .inl ⟨rfl, rfl⟩⟩, Below.refl _ _⟩
    case round =>
      obtain ⟨k, zs, hk, rfl, hZ, hO, hB⟩ := hrel
      have HZ := Frame.hid hZ
      have HO := Frame.hid hO
      have HB := Frame.hid hB
      clear hZ hO hB
      by_cases hlt : k < ml
      · exact absurd HML0.out (by omega)
      · go_wp2_with (at_make; refine wpList_make_full _ rfl _ _ 44 rfl w.heap.size 25 i0 (.float .f32 0) 1 Try.underlying44 hi hz0 hz1 _ _ _ _ (m0 + 1) rfl rfl rfl rfl ?c1 ?c2 ?c3 ?_)
        case c1 => rw [hz2]; have := HMM.out; omega
        case c2 => have := HMM.out; unfold maxLen; omega
        case c3 => exact Nat.le_trans hs2 HB.out.size
        intro w3 hown hgrow
        obtain rfl : k = ml := by omega
        obtain ⟨g, hgd⟩ : ∃ g, g = wr.heap.size := ⟨_, rfl⟩
        have hZl := HZ.out.1
        have hsr : w.heap.size ≤ wr.heap.size := Nat.le_trans hs2 HB.out.size
        have hBg3 : Below wr.heap.size wr w3 := (Below.refl _ _).grown hgrow (Nat.le_refl _) (by simp)
        have HB3 : Hid (Below w2.heap.size w2 w3) := HB.out.trans (hBg3.mono HB.out.size)
        have HO3 : Hid (w3.ownsRow w2.heap.size 90 4 u7 k (fl zs)) := rowB_below HO.out hBg3
        have HGC : Hid (w3.heap[g]? = some (.cells (fl (List.replicate (m0 + 1) 0)).toArray 25 (0, 0)) ∧ g < w3.heap.size) := by
          have e : (madeCells #[Value.float .f32 0] (m0 + 1)).toList = fl (List.replicate (m0 + 1) 0) := by
            unfold fl
            rw [List.map_replicate]
            exact toList_madeCells_one _ _
          rw [e] at hown
          rcases hown.2 with ⟨h0, _⟩ | ⟨g', cap, cur, hv, _, hh, _, _, hsz, htk⟩
          · cases h0
          · cases hv
            refine ⟨?_, by rw [hgd]; exact (Array.getElem?_eq_some_iff.1 hh).1⟩
            rw [List.take_of_length_le (by rw [Array.length_toList]; omega)] at htk
            rw [hgd, hh, ← htk]
        have hform : ∃ A2 gr2 c2, u7 = .slice A2 k c2 ∧ gr2 < g ∧ ((A2 = none ∧ k = 0) ∨ A2 = some ⟨gr2, 0, none⟩) := by
          rcases HO.out.2 with ⟨h0, h1⟩ | ⟨g', cap, cur, hv, hb', hh, _⟩
          · exact ⟨none, gr, 0, by rw [h0, h1], by have := HGR2.out; have := HB.out.size; omega, .inl ⟨rfl, h1⟩⟩
          · exact ⟨_, g', cap, hv, by rw [hgd]; exact (Array.getElem?_eq_some_iff.1 hh).1, .inr rfl⟩
        obtain ⟨A2, gr2, c2, rfl, hgr2, hA2⟩ := hform
        have HFM := Frame.hid (And.intro hgr2 hA2)
        have HGW : Hid (w2.heap.size ≤ g) := by rw [hgd]; exact HB.out.size
        have HZR := Frame.hid HZ.out.raw
        have hm0k : m0 = k + 1 := HML.out
        have HMK := Frame.hid hm0k
        rw [← hgd]
        clear hown hgrow hgd hBg3 HO HB hgr2 hA2 hZl hm0k
        go_wp2_with fail
        refine region_hand 1 (fun _ => True) (by kernel_rfl) ?_
        have hm1' : ¬ (m0 + 1 = 1) := by omega
        have hm2' : m0 ≠ 0 := by omega
        have hm3' : (1 : Int) ≤ (m0 : Int) + 1 := by omega
        refine' wpEnd_take 0 rfl (by kernel_rfl) trivial (Or.inl ⟨by rfl, fun wq hSq => _⟩) _
        rotate_left
        · (go_simp; (try with_reducible rfl))
        simp only [Act.put, List.setIfInBounds_toArray, List.set_cons_zero, List.set_cons_succ]
        refine wpEnd_swap 4 1 (fun _ => trivial) _ _ _ _ ?_
        refine' wpEnd_take 1 rfl (by kernel_rfl) trivial (Or.inl ⟨by rfl, fun wq hSq => _⟩) _
        rotate_left
        · (go_simp; (try with_reducible rfl))
        simp only [Act.put, List.setIfInBounds_toArray, List.set_cons_zero, List.set_cons_succ]
        refine wpEnd_swap 3 4 (fun _ => trivial) _ _ _ _ ?_
        refine' wpEnd_take 2 rfl (by kernel_rfl) trivial (Or.inl ⟨by rfl, fun wq hSq => _⟩) _
        rotate_left
        · (go_simp; (try with_reducible rfl))
        simp only [Act.put, List.setIfInBounds_toArray, List.set_cons_zero, List.set_cons_succ]
        refine wpEnd_ready [3] (by kernel_rfl) rfl (AllE.cons rfl (fun K hK => ?_) AllE.nil)
        go_simp
        go_at_call 55
        have hd3 : w3.drewN 1 = w3.drew := rfl
        rw [← hd3]
        refine (solvedBends_calls A2 gr2 c2 k w2.heap.size xs ys zs (by have := HMM.out; have := HMK.out; omega) (w3.drewN 1) HO3.out (by rcases HFM.out.2 with h | h; exact .inl h; exact .inr ⟨Nat.lt_trans HFM.out.1 HGC.out.2, h⟩) HB3.out.size HZR.out).mono ?_
        rintro e_ w7 ⟨v7, bs, rfl, hBP, hO7, hX7, hB7⟩
        refine hK.out _ _ (.inr trivial) ?_
        clear hK K hd3
        (try simp only [Act.put, List.setIfInBounds_toArray, List.set_cons_zero, List.set_cons_succ])
        obtain ⟨A7, c7, rfl, hr7⟩ := hO7.reads
        have hbl := hBP.1
        have hg7 : w7.heap[g]? = some (.cells (fl (List.replicate (m0 + 1) 0)).toArray 25 (0, 0)) := (hX7.h g HGC.out.2 (Nat.ne_of_gt HFM.out.1)).trans HGC.out.1
        have HB07 : Hid (Below w.heap.size w w7) := HB2.out.trans (((below_drewN HB3.out 1).trans hB7).mono hs2)
        have HBP := Frame.hid hBP
        have hflb : (fl bs).length = k := by rw [fl_len]; exact hbl
        have hsrc : 0 < (fl bs).length → ∃ ad, A7 = some ad ∧ ∀ j v, (fl bs)[j]? = some v → w7.cell? (ad.add j) = some v := fun h0 => by
          obtain ⟨b7, o7, h1, h2, h3⟩ := hr7 (by omega)
          refine ⟨_, h1, fun j v hj => ?_⟩
          have hjl : j < bs.length := by have := (List.getElem?_eq_some_iff.1 hj).1; omega
          rw [fl_get hjl] at hj
          injection hj with hj
          rw [← hj, Go.WideShapes.add_plain]
          exact h3 j hjl
        refine wpEnd_ready [4] (by kernel_rfl) rfl (AllE.cons rfl (fun K hK => ?_) AllE.nil)
        refine step_copy_splice rfl (.tmp 56) (.tmp 58) 44 44 rfl 25 Try.underlying44 (by kernel_rfl) (some ⟨g, 1, none⟩) A7 m0 m0 bs.length c7 rfl rfl g 1 (fl (List.replicate (m0 + 1) 0)) 25 hg7 (fl bs) (by rw [hflb, hbl]; exact (Nat.min_eq_left (by omega)).symm) (fun h0 => ⟨rfl, hsrc h0⟩) (by rw [hflb, fl_len, List.length_replicate]; have := HMK.out; omega) (by intro u hu; unfold fl at hu; rw [List.mem_map] at hu; obtain ⟨x, _, rfl⟩ := hu; rfl) w.heap.size w HB07.out (Nat.le_trans hs2 HGW.out) ?_
        intro w8 HG8 hB8
        have HB8 := Frame.hid hB8
        refine hK.out _ _ (.inr trivial) ?_
        clear hK K
        refine wpEnd_done (by kernel_rfl) ?_
        have HO8 : Hid (OwnF w8 w.heap.size (.slice (some ⟨g, 0, none⟩) (m0 + 1) (m0 + 1)) (0 :: (bs ++ [0]))) := by
          have hmk := HMK.out
          subst hmk
          have hll : (0 :: (bs ++ [0])).length = k + 1 + 1 := by simp [hbl]
          refine ⟨by rw [fl_len, Nat.mul_one], .inr ⟨g, k + 1 + 1, (fl (0 :: (bs ++ [0]))).toArray, by rw [hll], Nat.le_trans hs2 HGW.out, ?_, by rw [hll]; exact Nat.le_refl _, by have := HMM.out; unfold maxLen; omega, by simp [fl_len, hbl], ?_⟩⟩
          · have h := HG8.out
            rw [splice_bends k bs hbl] at h
            exact h
          · exact List.take_of_length_le (by rw [fl_len]; omega)
        clear hg7 hr7 hsrc hO7 hX7 hB7 hB8 hBP
        have hll : (0 :: (bs ++ [0])).length = m0 + 1 := by have := HMK.out; simp [hbl]; omega
        have hrd := HO8.out.rd hll.symm
        go_wp2_with fail
        rw [← hll]
        refine (numsIfFinite_calls _ (0 :: (bs ++ [0])) _ _ (by have := HMM.out; omega) hrd).mono ?_
        rintro e w9 ⟨v9, ok, rfl, hok, hv1, hv0, mm, rfl⟩
        have HOK := Frame.hid hok
        have HV1 := Frame.hid hv1
        have HV0 := Frame.hid hv0
        have HLL := Frame.hid hll
        clear hrd hok hv1 hv0
        go_wp2_with fail
        go_ret2
        refine ⟨_, 0 :: (bs ++ [0]), _, rfl, nat_of HBP.out, HOK.out, fun h => ?_, HV0.out, below_drewN HB8.out _⟩
        rw [HV1.out h]
        have h := (HO8.out.below (below_drewN (Below.refl _ _) mm))
        rwa [← HLL.out] at h
  · go_wp2_with fail
    go_loopw [7, 22] (fun v i wr => BrW xs ys m0 w2 v i wr) (fun _ i _ => m0 - (intOf i).toNat)
    case atStart => exact ⟨0, [], by omega, rfl, ⟨rfl, fun i hi => absurd hi (by omega)⟩, ⟨rfl, .inl ⟨rfl, rfl⟩⟩, Below.refl _ _⟩
    case round =>
      obtain ⟨k, zs, hk, rfl, hZ, hO, hB⟩ := hrel
      have HZ := Frame.hid hZ
      have HO := Frame.hid hO
      have HB := Frame.hid hB
      clear hZ hO hB
      by_cases hlt : k < ml
      · have hrc : ∀ i, i < m0 → wr.cell? ⟨gr, of + i * 2, none⟩ = some (.float .f32 (l.getD i (0, 0)).1) ∧ wr.cell? ⟨gr, of + i * 2 + 1, none⟩ = some (.float .f32 (l.getD i (0, 0)).2) := fun i hi => ⟨(HB.out.cell HGR2.out).trans (HLC.out i hi).1, (HB.out.cell HGR2.out).trans (HLC.out i hi).2⟩
        obtain ⟨a0, a1⟩ := hrc k (by omega)
        obtain ⟨b0, b1⟩ := hrc (k + 1) (by omega)
        have HSA := Frame.hid (HSL.out k (by omega))
        have HSB := Frame.hid (HSL.out (k + 1) (by omega))
        rw [show of + (k + 1) * 2 = of + 2 + k * 2 by omega] at b0 b1
        generalize (l.getD k (0, 0)).1 = wa at a0 HSA
        generalize (l.getD (k + 1) (0, 0)).1 = wb at b0 HSB
        generalize (l.getD k (0, 0)).2 = sa at a1 HSA
        generalize (l.getD (k + 1) (0, 0)).2 = sb at b1 HSB
        have hkm : k < m0 := by omega
        have hgrw : gr < wr.heap.size := Nat.lt_of_lt_of_le HGR2.out HB.out.size
        have hk47 : k < 1000 := by have := HMM.out; omega
        clear hrc
        go_wp2_with fail
        refine upon_arith _ _ _ _ _ rfl ?_
        intro s n1 hs _
        have H1 := Frame.hid hs
        clear hs
        go_wp2_with fail
        refine upon_arith _ _ _ _ _ rfl ?_
        intro a n2 ha _
        have H2 := Frame.hid ha
        clear ha
        go_wp2_with fail
        refine upon_arith _ _ _ _ _ rfl ?_
        intro dd n3 hd _
        have H3 := Frame.hid hd
        clear hd
        go_wp2_with fail
        refine upon_arith _ _ _ _ _ rfl ?_
        intro r n4 hr _
        have H4 := Frame.hid hr
        clear hr a0 a1 b0 b1
        obtain ⟨W5, hW5⟩ : ∃ W5, W5 = ((((wr.alloc (Obj.cells #[.float .f32 wb, .float .f32 sb] 88)).alloc (Obj.cells #[.float .f32 wa, .float .f32 sa] 88)).drewN (n1 + n2 + n3)).drewN n4) := ⟨_, rfl⟩
        rw [← hW5]
        have HB5 : Hid (Below wr.heap.size wr W5) := by
          rw [hW5]
          exact below_drewN (below_drewN (((Below.refl _ _).alloc (Nat.le_refl _) _).alloc (by simp) _) _) _
        have hO5 : W5.ownsRow w2.heap.size 90 4 u7 k (fl zs) := rowB_below HO.out HB5.out
        have HO5 := Frame.hid hO5
        have hsz5 : w2.heap.size ≤ W5.heap.size := Nat.le_trans HB.out.size HB5.out.size
        clear hW5 hO5
        go_wp2_with (at_builtin; refine wpList_append_own _ rfl _ _ 86 rfl w2.heap.size 90 i1 (.agg #[.float .f32 0, .float .f32 0, .float .f32 0, .float .f32 0]) 4 16 Try.underlying86 gi gz0 gz1 gz2 rfl (by decide) u7 k (fl zs) rfl ?_ ⟨W5.heap.size, 0, none⟩ 1 1 [.float .f32 wa, .float .f32 a, .float .f32 wb, .float .f32 r] rfl rfl ?_ (by intro u hu; simp at hu; rcases hu with rfl | rfl | rfl | rfl <;> rfl) (by unfold maxLen; omega) (by omega) (by simp; omega) ?_; (· exact rowB_below HO5.out ((Below.refl _ _).alloc (Nat.le_refl _) _)); (· exact two_news _ _ _ rfl); intro v3 w3 hown3 hgrow3 hnil3)
        have HBN : Hid (Below w2.heap.size w2 w3) := ((HB.out.trans (HB5.out.mono HB.out.size)).alloc hsz5 _).grown hgrow3 (by simp; omega) (fun kk e => (World.ownsRow.lt HO5.out kk e).1)
        have HON := Frame.hid hown3
        clear hown3 hgrow3 hnil3
        go_wp2_with fail
        go_roundw
        case rel => exact ⟨k + 1, zs ++ [wa, a, wb, r], by omega, by go_num, HZ.out.step HSA.out.1 ⟨wa, wb, s, HSA.out.1, HSB.out.1, H1.out, H2.out⟩ HSB.out.1 ⟨sa, sb, dd, ⟨_, HSA.out⟩, ⟨_, HSB.out⟩, H3.out, H4.out⟩, by rw [fl_four]; exact HON.out, HBN.out⟩
        case measure => simp [intOf]; omega
      · go_wp2_with (at_make; refine wpList_make_full _ rfl _ _ 44 rfl w.heap.size 25 i0 (.float .f32 0) 1 Try.underlying44 hi hz0 hz1 _ _ _ _ (m0 + 1) rfl rfl rfl rfl ?c1 ?c2 ?c3 ?_)
        case c1 => rw [hz2]; have := HMM.out; omega
        case c2 => have := HMM.out; unfold maxLen; omega
        case c3 => exact Nat.le_trans hs2 HB.out.size
        intro w3 hown hgrow
        obtain rfl : k = ml := by omega
        obtain ⟨g, hgd⟩ : ∃ g, g = wr.heap.size := ⟨_, rfl⟩
        have hZl := HZ.out.1
        have hsr : w.heap.size ≤ wr.heap.size := Nat.le_trans hs2 HB.out.size
        have hBg3 : Below wr.heap.size wr w3 := (Below.refl _ _).grown hgrow (Nat.le_refl _) (by simp)
        have HB3 : Hid (Below w2.heap.size w2 w3) := HB.out.trans (hBg3.mono HB.out.size)
        have HO3 : Hid (w3.ownsRow w2.heap.size 90 4 u7 k (fl zs)) := rowB_below HO.out hBg3
        have HGC : Hid (w3.heap[g]? = some (.cells (fl (List.replicate (m0 + 1) 0)).toArray 25 (0, 0)) ∧ g < w3.heap.size) := by
          have e : (madeCells #[Value.float .f32 0] (m0 + 1)).toList = fl (List.replicate (m0 + 1) 0) := by
            unfold fl
            rw [List.map_replicate]
            exact toList_madeCells_one _ _
          rw [e] at hown
          rcases hown.2 with ⟨h0, _⟩ | ⟨g', cap, cur, hv, _, hh, _, _, hsz, htk⟩
          · cases h0
          · cases hv
            refine ⟨?_, by rw [hgd]; exact (Array.getElem?_eq_some_iff.1 hh).1⟩
            rw [List.take_of_length_le (by rw [Array.length_toList]; omega)] at htk
            rw [hgd, hh, ← htk]
        have hform : ∃ A2 gr2 c2, u7 = .slice A2 k c2 ∧ gr2 < g ∧ ((A2 = none ∧ k = 0) ∨ A2 = some ⟨gr2, 0, none⟩) := by
          rcases HO.out.2 with ⟨h0, h1⟩ | ⟨g', cap, cur, hv, hb', hh, _⟩
          · exact ⟨none, gr, 0, by rw [h0, h1], by have := HGR2.out; have := HB.out.size; omega, .inl ⟨rfl, h1⟩⟩
          · exact ⟨_, g', cap, hv, by rw [hgd]; exact (Array.getElem?_eq_some_iff.1 hh).1, .inr rfl⟩
        obtain ⟨A2, gr2, c2, rfl, hgr2, hA2⟩ := hform
        have HFM := Frame.hid (And.intro hgr2 hA2)
        have HGW : Hid (w2.heap.size ≤ g) := by rw [hgd]; exact HB.out.size
        have HZR := Frame.hid HZ.out.raw
        have hm0k : m0 = k + 1 := HML.out
        have HMK := Frame.hid hm0k
        rw [← hgd]
        clear hown hgrow hgd hBg3 HO HB hgr2 hA2 hZl hm0k
        go_wp2_with fail
        refine region_hand 1 (fun _ => True) (by kernel_rfl) ?_
        have hm1' : ¬ (m0 + 1 = 1) := by omega
        have hm2' : m0 ≠ 0 := by omega
        have hm3' : (1 : Int) ≤ (m0 : Int) + 1 := by omega
        refine' wpEnd_take 0 rfl (by kernel_rfl) trivial (Or.inl ⟨by rfl, fun wq hSq => _⟩) _
        rotate_left
        · (go_simp; (try with_reducible rfl))
        simp only [Act.put, List.setIfInBounds_toArray, List.set_cons_zero, List.set_cons_succ]
        refine wpEnd_swap 4 1 (fun _ => trivial) _ _ _ _ ?_
        refine' wpEnd_take 1 rfl (by kernel_rfl) trivial (Or.inl ⟨by rfl, fun wq hSq => _⟩) _
        rotate_left
        · (go_simp; (try with_reducible rfl))
        simp only [Act.put, List.setIfInBounds_toArray, List.set_cons_zero, List.set_cons_succ]
        refine wpEnd_swap 3 4 (fun _ => trivial) _ _ _ _ ?_
        refine' wpEnd_take 2 rfl (by kernel_rfl) trivial (Or.inl ⟨by rfl, fun wq hSq => _⟩) _
        rotate_left
        · (go_simp; (try with_reducible rfl))
        simp only [Act.put, List.setIfInBounds_toArray, List.set_cons_zero, List.set_cons_succ]
        refine wpEnd_ready [3] (by kernel_rfl) rfl (AllE.cons rfl (fun K hK => ?_) AllE.nil)
        go_simp
        go_at_call 55
        have hd3 : w3.drewN 1 = w3.drew := rfl
        rw [← hd3]
        refine (solvedBends_calls A2 gr2 c2 k w2.heap.size xs ys zs (by have := HMM.out; have := HMK.out; omega) (w3.drewN 1) HO3.out (by rcases HFM.out.2 with h | h; exact .inl h; exact .inr ⟨Nat.lt_trans HFM.out.1 HGC.out.2, h⟩) HB3.out.size HZR.out).mono ?_
        rintro e_ w7 ⟨v7, bs, rfl, hBP, hO7, hX7, hB7⟩
        refine hK.out _ _ (.inr trivial) ?_
        clear hK K hd3
        (try simp only [Act.put, List.setIfInBounds_toArray, List.set_cons_zero, List.set_cons_succ])
        obtain ⟨A7, c7, rfl, hr7⟩ := hO7.reads
        have hbl := hBP.1
        have hg7 : w7.heap[g]? = some (.cells (fl (List.replicate (m0 + 1) 0)).toArray 25 (0, 0)) := (hX7.h g HGC.out.2 (Nat.ne_of_gt HFM.out.1)).trans HGC.out.1
        have HB07 : Hid (Below w.heap.size w w7) := HB2.out.trans (((below_drewN HB3.out 1).trans hB7).mono hs2)
        have HBP := Frame.hid hBP
        have hflb : (fl bs).length = k := by rw [fl_len]; exact hbl
        have hsrc : 0 < (fl bs).length → ∃ ad, A7 = some ad ∧ ∀ j v, (fl bs)[j]? = some v → w7.cell? (ad.add j) = some v := fun h0 => by
          obtain ⟨b7, o7, h1, h2, h3⟩ := hr7 (by omega)
          refine ⟨_, h1, fun j v hj => ?_⟩
          have hjl : j < bs.length := by have := (List.getElem?_eq_some_iff.1 hj).1; omega
          rw [fl_get hjl] at hj
          injection hj with hj
          rw [← hj, Go.WideShapes.add_plain]
          exact h3 j hjl
        refine wpEnd_ready [4] (by kernel_rfl) rfl (AllE.cons rfl (fun K hK => ?_) AllE.nil)
        refine step_copy_splice rfl (.tmp 56) (.tmp 58) 44 44 rfl 25 Try.underlying44 (by kernel_rfl) (some ⟨g, 1, none⟩) A7 m0 m0 bs.length c7 rfl rfl g 1 (fl (List.replicate (m0 + 1) 0)) 25 hg7 (fl bs) (by rw [hflb, hbl]; exact (Nat.min_eq_left (by omega)).symm) (fun h0 => ⟨rfl, hsrc h0⟩) (by rw [hflb, fl_len, List.length_replicate]; have := HMK.out; omega) (by intro u hu; unfold fl at hu; rw [List.mem_map] at hu; obtain ⟨x, _, rfl⟩ := hu; rfl) w.heap.size w HB07.out (Nat.le_trans hs2 HGW.out) ?_
        intro w8 HG8 hB8
        have HB8 := Frame.hid hB8
        refine hK.out _ _ (.inr trivial) ?_
        clear hK K
        refine wpEnd_done (by kernel_rfl) ?_
        have HO8 : Hid (OwnF w8 w.heap.size (.slice (some ⟨g, 0, none⟩) (m0 + 1) (m0 + 1)) (0 :: (bs ++ [0]))) := by
          have hmk := HMK.out
          subst hmk
          have hll : (0 :: (bs ++ [0])).length = k + 1 + 1 := by simp [hbl]
          refine ⟨by rw [fl_len, Nat.mul_one], .inr ⟨g, k + 1 + 1, (fl (0 :: (bs ++ [0]))).toArray, by rw [hll], Nat.le_trans hs2 HGW.out, ?_, by rw [hll]; exact Nat.le_refl _, by have := HMM.out; unfold maxLen; omega, by simp [fl_len, hbl], ?_⟩⟩
          · have h := HG8.out
            rw [splice_bends k bs hbl] at h
            exact h
          · exact List.take_of_length_le (by rw [fl_len]; omega)
        clear hg7 hr7 hsrc hO7 hX7 hB7 hB8 hBP
        have hll : (0 :: (bs ++ [0])).length = m0 + 1 := by have := HMK.out; simp [hbl]; omega
        have hrd := HO8.out.rd hll.symm
        go_wp2_with fail
        rw [← hll]
        refine (numsIfFinite_calls _ (0 :: (bs ++ [0])) _ _ (by have := HMM.out; omega) hrd).mono ?_
        rintro e w9 ⟨v9, ok, rfl, hok, hv1, hv0, mm, rfl⟩
        have HOK := Frame.hid hok
        have HV1 := Frame.hid hv1
        have HV0 := Frame.hid hv0
        have HLL := Frame.hid hll
        clear hrd hok hv1 hv0
        go_wp2_with fail
        go_ret2
        refine ⟨_, 0 :: (bs ++ [0]), _, rfl, nat_of HBP.out, HOK.out, fun h => ?_, HV0.out, below_drewN HB8.out _⟩
        rw [HV1.out h]
        have h := (HO8.out.below (below_drewN (Below.refl _ _) mm))
        rwa [← HLL.out] at h

end Go.Proofs.Ytfkdkdocbecjmaa
