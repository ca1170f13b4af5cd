/-
  SpeedPlan: the law.
-/
import Derived.Test.YtohbanchaggnmaaYf
namespace Go.Proofs.Ytohbanchaggnmaa
open Go.RowKit Go.Shelf Fl Ieee Go.WideShapes Go.Deep
attribute [local go_sem] run_store_f

set_option maxRecDepth 100000 in
set_option maxHeartbeats 1000000 in
theorem toFOwn_calls (A : Option Addr) (xs : List Nat) (c : Nat) (w : World) (hn : xs.length ≤ 1048576) (hr : RdF w A xs) :
    Calls Try.prog 45 #[.slice A xs.length c] w fun e w' => e = .returned (.slice (some ⟨w.heap.size, 0, none⟩) xs.length xs.length) ∧ OwnF w' w.heap.size (.slice (some ⟨w.heap.size, 0, none⟩) xs.length xs.length) xs ∧ Below w.heap.size w w' := by
  obtain ⟨i0, hi, hz0, hz1, hz2⟩ := info_parts Try.infoF
  have HR := Frame.hid hr
  clear hr
  obtain ⟨n, hxn⟩ : ∃ n, n = xs.length := ⟨_, rfl⟩
  rw [← hxn] at hn ⊢
  have HX := Frame.hid hxn
  clear hxn
  go_enter Try.func45, Try.ntmps45
  go_wp2_with (at_make; refine wpList_make_full _ rfl _ _ 64 rfl w.heap.size 25 i0 (.float .f32 0) 1 Try.underlying64 hi hz0 hz1 _ _ _ _ n rfl rfl rfl rfl ?c1 ?c2 ?c3 ?_)
  case c1 => rw [hz2]; omega
  case c2 => unfold maxLen; omega
  case c3 => simp
  intro w1 hown hgrow
  obtain ⟨g, hg⟩ : ∃ g, g = w.heap.size := ⟨_, rfl⟩
  have hblk : ∃ cs : Array Value, w1.heap[g]? = some (.cells cs 25 (0, 0)) ∧ cs.size = n := by
    rcases hown.2 with ⟨h0, _⟩ | ⟨g', cap, cur, hv, _, hh, _, _, hsz, _⟩
    · cases h0
    · cases hv
      exact ⟨cur, by rw [hg]; exact hh, by simpa using hsz⟩
  have HB := Frame.hid hblk
  have HW : Hid (Below w.heap.size w w1) := (Below.refl _ _).grown hgrow (Nat.le_refl _) (by simp)
  clear hown hgrow hblk
  rw [← hg]
  have HG := Frame.hid hg
  clear hg hi hz0 hz1 hz2
  go_wp2
  go_loopw [4] (fun i wr => CopyTo w g n xs i wr) (fun i _ => n - (intOf i).toNat)
  case atStart =>
    obtain ⟨cs, h1, h2⟩ := HB.out
    exact ⟨0, Nat.zero_le _, rfl, cs, h1, h2, fun j hj => absurd hj (by omega), HW.out⟩
  case round =>
    obtain ⟨k, hk, rfl, cs, h1, h2, h3, h4⟩ := hrel
    by_cases hlt : k < n
    · obtain ⟨b, off, rfl, hb, hc⟩ := HR.out (by have := HX.out; omega)
      have hstep := Frame.hid (copy_step (Nat.le_of_eq HG.out.symm) hlt h1 h2 h3 h4)
      have hc1 : wr.cell? ⟨b, off + k, none⟩ = some (.float .f32 (xs.getD k 0)) := (h4.cell (p := ⟨b, off + k, none⟩) hb).trans (hc k (by have := HX.out; omega))
      obtain ⟨u, hc2⟩ : ∃ u, wr.cell? ⟨g, k, none⟩ = some u := ⟨cs[k]'(by omega), by
        rw [cell_of_row wr g k cs _ (0, 0) h1, Array.getElem?_eq_getElem]⟩
      have hc3 : wr.frozen? ⟨g, k, none⟩ = false := frozen_row h1
      generalize xs.getD k 0 = x at *
      clear hc h1 h2 h3 h4 HB HW HG HR HX
      go_wp2
      go_roundw
      case rel => exact hstep.out
      case measure => simp [intOf]; omega
    · have hkn : k = n := by omega
      have ho : OwnF wr w.heap.size (.slice (some ⟨g, 0, none⟩) n n) xs := by
        have hx := HX.out
        show World.ownsRow _ _ _ _ _ _ _
        refine ⟨by rw [fl_len, ← hx, Nat.mul_one], .inr ⟨g, n, cs, by rw [← hx], Nat.le_of_eq HG.out.symm, h1, by rw [← hx]; exact Nat.le_refl _, by unfold maxLen; omega, by rw [Nat.mul_one]; exact h2, ?_⟩⟩
        rw [← hx, Nat.mul_one, List.take_of_length_le (by rw [Array.length_toList]; omega)]
        unfold fl
        refine List.ext_getElem (by rw [Array.length_toList, List.length_map]; omega) fun i i1 i2 => ?_
        have hi1 : i < n := by rw [Array.length_toList] at i1; omega
        have h := h3 i (by omega)
        rw [Array.getElem?_eq_getElem (by omega)] at h
        injection h with h
        rw [Array.getElem_toList, h, List.getElem_map]
        rw [List.getD_eq_getElem?_getD, List.getElem?_eq_getElem (by omega)]
        rfl
      have HO := Frame.hid ho
      have HX4 := Frame.hid h4
      clear h1 h2 h3 h4 HB HW hkn ho
      go_wp2
      go_ret
      have hgg := HG.out
      subst hgg
      exact ⟨rfl, HO.out, HX4.out⟩

set_option maxRecDepth 100000 in
set_option maxHeartbeats 1000000 in
theorem markFW_calls (B g m cap : Nat) (ys : List Nat) (hl : ys.length = m) (hm : m ≤ 1048576) (w : World) (hO : OwnF w B (.slice (some ⟨g, 0, none⟩) m cap) ys) (hg : B ≤ g) :
    Calls Try.prog 48 #[.slice (some ⟨g, 0, none⟩) m cap, .int .i64 1] w fun e w' => e = .returned (.int .i64 (1 + (m : Int))) ∧ Below B w w' ∧ ∀ k, k ≠ g → w'.heap[k]? = w.heap[k]? := by
  have HL := Frame.hid hl
  have HO := Frame.hid hO
  have HG := Frame.hid hg
  clear hl hO hg
  go_enter Try.func48, Try.ntmps48
  go_wp2
  go_loopw [1, 5] (fun k i wr => ∃ (q : Nat) (zs : List Nat), q ≤ m ∧ k = .int .i64 (1 + (q : Int)) ∧ i = .int .i64 q ∧ zs.length = m ∧ OwnF wr B (.slice (some ⟨g, 0, none⟩) m cap) zs ∧ Below B w wr ∧ ∀ k, k ≠ g → wr.heap[k]? = w.heap[k]?) (fun _ i _ => m - (intOf i).toNat)
  case atStart => exact ⟨0, ys, Nat.zero_le _, rfl, rfl, HL.out, HO.out, Below.refl _ _, fun _ _ => rfl⟩
  case round =>
    obtain ⟨q, zs, hq, rfl, rfl, hzl, hO, hB, hF⟩ := hrel
    by_cases hlt : q < m
    · have c1 := hO.cell hzl.symm (j := q) (by omega)
      have fz := hO.froz hzl.symm q
      have HZL := Frame.hid hzl
      have HO := Frame.hid hO
      have HF := Frame.hid hF
      have HB := Frame.hid hB
      generalize zs.getD q 0 = a at c1
      clear hzl hO hF hB
      go_wp2
      go_roundw
      case rel =>
        refine ⟨q + 1, _, by omega, by go_num, by go_num, ?_, OwnF.put HO.out HZL.out.symm q (floatOfInt .f32 (1 + (q : Int))), HB.out.setCell (p := ⟨g, _, none⟩) HG.out _, fun k hk => ?_⟩
        · rw [List.length_set]; exact HZL.out
        · rw [Below.heap_setCell _ _ _ _ hk]; exact HF.out k hk
      case measure => simp [intOf]; omega
    · have hqm : q = m := by omega
      subst hqm
      have HF := Frame.hid hF
      have HB := Frame.hid hB
      clear hzl hO hF hB
      go_wp2
      go_ret
      exact ⟨rfl, HB.out, HF.out⟩

theorem OwnF.only {W W' : World} {base gx : Nat} {v : Value} {ys : List Nat} (h : OwnF W base v ys) (hlt : gx < base) (hF : ∀ k, k ≠ gx → W'.heap[k]? = W.heap[k]?) : OwnF W' base v ys := by
  refine ⟨h.1, ?_⟩
  rcases h.2 with hn | ⟨g, cap, cur, hv, hbg, hg, rest⟩
  · exact .inl hn
  · exact .inr ⟨g, cap, cur, hv, hbg, by rw [hF g (by omega)]; exact hg, rest⟩
theorem SpO.len {xs : List Nat} {most rise : Nat} {vs : List Nat} {t : Nat} {ok : Bool} (h : SpO xs most rise vs t ok) : vs.length ≤ 256 ∧ (ok = false → vs = []) := by
  rcases h with ⟨h1, us, h2, h3⟩ | ⟨-, rfl, -, -⟩
  · have h0 := h1
    unfold spB at h0
    simp only [Bool.and_eq_true, decide_eq_true_eq] at h0
    obtain ⟨⟨⟨⟨a1, a2⟩, a3⟩, a4⟩, a5⟩ := h0
    have hm : fin .f32 most = true := by unfold aboveB at a4; rw [Bool.and_eq_true] at a4; exact a4.1
    rcases h3 with ⟨-, s, -, ⟨-, rfl, -, rfl⟩ | ⟨-, rfl, -, -⟩⟩ | ⟨-, rfl, -, -⟩
    · exact ⟨by rw [(BW.facts hm h2).1]; omega, fun h => by cases h⟩
    · exact ⟨by simp, fun _ => rfl⟩
    · exact ⟨by simp, fun _ => rfl⟩
  · exact ⟨by simp, fun _ => rfl⟩

/-- What a call hands out. -/
def SpV (xs : List Nat) (most rise : Nat) (w : World) (e : Ending) (w' : World) : Prop :=
  ∃ v vs t ok, e = .returned (.tuple #[v, .float .f32 t, .bool ok]) ∧ SpO xs most rise vs t ok ∧ OwnF w' w.heap.size v vs ∧ Below w.heap.size w w'
theorem spV_of {xs : List Nat} {most rise : Nat} {w : World} {e : Ending} {w' : World} (h : ∃ v vs t ok, e = .returned (.tuple #[v, .float .f32 t, .bool ok]) ∧ SpO xs most rise vs t ok ∧ (ok = false → v = .slice none 0 0) ∧ (ok = true → OwnF w' w.heap.size v vs) ∧ Below w.heap.size w w') : SpV xs most rise w e w' := by
  obtain ⟨v, vs, t, ok, h1, h2, h3, h4, h5⟩ := h
  refine ⟨v, vs, t, ok, h1, h2, ?_, h5⟩
  cases ok
  · rw [h3 rfl, h2.len.2 rfl]
    exact ⟨rfl, .inl ⟨rfl, rfl⟩⟩
  · exact h4 rfl

set_option maxRecDepth 100000 in
set_option maxHeartbeats 4000000 in
theorem fnExactSpeedPlan_walk (A : Option Addr) (xs : List Nat) (c : Nat) (most rise : Nat) (hmax : xs.length ≤ maxLen) (w : World) (hA : RdF w A xs) :
    Calls Try.prog 11 #[.slice A xs.length c, .float .f32 most, .float .f32 rise] w fun e w' => e = .returned (.bool true) ∧ Below w.heap.size w w' := by
  unfold maxLen at hmax
  have HA := Frame.hid hA
  clear hA
  by_cases hbig : 1048576 < xs.length
  · go_enter Try.func11, Try.ntmps11
    go_wp2
    go_ret
    exact ⟨rfl, Below.refl _ _⟩
  have hn : xs.length ≤ 1048576 := by omega
  clear hbig
  go_enter Try.func11, Try.ntmps11
  go_wp2_with fail
  refine (toFOwn_calls _ xs _ _ hn HA.out).mono ?_
  rintro e w1 ⟨rfl, hO1, hB1⟩
  have HB1 := Frame.hid hB1
  have hrd := hO1.rd rfl
  clear hO1 hB1
  go_wp2_with fail
  refine Calls.mono ((specSpeedPlan_calls _ _ xs most rise _ hn hrd).mono (fun _ _ h => spV_of h)) ?_
  rintro e w2 ⟨v2, vs, t2, ok2, rfl, hS2, hO2, hB2⟩
  have HS2 := Frame.hid hS2
  have HO2 := Frame.hid hO2
  have HB2 := Frame.hid (HB1.out.trans (hB2.mono HB1.out.size))
  clear hS2 hO2 hB2 hrd HB1
  go_wp2_with fail
  refine (toFOwn_calls _ xs _ _ hn (HA.out.below HB2.out)).mono ?_
  rintro e w3 ⟨rfl, hO3, hB3⟩
  have HO3 := Frame.hid hO3
  have HB3 := Frame.hid hB3
  have hrd := hO3.rd rfl
  have hl3 : w2.heap.size < w3.heap.size := (World.ownsRow.lt hO3 _ rfl).2
  clear hO3 hB3
  go_wp2_with fail
  refine Calls.mono ((speedPlan_calls _ _ xs most rise _ hn hrd).mono (fun _ _ h => spV_of h)) ?_
  rintro e w4 ⟨v4, us, t4, ok4, rfl, hS4, hO4, hB4⟩
  have HSM2 := Frame.hid (hS4.same HS2.out).2.1
  obtain ⟨e1, hsm, e3⟩ := HS2.out.same hS4
  subst e1
  subst e3
  have HL := Frame.hid HS2.out.len.1
  have HSM := Frame.hid hsm
  have HO4 := Frame.hid hO4
  have HB4 := Frame.hid (HB3.out.trans (hB4.mono HB3.out.size))
  have HO34 := Frame.hid (HO3.out.below hB4)
  clear hS4 hO4 hB4 hrd hsm HB3 HO3
  have HB24 := Frame.hid (HB2.out.trans (HB4.out.mono HB2.out.size))
  go_wp2_with fail
  obtain ⟨A2, c2, rfl, hr2⟩ := (HO2.out.below HB4.out).reads
  obtain ⟨A4, c4, rfl, hr4⟩ := HO4.out.reads
  refine (eqFl_calls _ _ vs vs _ _ _ (by have := HL.out; omega) (LSame.refl _) hr4 hr2).mono ?_
  rintro e w5 ⟨rfl, m5, rfl⟩
  have hcc : (ok2 != ok2) = false := by cases ok2 <;> rfl
  clear hr2 hr4
  go_wp2_with (first | (refine wpList_conv rfl _ _ _ rfl .f32 .f64 (by decide) (.inl rfl) _ rfl (by kernel_rfl) (by kernel_rfl) ?_; intro r n hr hl) | (refine upon_conv _ _ .f32 .f64 _ (by decide) (.inl rfl) (by kernel_rfl) (by kernel_rfl) ?_; intro r n hr hl) | (go_at_call 36; first | (refine (sameFloat_calls _ _ (wide_pair HSM.out (by with_reducible assumption) (by with_reducible assumption)) _).mono ?_; rintro e w' ⟨rfl, n, rfl⟩) | (refine (sameFloat_calls _ _ (wide_pair HSM2.out (by with_reducible assumption) (by with_reducible assumption)) _).mono ?_; rintro e w' ⟨rfl, n, rfl⟩)))
  refine (toFOwn_calls _ xs _ _ hn ((HA.out.below HB24.out).drewN _)).mono ?_
  rintro e w6 ⟨rfl, hO6, hB6⟩
  have hB46 : Below w4.heap.size w4 w6 := (below_drewN (Below.refl _ _) _).trans hB6
  have HB46 := Frame.hid hB46
  have hr6 := hO6.rd rfl
  have HO36 := Frame.hid (HO34.out.below hB46)
  clear hB46 hO6 hB6
  go_wp2_with fail
  refine (eqFl_calls _ _ xs xs _ _ _ hn (LSame.refl _) (HO36.out.rd rfl) hr6).mono ?_
  rintro e w7 ⟨rfl, m7, rfl⟩
  clear hr6
  have hk0 : decide ((1 : Int) + (xs.length : Int) < 0) = false := by rw [decide_eq_false_iff_not]; omega
  go_wp2_with fail
  refine (markFW_calls w2.heap.size _ xs.length _ xs rfl hn _ (HO36.out.below (below_drewN (Below.refl _ _) m7)) (Nat.le_refl _)).mono ?_
  rintro e w8 ⟨rfl, hB8, hF8⟩
  have hB28 : Below w2.heap.size w2 w8 := (HB4.out.trans ((below_drewN HB46.out m7).mono HB4.out.size)).trans hB8
  have HB28 := Frame.hid hB28
  have HO48 := Frame.hid (OwnF.only (HO4.out.below (below_drewN HB46.out m7)) hl3 hF8)
  clear hB28 hB8 hF8
  have hsz2 : w2.heap.size ≤ w3.heap.size := by omega
  go_wp2_with fail
  obtain ⟨hr2⟩ : Nonempty (RdF w8 A2 vs) := by
    obtain ⟨A', c', hv, hr⟩ := (HO2.out.below HB28.out).reads
    cases hv
    exact ⟨hr⟩
  obtain ⟨hr4⟩ : Nonempty (RdF w8 A4 vs) := by
    obtain ⟨A', c', hv, hr⟩ := HO48.out.reads
    cases hv
    exact ⟨hr⟩
  refine (eqFl_calls _ _ vs vs _ _ _ (by have := HL.out; omega) (LSame.refl _) hr4 hr2).mono ?_
  rintro e w9 ⟨rfl, m9, rfl⟩
  clear hr2 hr4
  go_wp2_with (first | (refine wpList_conv rfl _ _ _ rfl .f32 .f64 (by decide) (.inl rfl) _ rfl (by kernel_rfl) (by kernel_rfl) ?_; intro r n hr hl) | (refine upon_conv _ _ .f32 .f64 _ (by decide) (.inl rfl) (by kernel_rfl) (by kernel_rfl) ?_; intro r n hr hl) | (go_at_call 36; first | (refine (sameFloat_calls _ _ (wide_pair HSM.out (by with_reducible assumption) (by with_reducible assumption)) _).mono ?_; rintro e w' ⟨rfl, n, rfl⟩) | (refine (sameFloat_calls _ _ (wide_pair HSM2.out (by with_reducible assumption) (by with_reducible assumption)) _).mono ?_; rintro e w' ⟨rfl, n, rfl⟩)))
  refine (markF_calls _ _ vs HL.out _ (HO48.out.below (below_drewN (Below.refl _ _) _))).mono ?_
  rintro e w10 ⟨rfl, hO10, hB10⟩
  have HO10 := Frame.hid hO10
  have hB210 : Below w2.heap.size w2 w10 := HB28.out.trans (((below_drewN (Below.refl _ _) _).trans hB10).mono hsz2)
  have HB210 := Frame.hid hB210
  have HBw10 := Frame.hid (HB2.out.trans (hB210.mono HB2.out.size))
  clear hO10 hB10 hB210
  go_wp2_with fail
  refine (heldF_calls _ _ vs.length HL.out _ HO10.out).mono ?_
  rintro e w' ⟨rfl, rfl⟩
  go_wp2_with fail
  refine (toFOwn_calls _ xs _ _ hn (HA.out.below HBw10.out)).mono ?_
  rintro e w11 ⟨rfl, hO11, hB11⟩
  have HB11 := Frame.hid hB11
  have hrd := hO11.rd rfl
  clear hO11 hB11
  go_wp2_with fail
  refine Calls.mono ((speedPlan_calls _ _ xs most rise _ hn hrd).mono (fun _ _ h => spV_of h)) ?_
  rintro e w12 ⟨v12, us, t12, ok12, rfl, hS12, hO12, hB12⟩
  clear HSM HSM2
  have HSM2 := Frame.hid (hS12.same HS2.out).2.1
  obtain ⟨e1, hsm, e3⟩ := HS2.out.same hS12
  subst e1
  subst e3
  have HSM := Frame.hid hsm
  have hB1012 := HB11.out.trans (hB12.mono HB11.out.size)
  have HO12 := Frame.hid hO12
  have HOM := Frame.hid (HO10.out.below hB1012)
  have HB212 := Frame.hid (HB210.out.trans (hB1012.mono HB210.out.size))
  clear hS12 hO12 hB12 hrd hsm hB1012
  go_wp2_with fail
  obtain ⟨hr2⟩ : Nonempty (RdF w12 A2 vs) := by
    obtain ⟨A', c', hv, hr⟩ := (HO2.out.below HB212.out).reads
    cases hv
    exact ⟨hr⟩
  obtain ⟨A5, c5, rfl, hr5⟩ := HO12.out.reads
  refine (eqFl_calls _ _ vs vs _ _ _ (by have := HL.out; omega) (LSame.refl _) hr5 hr2).mono ?_
  rintro e w13 ⟨rfl, m13, rfl⟩
  clear hr2 hr5
  go_wp2_with (first | (refine wpList_conv rfl _ _ _ rfl .f32 .f64 (by decide) (.inl rfl) _ rfl (by kernel_rfl) (by kernel_rfl) ?_; intro r n hr hl) | (refine upon_conv _ _ .f32 .f64 _ (by decide) (.inl rfl) (by kernel_rfl) (by kernel_rfl) ?_; intro r n hr hl) | (go_at_call 36; first | (refine (sameFloat_calls _ _ (wide_pair HSM.out (by with_reducible assumption) (by with_reducible assumption)) _).mono ?_; rintro e w' ⟨rfl, n, rfl⟩) | (refine (sameFloat_calls _ _ (wide_pair HSM2.out (by with_reducible assumption) (by with_reducible assumption)) _).mono ?_; rintro e w' ⟨rfl, n, rfl⟩)))
  refine (heldF_calls _ _ vs.length HL.out _ (HOM.out.below (below_drewN (Below.refl _ _) _))).mono ?_
  rintro e w' ⟨rfl, rfl⟩
  go_wp2_with fail
  go_ret
  exact ⟨rfl, below_drewN (HB2.out.trans (HB212.out.mono HB2.out.size)) _⟩

end Go.Proofs.Ytohbanchaggnmaa
