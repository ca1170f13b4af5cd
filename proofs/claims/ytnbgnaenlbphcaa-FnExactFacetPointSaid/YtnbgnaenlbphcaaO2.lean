/-
  Nets are valid: the specification's test, walked.
-/
import Derived.Test.YtnbgnaenlbphcaaO1
namespace Go.Proofs.Ytnbgnaenlbphcaa
open Go.RowKit Fl Go.WideShapes Go.Deep
attribute [local go_sem] kstore_f kalloc_drewN kset_drewN hstore_i hstore_s

theorem FstS.lt {L : List (Int × Int)} {i : Nat} {s : Int × Int} {z : Int} (h : FstS L s.1 s.2 z) (hi : L[i]? = some s) : (z = (i : Int) → ∀ k : Nat, k < i → L[k]? ≠ some s) ∧ (z ≠ (i : Int) → ∃ k : Nat, k < i ∧ L[k]? = some s) := by
  rcases h with ⟨_, h⟩ | ⟨j, rfl, h, hl⟩
  · exact absurd hi (h i (List.getElem?_eq_some_iff.1 hi).1)
  · refine ⟨fun e k hk => ?_, fun e => ?_⟩
    · have : j = i := by omega
      subst this
      exact hl k hk
    · rcases Nat.lt_trichotomy j i with g | g | g
      · exact ⟨j, g, h⟩
      · exact absurd (by rw [g]) e
      · exact absurd hi (hl i g)
theorem nodup_of {L : List (Int × Int)} (h : ∀ i : Nat, i < L.length → ∀ k : Nat, k < i → L[k]? ≠ L[i]?) : L.Nodup := by
  rw [List.nodup_iff_pairwise_ne, List.pairwise_iff_getElem]
  intro i j hi hj hij e
  apply h j hj i hij
  rw [List.getElem?_eq_getElem hi, List.getElem?_eq_getElem hj, e]
theorem nodup_at {L : List (Int × Int)} (h : L.Nodup) {k i : Nat} (hk : k < i) (hi : i < L.length) : L[k]? ≠ L[i]? := by
  rw [List.nodup_iff_pairwise_ne, List.pairwise_iff_getElem] at h
  intro e
  rw [List.getElem?_eq_getElem (by omega), List.getElem?_eq_getElem hi] at e
  injection e with e
  exact h k i (by omega) hi hk e

theorem RowB.made {w : World} {base g n : Nat} (h : w.ownsRow base 4 1 (.slice (some ⟨g, 0, none⟩) n n) n (madeCells #[Value.bool false] n).toList) : RowB g n (fun _ => false) w := by
  rw [toList_madeCells_one] at h
  have hc := fun j (hj : j < n) => World.ownsRow.cellAt h j (by omega)
  rcases h.2 with ⟨h0, _⟩ | ⟨g', cap, cur, hv, _, hh, _, _, hsz, _⟩
  · cases h0
  · cases hv
    refine ⟨cur, hh, by simpa using hsz, fun j hj => ?_⟩
    have := hc j hj
    rw [cell_of_row w g j cur _ (0, 0) hh] at this
    rw [this]
    simp [hj]
theorem RdJ.at0 {w : World} {g : Nat} {xs : List Int} (h : RdJ w (some ⟨g, 0, none⟩) xs) {j : Nat} (hj : j < xs.length) : g < w.heap.size ∧ w.cell? ⟨g, j, none⟩ = some (.int .i64 (xs.getD j 0)) := by
  obtain ⟨b, off, e, hl, hc⟩ := h (by omega)
  injection e with e
  injection e with e1 e2
  subst e1
  subst e2
  have := hc j hj
  rw [Nat.zero_add] at this
  exact ⟨hl, this⟩
theorem OwnI.some {w : World} {B : Nat} {v : Value} {ys : List Int} (h : OwnI w B v ys) (h0 : 0 < ys.length) : ∃ g cap, v = .slice (some ⟨g, 0, none⟩) ys.length cap ∧ B ≤ g := by
  rcases h.form with ⟨_, e⟩ | ⟨g, cap, e, hb, _⟩
  · subst e; simp at h0
  · exact ⟨g, cap, e, hb⟩

set_option maxRecDepth 100000 in
set_option maxHeartbeats 8000000 in
theorem l06Is_calls (g : Nat) (A B : Option Addr) (xs : List (Nat × Nat × Nat)) (fs : List (List Int)) (n m c d : Nat) (hx : n = xs.length) (hn : n ≤ 1048576) (hfx : Fit xs) (hm : m = fs.length) (hml : m ≤ 1048576) (hfl : ∀ k, k < m → (crn fs k).length ≤ 1048576) (w : World) (hG : Nt2 w g (.slice A n c) (.slice B m d)) (hA : RdS w A xs) (hB : RdF w B fs) :
    Calls Try.prog 74 #[.pointer (some ⟨g, 0, none⟩)] w fun e w' => BoolIs (NetV xs fs) e ∧ Below w.heap.size w w' := by
  have k0 := hG.c0
  have k1 := hG.c1
  have HX := Frame.hid hx
  have HM := Frame.hid hm
  have HA := Frame.hid hA
  have HF := Frame.hid hB
  have HFX := Frame.hid hfx
  have HFL := Frame.hid hfl
  have HG := Frame.hid hG
  have HSP := Frame.hid (show Calls Try.prog 114 #[.slice A n c] w (fun e w' => e = .returned (.bool (finS xs)) ∧ Below w.heap.size w w') by have h := l04Spots_calls A xs c w (by omega) hA; rw [← hx] at h; exact h)
  obtain ⟨v, hv⟩ : ∃ v, v = finS xs := ⟨_, rfl⟩
  rw [← hv] at HSP
  have HV := Frame.hid hv
  clear hx hm hA hB hfx hfl hG hv
  have bad : ¬ (3 ≤ n ∧ n ≤ 256 ∧ 1 ≤ m ∧ m ≤ 256 ∧ v = true) → ¬ NetV xs fs := fun h g => h ⟨by have := g.1.1; have := HX.out; omega, by have := g.1.2; have := HX.out; omega, by have := g.2.1.1; have := HM.out; omega, by have := g.2.1.2; have := HM.out; omega, by rw [HV.out]; exact g.2.2.1⟩
  have HBAD := Frame.hid bad
  clear bad
  by_cases h1 : n < 3
  · have HN := Frame.hid (HBAD.out fun h => by omega)
    go_enter Try.func74, Try.ntmps74
    go_wp2
    go_ret
    exact ⟨BoolIs.no HN.out, Below.refl _ _⟩
  by_cases h2 : 256 < n
  · have HN := Frame.hid (HBAD.out fun h => by omega)
    go_enter Try.func74, Try.ntmps74
    go_wp2
    go_ret
    exact ⟨BoolIs.no HN.out, Below.refl _ _⟩
  by_cases h3 : m < 1
  · have HN := Frame.hid (HBAD.out fun h => by omega)
    go_enter Try.func74, Try.ntmps74
    go_wp2
    go_ret
    exact ⟨BoolIs.no HN.out, Below.refl _ _⟩
  by_cases h4 : 256 < m
  · have HN := Frame.hid (HBAD.out fun h => by omega)
    go_enter Try.func74, Try.ntmps74
    go_wp2
    go_ret
    exact ⟨BoolIs.no HN.out, Below.refl _ _⟩
  cases v
  · have HN := Frame.hid (HBAD.out fun h => by have := h.2.2.2.2; cases this)
    go_enter Try.func74, Try.ntmps74
    go_wp2_with (go_at_call 114; refine HSP.out.mono ?_; rintro e w' ⟨rfl, hB⟩; have HB := Frame.hid hB; clear hB)
    go_ret
    exact ⟨BoolIs.no HN.out, HB.out⟩
  · go_enter Try.func74, Try.ntmps74
    go_wp2_with (go_at_call 114; refine HSP.out.mono ?_; rintro e w' ⟨rfl, hB⟩; have HB := Frame.hid hB; clear hB k0 k1)
    go_loopw [4] (fun iv wr => ∃ k : Nat, k ≤ m ∧ iv = .int .i64 k ∧ (∀ j, j < k → FacV n (crn fs j)) ∧ Below w.heap.size w wr) (fun iv _ => m - (intOf iv).toNat)
    case atStart => exact ⟨0, Nat.zero_le _, rfl, fun j hj => absurd hj (by omega), HB.out⟩
    case round =>
      obtain ⟨k, hk, rfl, hF, hB⟩ := hrel
      have HFK := Frame.hid hF
      have HB2 := Frame.hid hB
      have k1 := (HG.out.below hB).c1
      clear hF hB
      by_cases hlt : k < m
      · obtain ⟨b, o, rfl, hb, hc⟩ := HF.out.h (by have := HM.out; omega)
        obtain ⟨Ak, ck, c1, c2⟩ := hc k (by have := HM.out; omega)
        have c1 := (HB2.out.cell (p := ⟨b, o + k, none⟩) hb).trans c1
        have HC := Frame.hid (l06Facet_calls b (o + k) Ak (crn fs k) (crn fs k).length ck n rfl hn _ c1 (Nat.lt_of_lt_of_le hb HB2.out.size) (c2.below HB2.out))
        clear hc c1 c2
        by_cases hv : FacV n (crn fs k)
        · have HV2 := Frame.hid hv
          clear hv
          go_wp2_with (go_at_call 127; refine HC.out.mono ?_; rintro e w' ⟨⟨r, rfl, hr⟩, hB⟩; have hr1 : r = true := hr.2 HV2.out; subst hr1; have HB3 := Frame.hid hB; clear hB hr k1)
          go_roundw
          case rel =>
            refine ⟨k + 1, by omega, by go_num, fun j hj => ?_, HB2.out.trans (HB3.out.mono HB2.out.size)⟩
            rcases Nat.lt_or_ge j k with g | g
            · exact HFK.out j g
            · obtain rfl : j = k := by omega
              exact HV2.out
          case measure => simp [intOf]; omega
        · have HV2 := Frame.hid hv
          clear hv
          go_wp2_with (go_at_call 127; refine HC.out.mono ?_; rintro e w' ⟨⟨r, rfl, hr⟩, hB⟩; have hr1 : r = false := Bool.eq_false_iff.2 fun h => HV2.out (hr.1 h); subst hr1; have HB3 := Frame.hid hB; clear hB hr k1)
          go_ret
          refine ⟨BoolIs.no fun h => HV2.out ?_, HB2.out.trans (HB3.out.mono HB2.out.size)⟩
          rw [HX.out]
          exact h.2.2.2.1 k (by rw [← HM.out]; exact hlt)
      · have hkm : k = m := by omega
        have HFA := Frame.hid (show ∀ j, j < fs.length → FacV n (crn fs j) from fun j hj => HFK.out j (by have := HM.out; omega))
        have HSD := Frame.hid (l06Sides_calls g (.slice A n c) B fs m d HM.out (by omega) (fun j hj => ⟨(HFK.out j (by omega)).1, (HFK.out j (by omega)).2.1⟩))
        clear HFK hkm
        obtain ⟨i0, hi, hz0, hz1, hz2⟩ := info_parts infoBool
        go_wp2_with (at_make; refine wpList_make_full _ rfl _ _ 163 rfl w.heap.size 4 i0 (.bool false) 1 Try.underlying163 hi hz0 hz1 _ _ _ _ n rfl rfl rfl rfl ?c1 ?c2 ?c3 ?_)
        case c1 => rw [hz2]; omega
        case c2 => unfold maxLen; omega
        case c3 => exact HB2.out.size
        intro w1 hown hgrow
        obtain ⟨gu, hgu⟩ : ∃ gu, gu = wr.heap.size := ⟨_, rfl⟩
        rw [← hgu] at hown ⊢
        have HRB := Frame.hid (RowB.made hown)
        have HB4 : Hid (Below w.heap.size w w1) := HB2.out.grown hgrow HB2.out.size (by simp)
        have HGU := Frame.hid (show w.heap.size ≤ gu by rw [hgu]; exact HB2.out.size)
        have HSC := Frame.hid (HSD.out w1 (HG.out.below HB4.out) (HF.out.below HB4.out))
        obtain ⟨L, hL⟩ : ∃ L, L = sds fs := ⟨_, rfl⟩
        rw [← hL] at HSC
        obtain ⟨q, hq⟩ : ∃ q, q = L.length := ⟨_, rfl⟩
        have hq1 : q ≤ 2048 := by
          have := sds_le fs fun f hf => by
            obtain ⟨k, hk, rfl⟩ := crn_of hf
            exact (HFA.out k hk).2.1
          have := HM.out
          rw [hq, hL]
          omega
        have hq0 : 0 < q := by
          rw [hq, hL]
          exact sds_pos (by have := HM.out; omega) (by have := (HFA.out 0 (by have := HM.out; omega)).1; omega)
        have HQ := Frame.hid hq
        have HL := Frame.hid hL
        clear hown hgrow hgu hL hq HSD hi hz0 hz1 hz2 k1
        go_wp2_with (go_at_call 128; refine HSC.out.mono ?_; rintro e w' ⟨v1, v2, v3, l3, rfl, hR⟩; have HR := Frame.hid hR; obtain ⟨g1, cap1, hv1, hg1⟩ := OwnI.some hR.r1 (by rw [fstL_len, ← HQ.out]; exact hq0); obtain ⟨g2, cap2, hv2, hg2⟩ := OwnI.some hR.r2 (by rw [sndL_len, ← HQ.out]; exact hq0); rw [fstL_len, ← HQ.out] at hv1; rw [sndL_len, ← HQ.out] at hv2; subst hv1; subst hv2; have HG1 := Frame.hid hg1; have HG2 := Frame.hid hg2; clear hg1 hg2 hR)
        have HR1 := Frame.hid (OwnI.rdJ HR.out.r1 (by rw [fstL_len]; exact HQ.out))
        have HR2 := Frame.hid (OwnI.rdJ HR.out.r2 (by rw [sndL_len]; exact HQ.out))
        have HRB2 := Frame.hid (HRB.out.below HR.out.below)
        have HB5 := Frame.hid (HB4.out.trans (HR.out.below.mono HB4.out.size))
        have HN1 := Frame.hid (show gu ≠ g1 by have := HG1.out; have := HRB.out.size; omega)
        have HN2 := Frame.hid (show gu ≠ g2 by have := HG2.out; have := HRB.out.size; omega)
        clear HR HRB HSC HG1 HG2
        go_loopw [9] (fun iv wr => ∃ i : Nat, i ≤ q ∧ iv = .int .i64 i ∧ (∀ j : Nat, j < i → ∀ k : Nat, k < j → L[k]? ≠ L[j]?) ∧ RowB gu n (usd L i) wr ∧ RdJ wr (some ⟨g1, 0, none⟩) (fstL L) ∧ RdJ wr (some ⟨g2, 0, none⟩) (sndL L) ∧ Below w.heap.size w wr) (fun iv _ => q - (intOf iv).toNat)
        case atStart => exact ⟨0, Nat.zero_le _, rfl, fun j hj => absurd hj (by omega), HRB2.out, HR1.out, HR2.out, HB5.out⟩
        case round =>
          obtain ⟨i, hi, rfl, hD, hU, hJ1, hJ2, hB⟩ := hrel
          by_cases hlt2 : i < q
          · have hil : i < L.length := by have := HQ.out; omega
            obtain ⟨x, y, hxy⟩ : ∃ x y, L[i]? = some (x, y) := ⟨(L[i]'hil).1, (L[i]'hil).2, by rw [List.getElem?_eq_getElem hil]⟩
            have hmem : (x, y) ∈ sds fs := by rw [← HL.out]; exact List.mem_of_getElem? hxy
            have hbd := sds_mem HFA.out hmem
            obtain ⟨a, ha⟩ : ∃ a : Nat, x = (a : Int) := ⟨x.toNat, by have := hbd.1; simp only at this; omega⟩
            subst ha
            have han : a < n := by have := hbd.2.1; simp only at this; omega
            have c1 := (hJ1.at0 (j := i) (by rw [fstL_len]; exact hil)).2
            have c2 := (hJ2.at0 (j := i) (by rw [sndL_len]; exact hil)).2
            rw [fstL_at L i hil] at c1
            rw [sndL_at L i hil] at c2
            have hget : L[i]'hil = ((a : Int), y) := by rw [List.getElem?_eq_getElem hil] at hxy; injection hxy
            rw [hget] at c1 c2
            have c3 := hU.cell a han
            have c4 := hU.froz a
            have HU2 := Frame.hid (hU.put a)
            have HJ1 := Frame.hid (hJ1.setO (i := a) (v := .bool true) HN1.out)
            have HJ2 := Frame.hid (hJ2.setO (i := a) (v := .bool true) HN2.out)
            have HB6 := Frame.hid (hB.setCell (p := ⟨gu, a, none⟩) HGU.out (.bool true))
            have HXY := Frame.hid hxy
            have HD := Frame.hid hD
            generalize usd L i a = ub at c3
            obtain ⟨z, hz⟩ := FstS.ex L (a : Int) y
            have HZ := Frame.hid hz
            clear hU hJ1 hJ2 hB hxy hD hz hget hbd hmem
            go_wp2
            obtain ⟨W2, hW2⟩ : ∃ W2, W2 = wr.setCell ⟨gu, a, none⟩ (.bool true) := ⟨_, rfl⟩
            rw [← hW2] at HU2 HJ1 HJ2 HB6 ⊢
            clear hW2 c1 c2 c3 c4
            have d1 := (HJ1.out.at0 (j := i) (by rw [fstL_len]; exact hil)).2
            have d2 := (HJ2.out.at0 (j := i) (by rw [sndL_len]; exact hil)).2
            have gl1 := (HJ1.out.at0 (j := i) (by rw [fstL_len]; exact hil)).1
            have gl2 := (HJ2.out.at0 (j := i) (by rw [sndL_len]; exact hil)).1
            rw [fstL_at L i hil] at d1
            rw [sndL_at L i hil] at d2
            have hget : L[i]'hil = ((a : Int), y) := by have hxy := HXY.out; rw [List.getElem?_eq_getElem hil] at hxy; injection hxy
            rw [hget] at d1 d2
            have HCS := Frame.hid (show ∀ W, Below W2.heap.size W2 W → Calls Try.prog 129 #[.slice (some ⟨g1, 0, none⟩) q cap1, .slice (some ⟨g2, 0, none⟩) q cap2, .int .i64 (a : Int), .int .i64 y] W (fun e w' => e = .returned (.int .i64 z) ∧ w' = W) from fun W hW => by
              refine (l06Side_calls L q cap1 cap2 _ _ (a : Int) y HQ.out (by omega) W (HJ1.out.below hW) (HJ2.out.below hW)).mono ?_
              rintro e w' ⟨⟨z', rfl, hz'⟩, rfl⟩
              exact ⟨by rw [hz'.uniq HZ.out], rfl⟩)
            have hST : SK W2.heap.size W2 [((⟨g1, i, none⟩ : Addr), (.int .i64 (a : Int) : Value)), ((⟨g2, i, none⟩ : Addr), (.int .i64 y : Value))] W2 := SK.start (Nat.le_refl _) (by intro p hp; simp at hp; rcases hp with rfl | rfl <;> assumption) (by intro p hp; simp at hp; rcases hp with rfl | rfl <;> assumption)
            have p0 : (0 : Int) ≤ (i : Int) := by omega
            have p1 : (i : Int) < (q : Int) := by omega
            clear hget gl1 gl2 hil
            go_region_held3 (fun W => W.cell? ⟨g1, i, none⟩ = some (.int .i64 (a : Int)) ∧ W.cell? ⟨g2, i, none⟩ = some (.int .i64 y) ∧ W2.heap.size ≤ W.heap.size ∧ SK W2.heap.size W2 [((⟨g1, i, none⟩ : Addr), (.int .i64 (a : Int) : Value)), ((⟨g2, i, none⟩ : Addr), (.int .i64 y : Value))] W) ((refine SK_all2 ?_; (repeat' first | with_reducible assumption | exact SK_of2 (by with_reducible assumption) | exact hST | apply SK.drew | apply SK.drewN | apply SK.alloc | (refine SK.call ?_ (by with_reducible assumption)) | (refine SK.set ?_ _ _ _ (by omega)))))
                (first | (go_at_call 129; refine (HCS.out _ (SK.m (L := [((⟨g1, i, none⟩ : Addr), (.int .i64 (a : Int) : Value)), ((⟨g2, i, none⟩ : Addr), (.int .i64 y : Value))]) (by first | with_reducible assumption | exact SK_of2 (by with_reducible assumption) | (apply SK.drew; first | with_reducible assumption | exact SK_of2 (by with_reducible assumption))))).mono ?_; rintro e w' ⟨rfl, rfl⟩))
            have hSK : SK W2.heap.size W2 [((⟨g1, i, none⟩ : Addr), (.int .i64 (a : Int) : Value)), ((⟨g2, i, none⟩ : Addr), (.int .i64 y : Value))] _ := SK_of2 (by with_reducible assumption)
            have hm := hSK.m
            generalize W2.drew = W3 at *
            have HB7 := Frame.hid (HB6.out.trans (hm.mono HB6.out.size))
            have HJ1' := Frame.hid (HJ1.out.below hm)
            have HJ2' := Frame.hid (HJ2.out.below hm)
            have HU3 := Frame.hid (HU2.out.below hm)
            clear hSK hST hm d1 d2 p0 p1
            by_cases hz : z = (i : Int)
            · have HZI := Frame.hid ((HZ.out.lt HXY.out).1 hz)
              subst hz
              go_wp2
              go_roundw
              case rel =>
                refine ⟨i + 1, by omega, by go_num, fun j hj k hk => ?_, ?_, HJ1'.out, HJ2'.out, HB7.out⟩
                · rcases Nat.lt_or_ge j i with g3 | g3
                  · exact HD.out j g3 k hk
                  · obtain rfl : j = i := by omega
                    rw [HXY.out]
                    exact HZI.out k hk
                · have e : usd L (i + 1) = fun j => usd L i j || a == j := by
                    funext j
                    rw [usd_next L i j _ HXY.out]
                    congr 1
                    by_cases e : a = j
                    · subst e; simp
                    · have e' : ¬ ((a : Int) = (j : Int)) := by omega
                      show ((a : Int) == (j : Int)) = (a == j)
                      have e1 : ((a : Int) == (j : Int)) = false := by simpa using e'
                      have e2 : (a == j) = false := by simpa using e
                      rw [e1, e2]
                  rw [e]
                  exact HU3.out
              case measure => simp [intOf]; omega
            · have HZI := Frame.hid ((HZ.out.lt HXY.out).2 hz)
              have hzb : (z != (i : Int)) = true := by simpa using hz
              go_wp2
              go_ret
              refine ⟨BoolIs.no fun h => ?_, HB7.out⟩
              obtain ⟨k, hk, e⟩ := HZI.out
              have hnd := h.2.2.2.2.1
              rw [← HL.out] at hnd
              exact nodup_at hnd hk (by have := HQ.out; omega) (e.trans HXY.out.symm)
          · have hiq : i = q := by omega
            have hND : L.Nodup := nodup_of fun j hj k hk => hD j (by have := HQ.out; omega) k hk
            have HND := Frame.hid hND
            have HU := Frame.hid (show RowB gu n (usd L L.length) wr by rw [← HQ.out, ← hiq]; exact hU)
            have HB7 := Frame.hid hB
            clear hD hU hJ1 hJ2 hB hiq hND
            go_wp2
            go_loopw [10] (fun iv wr' => ∃ j : Nat, j ≤ n ∧ iv = .int .i64 j ∧ (∀ k : Nat, k < j → usd L L.length k = true) ∧ wr' = wr) (fun iv _ => n - (intOf iv).toNat)
            case atStart => exact ⟨0, Nat.zero_le _, rfl, fun k hk => absurd hk (by omega), rfl⟩
            case round =>
              obtain ⟨j, hj, rfl, hE, rfl⟩ := hrel
              have HE := Frame.hid hE
              clear hE
              by_cases hlt3 : j < n
              · have c1 := HU.out.cell j hlt3
                cases hu : usd L L.length j
                · have HUJ := Frame.hid hu
                  rw [hu] at c1
                  clear hu
                  go_wp2
                  go_ret
                  refine ⟨BoolIs.no fun h => ?_, HB7.out⟩
                  have h5 := h.2.2.2.2.2 j (by rw [← HX.out]; exact hlt3)
                  rw [← HL.out] at h5
                  have h6 := (usd_all L j).2 h5
                  rw [HUJ.out] at h6
                  cases h6
                · have HUJ := Frame.hid hu
                  rw [hu] at c1
                  clear hu
                  go_wp2
                  go_roundw
                  case rel =>
                    refine ⟨j + 1, by omega, by go_num, fun k hk => ?_, by first | rfl | trivial⟩
                    rcases Nat.lt_or_ge k j with g3 | g3
                    · exact HE.out k g3
                    · obtain rfl : k = j := by omega
                      exact HUJ.out
                  case measure => simp [intOf]; omega
              · go_wp2
                go_ret
                refine ⟨BoolIs.yes ?_, HB7.out⟩
                have e1 := HX.out
                have e2 := HM.out
                have e3 := HV.out
                have hfa := HFA.out
                rw [e1] at hfa
                refine ⟨by omega, by omega, e3.symm, hfa, by rw [← HL.out]; exact HND.out, fun k hk => ?_⟩
                rw [← HL.out]
                exact (usd_all L k).1 (HE.out k (by omega))

set_option maxRecDepth 100000 in
theorem specValidNet_calls (A B : Option Addr) (xs : List (Nat × Nat × Nat)) (fs : List (List Int)) (c d : Nat) (hn : xs.length ≤ 1048576) (hfx : Fit xs) (hml : fs.length ≤ 1048576) (hfl : ∀ k, k < fs.length → (crn fs k).length ≤ 1048576) (w : World) (hA : RdS w A xs) (hB : RdF w B fs) :
    Calls Try.prog 27 #[.agg #[.slice A xs.length c, .slice B fs.length d]] w fun e w' => BoolIs (NetV xs fs) e ∧ Below w.heap.size w w' := by
  obtain ⟨n, hx⟩ : ∃ n, n = xs.length := ⟨_, rfl⟩
  obtain ⟨m, hm⟩ : ∃ m, m = fs.length := ⟨_, rfl⟩
  rw [← hx] at hn ⊢
  rw [← hm] at hml hfl ⊢
  have hBW : Below w.heap.size w (w.alloc (.cells #[.slice A n c, .slice B m d] 43)) := (Below.refl _ _).alloc (Nat.le_refl _) _
  have HC := Frame.hid (l06Is_calls w.heap.size A B xs fs n m c d hx hn hfx hm hml hfl _ (Nt2.here w _ _ 43) (hA.below hBW) (hB.below hBW))
  have HBW := Frame.hid hBW
  clear hx hm hfx hA hB hBW hfl
  go_enter Try.func27, Try.ntmps27
  go_wp2_with (go_at_call 74; refine HC.out.mono ?_; rintro e w' ⟨⟨r, rfl, hr⟩, hB⟩; have HR := Frame.hid hr; have HB := Frame.hid hB; clear hr hB)
  go_ret
  exact ⟨⟨_, rfl, HR.out⟩, HBW.out.trans (HB.out.mono HBW.out.size)⟩

end Go.Proofs.Ytnbgnaenlbphcaa
