/-
  TilesOf: the specification's side.
-/
import Derived.Test.YtnhpiebddelebaaU3
namespace Go.Proofs.Ytnhpiebddelebaa
open Go.RowKit Fl Go.WideShapes Go.Deep
attribute [local go_sem] kstore_f kalloc_drewN kset_drewN hstore_i hstore_s

/-- The spots of the first tiles, finite or not. -/
def SpecG (pa pb : Nat) (xs : List (Nat × Nat × Nat)) (p q : Nat) (zs : List (Nat × Nat × Nat)) : Prop :=
  ∀ i, i < zs.length → ∃ u v, QuoI ((i % (p + 1) : Nat) : Int) (p : Int) u ∧ QuoI ((i / (p + 1) : Nat) : Int) (q : Int) v ∧ AtR pa pb u v xs (sx zs i) (sy zs i) (sz zs i)
theorem SpecG.nil {pa pb : Nat} {xs : List (Nat × Nat × Nat)} {p q : Nat} : SpecG pa pb xs p q [] := fun i h => absurd h (by simp)
theorem SpecG.snoc {pa pb : Nat} {xs zs : List (Nat × Nat × Nat)} {p q i j u v x y z : Nat} (h : SpecG pa pb xs p q zs) (hz : zs.length = i + (p + 1) * j) (hi : i < p + 1) (hu : QuoI (i : Int) (p : Int) u) (hv : QuoI (j : Int) (q : Int) v) (ha : AtR pa pb u v xs x y z) : SpecG pa pb xs p q (zs ++ [(x, y, z)]) := fun k hk => by
  rw [List.length_append] at hk
  by_cases he : k = zs.length
  · have e1 : k % (p + 1) = i := by rw [he, hz, Nat.add_mul_mod_self_left, Nat.mod_eq_of_lt hi]
    have e2 : k / (p + 1) = j := by rw [he, hz, Nat.add_mul_div_left _ _ (by omega), Nat.div_eq_of_lt hi, Nat.zero_add]
    refine ⟨u, v, by rw [e1]; exact hu, by rw [e2]; exact hv, ?_⟩
    subst he
    simpa [sx, sy, sz, List.getD_eq_getElem?_getD] using ha
  · have hl : k < zs.length := by simp at hk; omega
    obtain ⟨u', v', h1, h2, h3⟩ := h k hl
    refine ⟨u', v', h1, h2, ?_⟩
    simpa [sx, sy, sz, List.getD_eq_getElem?_getD, List.getElem?_append_left hl] using h3
theorem SpecG.ends {pa pb : Nat} {xs zs : List (Nat × Nat × Nat)} {p q : Nat} (hs : shB (pa : Int) (pb : Int) xs = true) (hp : 1 ≤ p ∧ p ≤ 12) (hq : 1 ≤ q ∧ q ≤ 12) (hl : zs.length = (q + 1) * (p + 1)) (h : SpecG pa pb xs p q zs) :
    (finS zs = true → GridL (pa : Int) (pb : Int) xs p q zs) ∧ (finS zs = false → NoP (pa : Int) (pb : Int) xs p q) := by
  have hpl : ∀ i, i < zs.length → ∃ u v, i % (p + 1) ≤ p ∧ i / (p + 1) ≤ q ∧ QuoI ((i % (p + 1) : Nat) : Int) (p : Int) u ∧ QuoI ((i / (p + 1) : Nat) : Int) (q : Int) v ∧ ∀ x y z ok, GivenR (sx zs i) (sy zs i) (sz zs i) x y z ok → AtO (pa : Int) (pb : Int) xs u v x y z ok := fun i hi => by
    obtain ⟨u, v, hu, hv, hat⟩ := h i hi
    have hi1 : i % (p + 1) ≤ p := by have := Nat.mod_lt i (show 0 < p + 1 by omega); omega
    have hi2 : i / (p + 1) ≤ q := by
      have : i / (p + 1) < q + 1 := (Nat.div_lt_iff_lt_mul (by omega)).2 (by rw [← hl]; exact hi)
      omega
    refine ⟨u, v, hi1, hi2, hu, hv, fun x y z ok hg => .inl ⟨?_, _, _, _, ?_, hg⟩⟩
    · unfold placeB
      rw [hs, QuoI.share hp.1 hp.2 hi1 hu, QuoI.share hq.1 hq.2 hi2 hv]; rfl
    · rw [Int.toNat_natCast, Int.toNat_natCast]; exact hat
  refine ⟨fun hf i hi => ?_, fun hf => ?_⟩
  · obtain ⟨u, v, _, _, hu, hv, hat⟩ := hpl i hi
    have hfi : fin3 (sx zs i) (sy zs i) (sz zs i) = true := by
      cases hc : fin3 (sx zs i) (sy zs i) (sz zs i)
      · rw [finS_bad hi hc] at hf; cases hf
      · rfl
    exact ⟨u, v, hu, hv, hat _ _ _ _ ⟨hfi.symm, ⟨fun _ => ⟨rfl, rfl, rfl⟩, fun h => (by cases h)⟩⟩⟩
  · have : ∃ i, i < zs.length ∧ fin3 (sx zs i) (sy zs i) (sz zs i) = false := by
      refine Classical.byContradiction fun hn => ?_
      have : finS zs = true := finS_upto fun j hj => by
        cases hc : fin3 (sx zs j) (sy zs j) (sz zs j)
        · exact absurd ⟨j, hj, hc⟩ hn
        · rfl
      rw [this] at hf; cases hf
    obtain ⟨i, hi, hc⟩ := this
    obtain ⟨u, v, h1, h2, hu, hv, hat⟩ := hpl i hi
    exact ⟨_, _, u, v, 0, 0, 0, h1, h2, hu, hv, hat 0 0 0 false ⟨hc.symm, ⟨fun h => (by cases h), fun _ => ⟨rfl, rfl, rfl⟩⟩⟩⟩

set_option maxRecDepth 100000 in
theorem l04Sizes_calls (m n : Int) (w : World) : Calls Try.prog 38 #[.int .i64 m, .int .i64 n] w fun e w' => e = .returned (.bool (tilB m n)) ∧ w = w' := by
  by_cases h1 : 1 ≤ m <;> by_cases h2 : m ≤ 12 <;> by_cases h3 : 1 ≤ n <;> by_cases h4 : n ≤ 12
  all_goals
    go_enter Try.func38, Try.ntmps38
    go_wp2_with (go_at_call 83; refine (l00In_calls _ _ _ _).mono ?_; rintro e w' ⟨rfl, rfl⟩)
    all_goals go_ret
    all_goals exact ⟨ret_bool (by simp [tilB, h1, h2, h3, h4]), rfl⟩

set_option maxRecDepth 100000 in
set_option maxHeartbeats 8000000 in
theorem specTilesOf_calls (A : Option Addr) (xs : List (Nat × Nat × Nat)) (n : Nat) (hxn : n = xs.length) (a b m k : Int) (w : World) (hn : n ≤ 1048576) (hr : RdS w A xs) :
    Calls Try.prog 10 #[.agg #[.int .i64 a, .int .i64 b, .slice A n n], .int .i64 m, .int .i64 k] w (TlO a b xs m k w) := by
  have hw : Below w.heap.size w (w.alloc (.cells #[.int .i64 a, .int .i64 b, .slice A n n] 30)) := (Below.refl _ _).alloc (Nat.le_refl _) _
  have hS := Sh3.here w a b (.slice A n n) 30
  have HIS := Frame.hid (l04Is_calls w.heap.size A xs n n hxn a b _ hn hS (hr.below hw))
  have HSH := Frame.hid hS
  have HR := Frame.hid (hr.below hw)
  have HW := Frame.hid hw
  have HX := Frame.hid hxn
  clear hr hxn hS hw
  by_cases hgood : shB a b xs = true ∧ tilB m k = true
  · obtain ⟨h1, ht⟩ := hgood
    have H1 := Frame.hid h1
    have HT := Frame.hid ht
    obtain ⟨pa, pb, rfl, rfl, hpa, hpb, hnl⟩ := shB_open HX.out h1
    obtain ⟨p, q, rfl, rfl, hp, hq⟩ : ∃ p q : Nat, m = p ∧ k = q ∧ (1 ≤ p ∧ p ≤ 12) ∧ (1 ≤ q ∧ q ≤ 12) := by
      simp [tilB] at ht
      exact ⟨m.toNat, k.toNat, by omega, by omega, by omega, by omega⟩
    obtain ⟨bk, off, rfl, -, -⟩ := HR.out.h (by have := HX.out; have : 2 * 2 ≤ pa * pb := Nat.mul_le_mul hpa.1 hpb.1; omega)
    have HA := Frame.hid (fun u v W hS hr => l04At_calls w.heap.size bk off n pa pb u v xs hpa hpb HX.out hnl W hS hr)
    obtain ⟨i0, hi, hz0, hz1, hz2⟩ := info_parts infoSpot
    clear h1 ht hnl hpa hpb
    go_enter Try.func10, Try.ntmps10
    go_wp2_with (first | (go_at_call 37; refine (HIS.out).mono ?_; rintro e ws ⟨rfl, hBs⟩; rw [H1.out]; have HBS := Frame.hid hBs; clear hBs) | (go_at_call 38; refine (l04Sizes_calls _ _ _).mono ?_; rintro e w' ⟨rfl, rfl⟩; rw [HT.out]))
    have HAT : Hid (∀ u v W, Below ws.heap.size ws W → Calls Try.prog 39 #[.pointer (some ⟨w.heap.size, 0, none⟩), .float .f32 u, .float .f32 v] W fun e w' => ∃ x y z, e = .returned (.agg #[.float .f32 x, .float .f32 y, .float .f32 z]) ∧ AtR pa pb u v xs x y z ∧ Below W.heap.size W w') := Frame.hid (fun u v W h => HA.out u v W ((HSH.out.below HBS.out).below h) ((HR.out.below HBS.out).below h))
    have HWS := Frame.hid (HW.out.trans (HBS.out.mono HW.out.size))
    have hws : w.heap.size ≤ ws.heap.size := HWS.out.size
    clear HIS
    go_loopw [8, 9] (fun tv jv wr => ∃ j zs, j ≤ q + 1 ∧ jv = .int .i64 (j : Nat) ∧ zs.length = (p + 1) * j ∧ SpecG pa pb xs p q zs ∧ OwnedS wr ws.heap.size tv zs ∧ Below ws.heap.size ws wr) (fun _ jv _ => q + 1 - (intOf jv).toNat)
    case atStart => exact ⟨0, [], Nat.zero_le _, rfl, by simp, SpecG.nil, none_litS ws, (Below.refl _ _).alloc (Nat.le_refl _) _⟩
    case round =>
      obtain ⟨j, zs0, hj, rfl, hzl0, hG0, hO0, hB0⟩ := hrel
      have HZL0 := Frame.hid hzl0
      have HG0 := Frame.hid hG0
      have HO0 := Frame.hid hO0
      have HB0 := Frame.hid hB0
      clear hzl0 hG0 hB0
      by_cases hlt0 : j < q + 1
      · have b0 : (j : Int) ≤ (q : Int) := by omega
        clear hO0
        go_wp2_with fail
        go_loopw [8, 10] (fun tv iv wr => ∃ i zs, i ≤ p + 1 ∧ iv = .int .i64 (i : Nat) ∧ zs.length = (p + 1) * j + i ∧ SpecG pa pb xs p q zs ∧ OwnedS wr ws.heap.size tv zs ∧ Below ws.heap.size ws wr) (fun _ iv _ => p + 1 - (intOf iv).toNat)
        case atStart => exact ⟨0, zs0, Nat.zero_le _, rfl, by rw [HZL0.out]; rfl, HG0.out, HO0.out, HB0.out⟩
        case round =>
          obtain ⟨i, zs, hi', rfl, hzl, hG, hO, hB⟩ := hrel
          have hown : ∀ L, L = zs.length → _ := fun L hL => (show wr.ownsRow ws.heap.size 57 3 _ L (cellsS zs) by rw [hL]; exact hO)
          have HZL := Frame.hid hzl
          have HG := Frame.hid hG
          have HB := Frame.hid hB
          have hsw : ws.heap.size ≤ wr.heap.size := hB.size
          have hlb : zs.length ≤ 13 * 12 + 13 := by
            rw [hzl]
            have : (p + 1) * j ≤ 13 * 12 := Nat.mul_le_mul (by omega) (by omega)
            omega
          clear hzl hG hB HO0 HG0 HB0 HZL0
          by_cases hlt : i < p + 1
          · have b1 : (i : Int) ≤ (p : Int) := by omega
            obtain ⟨L, hL⟩ : ∃ L, L = zs.length := ⟨_, rfl⟩
            rw [← hL] at hlb
            have HO := Frame.hid (hown L hL)
            have HL : Hid (L = (p + 1) * j + i) := Frame.hid (by rw [hL, HZL.out])
            clear hL hO hown
            obtain ⟨tv, htv⟩ : ∃ tv, tv = u8 := ⟨_, rfl⟩
            subst htv
            go_wp2_with fail
            go_wp2_with (first | (refine upon_arith _ _ _ _ _ rfl ?_; intro u1 nu hu1 lu1; have HU : Hid (QuoI (i : Int) (p : Int) u1) := Frame.hid hu1; clear hu1 lu1) | (refine upon_arith _ _ _ _ _ rfl ?_; intro v1 nv hv1 lv1; have HV : Hid (QuoI (j : Int) (q : Int) v1) := Frame.hid hv1; clear hv1 lv1) | (go_at_call 39; refine (HAT.out u1 v1 _ (HB.out.trans ((below_drewN (Below.refl _ _) (nu + nv)).mono hsw))).mono ?_; rintro e_ w8 ⟨x, y, z, rfl, hat, hB8⟩; have HS3 := Frame.hid ((below_drewN (Below.refl _ _) (nu + nv)).trans hB8); have HATR := Frame.hid hat; have HO8 := Frame.hid (ownsRow_past HO.out HS3.out); have hs8 : wr.heap.size ≤ w8.heap.size := HS3.out.size; clear hat hB8) | (at_builtin; refine wpList_append_own _ rfl _ _ 26 rfl ws.heap.size 57 i0 (.agg #[.float .f32 0, .float .f32 0, .float .f32 0]) 3 12 Try.underlying26 hi hz0 hz1 hz2 rfl (by decide) tv L (cellsS zs) rfl (World.ownsRow.alloc (HO8.out) _) ⟨w8.heap.size, 0, none⟩ 1 1 (cellsS [(x, y, z)]) rfl rfl (news3' _ _ _ _ _) (cellsS_one _) (by unfold maxLen; omega) (by omega) (by simp; omega) ?_; intro v' w3 hown3 hgrow3 hnil3; have HB5 := Frame.hid (HB.out.trans (Below.grown ((HS3.out.mono hsw).alloc (by omega) _) hgrow3 (by simp; omega) (fun k' hk' => (World.ownsRow.lt HO.out k' hk').1))); have HOX := Frame.hid hown3; clear hown3 hgrow3 hnil3))
            go_roundw
            case rel =>
              have hz := HZL.out
              refine ⟨i + 1, zs ++ [(x, y, z)], by omega, by go_num, by rw [List.length_append, hz]; rfl, HG.out.snoc (hz.trans (by omega)) (by omega) HU.out HV.out HATR.out, ?_, HB5.out⟩
              unfold OwnedS
              rw [cellsS_append, List.length_append, hz, ← HL.out]
              exact HOX.out
            case measure => simp [intOf]; omega
          · have hjq : i = p + 1 := by omega
            subst hjq
            have b1 : ¬ ((((p + 1 : Nat)) : Int) ≤ (p : Int)) := by omega
            have HOE := Frame.hid hO
            clear hO hown
            go_wp2_with fail
            go_roundw
            case rel => exact ⟨j + 1, zs, by omega, by go_num, by rw [HZL.out, Nat.mul_succ], HG.out, HOE.out, HB.out⟩
            case measure => simp [intOf]; omega
      · have hjq : j = q + 1 := by omega
        subst hjq
        have b0 : ¬ ((((q + 1 : Nat)) : Int) ≤ (q : Int)) := by omega
        obtain ⟨A2, c2, rfl, hR2, hN2⟩ := hO0.rdF
        have hz2 : zs0.length = (q + 1) * (p + 1) := by rw [HZL0.out, Nat.mul_comm]
        have hends := HG0.out.ends H1.out hp hq hz2
        have hlb : zs0.length ≤ 13 * 13 := by rw [hz2]; exact Nat.mul_le_mul (by omega) (by omega)
        have HSP := Frame.hid (l04Spots_calls A2 zs0 c2 wr (by omega) hR2)
        have HZ2 := Frame.hid hz2
        have HEN := Frame.hid hends
        obtain ⟨L, hL⟩ : ∃ L, L = zs0.length := ⟨_, rfl⟩
        rw [← hL] at HSP ⊢
        have HL := Frame.hid hL
        have hsw : ws.heap.size ≤ wr.heap.size := HB0.out.size
        clear hO0 hR2 hN2 hz2 hends hL hlb
        cases hf : finS zs0
        · have HF := Frame.hid hf
          clear hf
          go_wp2_with (go_at_call 40; refine (HSP.out).mono ?_; rintro e w9 ⟨rfl, hB9⟩; rw [HF.out]; have HB9 := Frame.hid hB9; clear hB9)
          go_ret2
          exact ⟨none, 0, 0, [], false, rfl, rfl, .inr ⟨rfl, rfl, .inr (.inr ⟨p, q, rfl, rfl, hp, hq, HEN.out.2 HF.out⟩)⟩, OwnedS.nil _ _, HWS.out.trans ((HB0.out.trans (HB9.out.mono hsw)).mono hws)⟩
        · have HF := Frame.hid hf
          clear hf
          go_wp2_with (go_at_call 40; refine (HSP.out).mono ?_; rintro e w9 ⟨rfl, hB9⟩; rw [HF.out]; have HB9 := Frame.hid hB9; clear hB9)
          go_ret2
          exact ⟨_, _, _, zs0, true, rfl, HL.out, .inl ⟨rfl, p, q, rfl, rfl, hp, hq, HZ2.out, HEN.out.1 HF.out⟩, by rw [HL.out]; exact (HO0.out.kept HB9.out).mono' hws, HWS.out.trans ((HB0.out.trans (HB9.out.mono hsw)).mono hws)⟩
  · cases h1 : shB a b xs
    · have H1 := Frame.hid h1
      clear h1 hgood
      go_enter Try.func10, Try.ntmps10
      go_wp2_with (go_at_call 37; refine (HIS.out).mono ?_; rintro e ws ⟨rfl, hBs⟩; rw [H1.out]; have HBS := Frame.hid hBs; clear hBs)
      go_ret2
      exact ⟨none, 0, 0, [], false, rfl, rfl, .inr ⟨rfl, rfl, .inr (.inl H1.out)⟩, OwnedS.nil _ _, HW.out.trans (HBS.out.mono HW.out.size)⟩
    · have ht : tilB m k = false := by
        cases ht : tilB m k
        · rfl
        · exact absurd ⟨h1, ht⟩ hgood
      have H1 := Frame.hid h1
      have HT := Frame.hid ht
      clear h1 ht hgood
      go_enter Try.func10, Try.ntmps10
      go_wp2_with (first | (go_at_call 37; refine (HIS.out).mono ?_; rintro e ws ⟨rfl, hBs⟩; rw [H1.out]; have HBS := Frame.hid hBs; clear hBs) | (go_at_call 38; refine (l04Sizes_calls _ _ _).mono ?_; rintro e w' ⟨rfl, rfl⟩; rw [HT.out]))
      go_ret2
      exact ⟨none, 0, 0, [], false, rfl, rfl, .inr ⟨rfl, rfl, .inl HT.out⟩, OwnedS.nil _ _, HW.out.trans (HBS.out.mono HW.out.size)⟩

end Go.Proofs.Ytnhpiebddelebaa
