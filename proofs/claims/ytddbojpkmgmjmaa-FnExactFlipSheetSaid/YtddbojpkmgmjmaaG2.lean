/-
  FlipSheet, walked on both sides.
-/
import Derived.Test.YtddbojpkmgmjmaaG1
namespace Go.Proofs.Ytddbojpkmgmjmaa
open Go.RowKit Fl Go.WideShapes Go.Deep
attribute [local go_sem] kstore_f kalloc_drewN kset_drewN hstore_i hstore_s

set_option maxRecDepth 100000 in
set_option maxHeartbeats 4000000 in
theorem flipSheet_calls (A : Option Addr) (xs : List (Nat × Nat × Nat)) (c n : Nat) (hxn : n = xs.length) (a b : Int) (w : World) (hn : n ≤ 1048576) (hr : RdS w A xs) :
    Calls Try.prog 23 #[.agg #[.int .i64 a, .int .i64 b, .slice A n c]] w (Out (shB a b xs) (outI (shB a b xs) b) (outI (shB a b xs) a) (outL (shB a b xs) (flipL a.toNat b.toNat xs)).length (outL (shB a b xs) (flipL a.toNat b.toNat xs)) w) := by
  have hw : Below w.heap.size w ((w.alloc (.cells #[.int .i64 a, .int .i64 b, .slice A n c] 25)).alloc (.cells #[.int .i64 0, .int .i64 0, .slice none 0 0] 25)) := by (apply bel_of; (repeat (first | apply below_dn | apply below_al)); exact below_st _)
  have HC := Frame.hid (validSheet_calls A xs c n hxn a b _ hn (hr.below hw))
  have HW := Frame.hid hw
  have HR := Frame.hid hr
  have HX := Frame.hid hxn
  clear hr hw hxn
  cases h1 : shB a b xs
  · have H1 := Frame.hid h1
    generalize hP : Out false _ _ _ _ w = P
    have HP := Frame.hid hP
    clear hP h1
    go_enter Try.func23, Try.ntmps23
    go_wp2_with (go_at_call 63; refine (HC.out).mono ?_; rintro e w' ⟨rfl, hB⟩; rw [H1.out]; have hc := rd_of hB; have hz := fz_of hB; have hs := sz_of hB; have s0 := hs w.heap.size (by simp; try omega); have s1 := hs (w.heap.size + 1) (by simp; try omega))
    have k0 : w'.cell? ⟨w.heap.size + 1, 0, none⟩ = some (.int .i64 0) := by rw [hc _ _ (by simp)]; simp [go_sem]
    have k1 : w'.cell? ⟨w.heap.size + 1, 1, none⟩ = some (.int .i64 0) := by rw [hc _ _ (by simp)]; simp [go_sem]
    have k2 : w'.cell? ⟨w.heap.size + 1, 2, none⟩ = some (.slice none 0 0) := by rw [hc _ _ (by simp)]; simp [go_sem]
    obtain ⟨e0, e1, e2⟩ := set3_read (w := w') (v0 := .int .i64 0) (v1 := .int .i64 0) (v2 := .slice none 0 0) k0 k1 k2
    refine bodyPost_ret (v := .tuple #[.agg #[.int .i64 0, .int .i64 0, .slice none 0 0], .bool false]) (by simp [results, Try.results23, go_sem, e0, e1, e2]) rfl ?_
    rw [← HP.out]
    refine ⟨none, 0, rfl, ⟨fun h0 => absurd h0 (by simp [outL])⟩, OwS.nilv _ _, ?_⟩
    exact (((HW.out.trans (hB.mono HW.out.size)).setCell (p := ⟨w.heap.size + 1, 0, none⟩) (by simp) _).setCell (p := ⟨w.heap.size + 1, 1, none⟩) (by simp) _).setCell (p := ⟨w.heap.size + 1, 2, none⟩) (by simp) _
  · have H1 := Frame.hid h1
    obtain ⟨p, q, rfl, rfl, hp, hq, hl⟩ : ∃ p q : Nat, a = (p : Int) ∧ b = (q : Int) ∧ (2 ≤ p ∧ p ≤ 6) ∧ (2 ≤ q ∧ q ≤ 6) ∧ n = p * q := by
      have h2 := h1
      unfold shB at h2
      simp only [Bool.and_eq_true, decide_eq_true_eq] at h2
      obtain ⟨⟨h3, h4⟩, -⟩ := h2
      obtain ⟨⟨a1, a2⟩, ⟨b1, b2⟩, -, -⟩ := cntB_mul h3
      obtain ⟨p, rfl⟩ := Int.eq_ofNat_of_zero_le (by omega : 0 ≤ a)
      obtain ⟨q, rfl⟩ := Int.eq_ofNat_of_zero_le (by omega : 0 ≤ b)
      refine ⟨p, q, rfl, rfl, by omega, by omega, ?_⟩
      rw [HX.out]
      exact_mod_cast h4
    obtain ⟨bk, off, rfl, -, -⟩ := HR.out.h (by have := HX.out; have : 2 * 2 ≤ p * q := Nat.mul_le_mul hp.1 hq.1; omega)
    have HL := Frame.hid hl
    generalize hP : Out true _ _ _ _ w = P
    have HP := Frame.hid hP
    clear hP h1 hl
    go_enter Try.func23, Try.ntmps23
    go_wp2_with (go_at_call 63; refine (HC.out).mono ?_; rintro e w' ⟨rfl, hB⟩; rw [H1.out]; have hc := rd_of hB; have hz := fz_of hB; have hs := sz_of hB; have s0 := hs w.heap.size (by simp; try omega); have s1 := hs (w.heap.size + 1) (by simp; try omega))
    have hS : Sh3 w' w.heap.size p q (.slice (some ⟨bk, off, none⟩) n c) := ((Sh3.here w p q (.slice (some ⟨bk, off, none⟩) n c) 25).below ((Below.refl _ _).alloc (Nat.le_refl _) (.cells #[.int .i64 0, .int .i64 0, .slice none 0 0] 25))).below hB
    have hB' := HW.out.trans (hB.mono HW.out.size)
    refine (sheetOfFlip_calls w.heap.size p q bk off c n xs hp hq HX.out HL.out w' hS (HR.out.below hB')).mono ?_
    rintro e w2 ⟨v, rfl, hO, hB2⟩
    have k0 : w2.cell? ⟨w.heap.size + 1, 0, none⟩ = some (.int .i64 0) := by rw [hB2.cell s1, hc _ _ (by simp)]; simp [go_sem]
    have k1 : w2.cell? ⟨w.heap.size + 1, 1, none⟩ = some (.int .i64 0) := by rw [hB2.cell s1, hc _ _ (by simp)]; simp [go_sem]
    have k2 : w2.cell? ⟨w.heap.size + 1, 2, none⟩ = some (.slice none 0 0) := by rw [hB2.cell s1, hc _ _ (by simp)]; simp [go_sem]
    have z2 : ∀ i, w2.frozen? ⟨w.heap.size + 1, i, none⟩ = false := fun i => by rw [hB2.frozen s1, hz _ _ (by simp)]; simp [go_sem]
    have hs2 : w.heap.size + 1 < w2.heap.size := Nat.lt_of_lt_of_le s1 hB2.size
    have HB3 := Frame.hid (hB'.trans (hB2.mono hB'.size))
    have hR' := hO.rd
    have hO' := hO.ow
    have hfl : (flipL p q xs).length = n := by rw [flipL_len, HL.out]
    rw [hfl] at hR' hO'
    obtain ⟨A', c', rfl, hR''⟩ := hR'
    have HR' := Frame.hid hR''
    have HO' := Frame.hid hO'
    have HS1 := Frame.hid s1
    obtain ⟨e0, e1, e2⟩ := set3_read (w := w2) (v0 := .int .i64 q) (v1 := .int .i64 p) (v2 := .slice A' n c') k0 k1 k2
    have HFL := Frame.hid hfl
    clear hR'' hO' hO hS hB' hB2 hfl
    go_wp2_with fail
    refine bodyPost_ret (v := .tuple #[.agg #[.int .i64 q, .int .i64 p, .slice A' n c'], .bool true]) (by simp [results, Try.results23, go_sem, e0, e1, e2]) rfl ?_
    rw [← HP.out]
    have hap : Apart A' (w.heap.size + 1) := HO'.out.apart HS1.out
    refine ⟨A', c', ?_, ?_, ?_, ?_⟩
    · simp [outI, outL, HFL.out]
    · exact ((HR'.out.seta hap).seta hap).seta hap
    · have e : (outL true (flipL ((p : Int)).toNat ((q : Int)).toNat xs)).length = n := HFL.out
      rw [e]
      exact (((HO'.out.seta hap).seta hap).seta hap).mono (by have := hs w.heap.size (by simp; try omega); omega)
    · exact ((HB3.out.setCell (p := ⟨w.heap.size + 1, 0, none⟩) (by simp) _).setCell (p := ⟨w.heap.size + 1, 1, none⟩) (by simp) _).setCell (p := ⟨w.heap.size + 1, 2, none⟩) (by simp) _

set_option maxRecDepth 100000 in
set_option maxHeartbeats 4000000 in
theorem specFlipSheet_calls (A : Option Addr) (xs : List (Nat × Nat × Nat)) (c n : Nat) (hxn : n = xs.length) (a b : Int) (w : World) (hn : n ≤ 1048576) (hr : RdS w A xs) :
    Calls Try.prog 21 #[.agg #[.int .i64 a, .int .i64 b, .slice A n c]] w (Out (shB a b xs) (outI (shB a b xs) b) (outI (shB a b xs) a) (outL (shB a b xs) (flipL a.toNat b.toNat xs)).length (outL (shB a b xs) (flipL a.toNat b.toNat xs)) w) := by
  have hw : Below w.heap.size w ((w.alloc (.cells #[.int .i64 a, .int .i64 b, .slice A n c] 25)).alloc (.cells #[.int .i64 0, .int .i64 0, .slice none 0 0] 25)) := by (apply bel_of; (repeat (first | apply below_dn | apply below_al)); exact below_st _)
  have HC := Frame.hid (l04Is_calls w.heap.size A xs c n hxn a b _ hn ((Sh3.here w a b (.slice A n c) 25).below ((Below.refl _ _).alloc (Nat.le_refl _) (.cells #[.int .i64 0, .int .i64 0, .slice none 0 0] 25))) (hr.below hw))
  have HW := Frame.hid hw
  have HR := Frame.hid hr
  have HX := Frame.hid hxn
  clear hr hw hxn
  cases h1 : shB a b xs
  · have H1 := Frame.hid h1
    generalize hP : Out false _ _ _ _ w = P
    have HP := Frame.hid hP
    clear hP h1
    go_enter Try.func21, Try.ntmps21
    go_wp2_with (go_at_call 61; refine (HC.out).mono ?_; rintro e w' ⟨rfl, hB⟩; rw [H1.out]; have hc := rd_of hB; have hz := fz_of hB; have hs := sz_of hB; have s0 := hs w.heap.size (by simp; try omega); have s1 := hs (w.heap.size + 1) (by simp; try omega))
    have k0 : w'.cell? ⟨w.heap.size + 1, 0, none⟩ = some (.int .i64 0) := by rw [hc _ _ (by simp)]; simp [go_sem]
    have k1 : w'.cell? ⟨w.heap.size + 1, 1, none⟩ = some (.int .i64 0) := by rw [hc _ _ (by simp)]; simp [go_sem]
    have k2 : w'.cell? ⟨w.heap.size + 1, 2, none⟩ = some (.slice none 0 0) := by rw [hc _ _ (by simp)]; simp [go_sem]
    obtain ⟨e0, e1, e2⟩ := set3_read (w := w') (v0 := .int .i64 0) (v1 := .int .i64 0) (v2 := .slice none 0 0) k0 k1 k2
    refine bodyPost_ret (v := .tuple #[.agg #[.int .i64 0, .int .i64 0, .slice none 0 0], .bool false]) (by simp [results, Try.results21, go_sem, e0, e1, e2]) rfl ?_
    rw [← HP.out]
    refine ⟨none, 0, rfl, ⟨fun h0 => absurd h0 (by simp [outL])⟩, OwS.nilv _ _, ?_⟩
    exact (((HW.out.trans (hB.mono HW.out.size)).setCell (p := ⟨w.heap.size + 1, 0, none⟩) (by simp) _).setCell (p := ⟨w.heap.size + 1, 1, none⟩) (by simp) _).setCell (p := ⟨w.heap.size + 1, 2, none⟩) (by simp) _
  · have H1 := Frame.hid h1
    obtain ⟨p, q, rfl, rfl, hp, hq, hl⟩ : ∃ p q : Nat, a = (p : Int) ∧ b = (q : Int) ∧ (2 ≤ p ∧ p ≤ 6) ∧ (2 ≤ q ∧ q ≤ 6) ∧ n = p * q := by
      have h2 := h1
      unfold shB at h2
      simp only [Bool.and_eq_true, decide_eq_true_eq] at h2
      obtain ⟨⟨h3, h4⟩, -⟩ := h2
      obtain ⟨⟨a1, a2⟩, ⟨b1, b2⟩, -, -⟩ := cntB_mul h3
      obtain ⟨p, rfl⟩ := Int.eq_ofNat_of_zero_le (by omega : 0 ≤ a)
      obtain ⟨q, rfl⟩ := Int.eq_ofNat_of_zero_le (by omega : 0 ≤ b)
      refine ⟨p, q, rfl, rfl, by omega, by omega, ?_⟩
      rw [HX.out]
      exact_mod_cast h4
    obtain ⟨bk, off, rfl, -, -⟩ := HR.out.h (by have := HX.out; have : 2 * 2 ≤ p * q := Nat.mul_le_mul hp.1 hq.1; omega)
    have HL := Frame.hid hl
    generalize hP : Out true _ _ _ _ w = P
    have HP := Frame.hid hP
    clear hP h1 hl
    go_enter Try.func21, Try.ntmps21
    go_wp2_with (go_at_call 61; refine (HC.out).mono ?_; rintro e w' ⟨rfl, hB⟩; rw [H1.out]; have hc := rd_of hB; have hz := fz_of hB; have hs := sz_of hB; have s0 := hs w.heap.size (by simp; try omega); have s1 := hs (w.heap.size + 1) (by simp; try omega))
    have hS : Sh3 w' w.heap.size p q (.slice (some ⟨bk, off, none⟩) n c) := ((Sh3.here w p q (.slice (some ⟨bk, off, none⟩) n c) 25).below ((Below.refl _ _).alloc (Nat.le_refl _) (.cells #[.int .i64 0, .int .i64 0, .slice none 0 0] 25))).below hB
    have hB' := HW.out.trans (hB.mono HW.out.size)
    refine (l04Flip_calls w.heap.size p q bk off c n xs hp hq HX.out HL.out w' hS (HR.out.below hB')).mono ?_
    rintro e w2 ⟨v, rfl, hO, hB2⟩
    have k0 : w2.cell? ⟨w.heap.size + 1, 0, none⟩ = some (.int .i64 0) := by rw [hB2.cell s1, hc _ _ (by simp)]; simp [go_sem]
    have k1 : w2.cell? ⟨w.heap.size + 1, 1, none⟩ = some (.int .i64 0) := by rw [hB2.cell s1, hc _ _ (by simp)]; simp [go_sem]
    have k2 : w2.cell? ⟨w.heap.size + 1, 2, none⟩ = some (.slice none 0 0) := by rw [hB2.cell s1, hc _ _ (by simp)]; simp [go_sem]
    have z2 : ∀ i, w2.frozen? ⟨w.heap.size + 1, i, none⟩ = false := fun i => by rw [hB2.frozen s1, hz _ _ (by simp)]; simp [go_sem]
    have hs2 : w.heap.size + 1 < w2.heap.size := Nat.lt_of_lt_of_le s1 hB2.size
    have HB3 := Frame.hid (hB'.trans (hB2.mono hB'.size))
    have hR' := hO.rd
    have hO' := hO.ow
    have hfl : (flipL p q xs).length = n := by rw [flipL_len, HL.out]
    rw [hfl] at hR' hO'
    obtain ⟨A', c', rfl, hR''⟩ := hR'
    have HR' := Frame.hid hR''
    have HO' := Frame.hid hO'
    have HS1 := Frame.hid s1
    obtain ⟨e0, e1, e2⟩ := set3_read (w := w2) (v0 := .int .i64 q) (v1 := .int .i64 p) (v2 := .slice A' n c') k0 k1 k2
    have HFL := Frame.hid hfl
    clear hR'' hO' hO hS hB' hB2 hfl
    go_wp2_with fail
    refine bodyPost_ret (v := .tuple #[.agg #[.int .i64 q, .int .i64 p, .slice A' n c'], .bool true]) (by simp [results, Try.results21, go_sem, e0, e1, e2]) rfl ?_
    rw [← HP.out]
    have hap : Apart A' (w.heap.size + 1) := HO'.out.apart HS1.out
    refine ⟨A', c', ?_, ?_, ?_, ?_⟩
    · simp [outI, outL, HFL.out]
    · exact ((HR'.out.seta hap).seta hap).seta hap
    · have e : (outL true (flipL ((p : Int)).toNat ((q : Int)).toNat xs)).length = n := HFL.out
      rw [e]
      exact (((HO'.out.seta hap).seta hap).seta hap).mono (by have := hs w.heap.size (by simp; try omega); omega)
    · exact ((HB3.out.setCell (p := ⟨w.heap.size + 1, 0, none⟩) (by simp) _).setCell (p := ⟨w.heap.size + 1, 1, none⟩) (by simp) _).setCell (p := ⟨w.heap.size + 1, 2, none⟩) (by simp) _

theorem shB_nat36 {a b : Int} {xs : List (Nat × Nat × Nat)} (h : shB a b xs = true) : a.toNat * b.toNat ≤ 36 := by
  unfold shB at h
  simp only [Bool.and_eq_true, decide_eq_true_eq] at h
  obtain ⟨⟨a1, a2⟩, ⟨b1, b2⟩, -, -⟩ := cntB_mul h.1.1
  exact Nat.mul_le_mul (show a.toNat ≤ 6 by omega) (show b.toNat ≤ 6 by omega)

end Go.Proofs.Ytddbojpkmgmjmaa
