/-
  FlatSheet, walked on both sides.
-/
import Derived.Test.YtddbojpkmgmjmaaG7
import Derived.Test.YtddbojpkmgmjmaaG8
namespace Go.Proofs.Ytddbojpkmgmjmaa
open Go.RowKit Fl Go.WideShapes Go.Deep
attribute [local go_sem] kstore_f kalloc_drewN kset_drewN hstore_i hstore_s

/-- Whether a flat sheet is handed out. -/
noncomputable def flK (a b : Int) (wide long : Nat) : Bool := cntB a b && flatB a.toNat b.toNat wide long
noncomputable def flS (a b : Int) (wide long : Nat) : List (Nat × Nat × Nat) := flatS a.toNat b.toNat wide long

set_option maxRecDepth 100000 in
set_option maxHeartbeats 4000000 in
theorem flatSheet_calls (a b : Int) (wide long : Nat) (w : World) :
    Calls Try.prog 16 #[.int .i64 a, .int .i64 b, .float .f32 wide, .float .f32 long] w (Out (flK a b wide long) (outI (flK a b wide long) a) (outI (flK a b wide long) b) (outL (flK a b wide long) (flS a b wide long)).length (outL (flK a b wide long) (flS a b wide long)) w) := by
  cases h1 : cntB a b
  · have hK : flK a b wide long = false := by unfold flK; rw [h1]; rfl
    rw [hK]
    generalize hP : Out false _ _ _ _ w = P
    have HP := Frame.hid hP
    have H1 := Frame.hid h1
    clear hP hK
    by_cases h2 : (decide (2 ≤ a) && decide (a ≤ 6)) = true
    · have h3 : (decide (2 ≤ b) && decide (b ≤ 6)) = false := by unfold cntB at h1; rw [h2] at h1; simpa using h1
      have H2 := Frame.hid h2
      have H3 := Frame.hid h3
      clear h1 h2 h3
      go_enter Try.func16, Try.ntmps16
      go_wp2_with (go_at_call 56; refine (isAcross_calls _ _).mono ?_; rintro e w' ⟨rfl, rfl⟩; first | rw [H2.out] | rw [H3.out])
      refine bodyPost_ret (v := .tuple #[.agg #[.int .i64 0, .int .i64 0, .slice none 0 0], .bool false]) (by simp [results, Try.results16, go_sem]) rfl ?_
      rw [← HP.out]
      refine ⟨none, 0, rfl, ⟨fun h0 => absurd h0 (by simp [outL])⟩, OwS.nilv _ _, ?_⟩
      repeat' first | with_reducible exact Below.refl _ _ | with_reducible apply below_drewN | with_reducible apply Below.drew | (with_reducible refine Below.alloc ?_ ?_ _) | (with_reducible refine Below.setCell ?_ ?_ _) | (simp; done) | (simp; omega)
    · have h2 : (decide (2 ≤ a) && decide (a ≤ 6)) = false := by simpa using h2
      have H2 := Frame.hid h2
      clear h1 h2
      go_enter Try.func16, Try.ntmps16
      go_wp2_with (go_at_call 56; refine (isAcross_calls _ _).mono ?_; rintro e w' ⟨rfl, rfl⟩; rw [H2.out])
      refine bodyPost_ret (v := .tuple #[.agg #[.int .i64 0, .int .i64 0, .slice none 0 0], .bool false]) (by simp [results, Try.results16, go_sem]) rfl ?_
      rw [← HP.out]
      refine ⟨none, 0, rfl, ⟨fun h0 => absurd h0 (by simp [outL])⟩, OwS.nilv _ _, ?_⟩
      repeat' first | with_reducible exact Below.refl _ _ | with_reducible apply below_drewN | with_reducible apply Below.drew | (with_reducible refine Below.alloc ?_ ?_ _) | (with_reducible refine Below.setCell ?_ ?_ _) | (simp; done) | (simp; omega)
  · obtain ⟨⟨a1, a2⟩, ⟨b1, b2⟩, -, -⟩ := cntB_mul h1
    obtain ⟨p, rfl⟩ := Int.eq_ofNat_of_zero_le (by omega : 0 ≤ a)
    obtain ⟨q, rfl⟩ := Int.eq_ofNat_of_zero_le (by omega : 0 ≤ b)
    have H2 := Frame.hid (by simp; omega : (decide (2 ≤ (p : Int)) && decide ((p : Int) ≤ 6)) = true)
    have H3 := Frame.hid (by simp; omega : (decide (2 ≤ (q : Int)) && decide ((q : Int) ≤ 6)) = true)
    have H1 := Frame.hid h1
    generalize hP : Out _ _ _ _ _ w = P
    have HP := Frame.hid hP
    clear hP h1
    go_enter Try.func16, Try.ntmps16
    go_wp2_with (go_at_call 56; refine (isAcross_calls _ _).mono ?_; rintro e w' ⟨rfl, rfl⟩; first | rw [H2.out] | rw [H3.out])
    have hW0 : Below w.heap.size w (((((w.alloc (.cells #[.int .i64 p] 2)).alloc (.cells #[.int .i64 q] 2)).alloc (.cells #[.float .f32 wide] 22)).alloc (.cells #[.float .f32 long] 22)).alloc (.cells #[.int .i64 0, .int .i64 0, .slice none 0 0] 25)) := by (apply bel_of; (repeat (first | apply below_dn | apply below_al)); exact below_st _)
    refine (sheetOfFlat_calls p q wide long (w.heap.size + 1 + 1) w.heap.size (w.heap.size + 1 + 1 + 1) (w.heap.size + 1) (by omega) (by omega) _ (by simp [go_sem]) (by simp [go_sem]) (by simp [go_sem]) (by simp [go_sem]) (by simp; try omega) (by simp; try omega) (by simp; try omega) (by simp; try omega)).mono ?_
    rintro e w1 ⟨v, zs, rfl, hZ, hO, hB⟩
    have hs1 := hB.size
    have hR1 := hO.rd
    have hlen : zs.length = p * q := hZ.1
    obtain ⟨A', c', rfl, hR'⟩ := hR1
    have k0 : w1.cell? ⟨w.heap.size + 1 + 1 + 1 + 1, 0, none⟩ = some (.int .i64 0) := by rw [hB.cell (p := ⟨w.heap.size + 1 + 1 + 1 + 1, 0, none⟩) (by simp)]; simp [go_sem]
    have k1 : w1.cell? ⟨w.heap.size + 1 + 1 + 1 + 1, 1, none⟩ = some (.int .i64 0) := by rw [hB.cell (p := ⟨w.heap.size + 1 + 1 + 1 + 1, 1, none⟩) (by simp)]; simp [go_sem]
    have k2 : w1.cell? ⟨w.heap.size + 1 + 1 + 1 + 1, 2, none⟩ = some (.slice none 0 0) := by rw [hB.cell (p := ⟨w.heap.size + 1 + 1 + 1 + 1, 2, none⟩) (by simp)]; simp [go_sem]
    have kf : ∀ i, w1.frozen? ⟨w.heap.size + 1 + 1 + 1 + 1, i, none⟩ = false := fun i => by rw [hB.frozen (p := ⟨w.heap.size + 1 + 1 + 1 + 1, i, none⟩) (by simp)]; simp [go_sem]
    have hsR : w.heap.size + 1 + 1 + 1 + 1 < w1.heap.size := by simp at hs1; omega
    have HW1 := Frame.hid (hW0.trans (hB.mono hW0.size))
    have HO := Frame.hid hO.ow
    have hKS : flK p q wide long = shB p q zs := by
      unfold flK shB
      rw [H1.out, Int.toNat_natCast, Int.toNat_natCast, flatB_of hZ]
      rw [show ((zs.length : Nat) : Int) = (p : Int) * (q : Int) by rw [hlen]; push_cast; rfl]
      simp
    have hflS : shB p q zs = true → flS p q wide long = zs := fun h => by
      unfold flS
      rw [Int.toNat_natCast, Int.toNat_natCast]
      exact flatS_of hZ (by unfold shB at h; simp only [Bool.and_eq_true] at h; exact h.2)
    rw [hKS] at HP
    have HR := Frame.hid hR'
    have HFS := Frame.hid hflS
    have hn36 : zs.length ≤ 1048576 := by
      rw [hlen]
      have : p * q ≤ 6 * 6 := Nat.mul_le_mul (by omega) (by omega)
      omega
    have HSV := Frame.hid (sheetIfValid_calls A' zs c' zs.length rfl p q w1 hn36 HR.out)
    obtain ⟨n, hn⟩ : ∃ n, n = zs.length := ⟨_, rfl⟩
    rw [← hn] at HSV HO ⊢
    have HNN := Frame.hid hn
    clear hKS hflS hlen hR' hO hZ hB hs1 hn hn36
    go_wp2_with fail
    refine HSV.out.mono ?_
    rintro e w2 ⟨a', b', v, ok, rfl, ⟨hk, ht, hf⟩, hB2⟩
    have HK := Frame.hid hk
    have j0 : w2.cell? ⟨w.heap.size + 1 + 1 + 1 + 1, 0, none⟩ = some (.int .i64 0) := (hB2.cell (p := ⟨w.heap.size + 1 + 1 + 1 + 1, 0, none⟩) hsR).trans k0
    have j1 : w2.cell? ⟨w.heap.size + 1 + 1 + 1 + 1, 1, none⟩ = some (.int .i64 0) := (hB2.cell (p := ⟨w.heap.size + 1 + 1 + 1 + 1, 1, none⟩) hsR).trans k1
    have j2 : w2.cell? ⟨w.heap.size + 1 + 1 + 1 + 1, 2, none⟩ = some (.slice none 0 0) := (hB2.cell (p := ⟨w.heap.size + 1 + 1 + 1 + 1, 2, none⟩) hsR).trans k2
    have jf : ∀ i, w2.frozen? ⟨w.heap.size + 1 + 1 + 1 + 1, i, none⟩ = false := fun i => (hB2.frozen (p := ⟨w.heap.size + 1 + 1 + 1 + 1, i, none⟩) hsR).trans (kf i)
    have hs2 : w.heap.size + 1 + 1 + 1 + 1 < w2.heap.size := Nat.lt_of_lt_of_le hsR hB2.size
    have HW2 := Frame.hid (HW1.out.trans (hB2.mono HW1.out.size))
    have HR2 := Frame.hid (HR.out.below hB2)
    have HO2 := Frame.hid (HO.out.below hB2)
    have hap : Apart A' (w.heap.size + 1 + 1 + 1 + 1) := HO2.out.apart (by simp)
    clear hk k0 k1 k2 kf hB2
    cases ok
    · obtain ⟨rfl, rfl, rfl⟩ := hf rfl
      clear ht hf
      obtain ⟨e0, e1, e2⟩ := set3_read (w := w2) (v0 := .int .i64 0) (v1 := .int .i64 0) (v2 := .slice none 0 0) j0 j1 j2
      go_wp2_with fail
      refine bodyPost_ret (v := .tuple #[.agg #[.int .i64 0, .int .i64 0, .slice none 0 0], .bool false]) (by simp [results, Try.results16, go_sem, e0, e1, e2]) rfl ?_
      rw [← HP.out, ← HK.out]
      refine ⟨none, 0, rfl, ⟨fun h0 => absurd h0 (by simp [outL])⟩, OwS.nilv _ _, ?_⟩
      exact ((HW2.out.setCell (p := ⟨w.heap.size + 1 + 1 + 1 + 1, 0, none⟩) (by simp <;> omega) _).setCell (p := ⟨w.heap.size + 1 + 1 + 1 + 1, 1, none⟩) (by simp <;> omega) _).setCell (p := ⟨w.heap.size + 1 + 1 + 1 + 1, 2, none⟩) (by simp <;> omega) _
    · obtain ⟨rfl, rfl, rfl⟩ := ht rfl
      clear ht hf
      obtain ⟨e0, e1, e2⟩ := set3_read (w := w2) (v0 := .int .i64 p) (v1 := .int .i64 q) (v2 := .slice A' n c') j0 j1 j2
      have hz := HFS.out HK.out.symm
      go_wp2_with fail
      refine bodyPost_ret (v := .tuple #[.agg #[.int .i64 p, .int .i64 q, .slice A' n c'], .bool true]) (by simp [results, Try.results16, go_sem, e0, e1, e2]) rfl ?_
      rw [← HP.out, ← HK.out, hz]
      have hN : (outL true zs).length = n := HNN.out.symm
      refine ⟨A', c', ?_, ?_, ?_, ?_⟩
      · rw [hN]; rfl
      · exact ((HR2.out.seta hap).seta hap).seta hap
      · rw [hN]; exact (((HO2.out.seta hap).seta hap).seta hap).mono (by simp <;> omega)
      · exact ((HW2.out.setCell (p := ⟨w.heap.size + 1 + 1 + 1 + 1, 0, none⟩) (by simp <;> omega) _).setCell (p := ⟨w.heap.size + 1 + 1 + 1 + 1, 1, none⟩) (by simp <;> omega) _).setCell (p := ⟨w.heap.size + 1 + 1 + 1 + 1, 2, none⟩) (by simp <;> omega) _

set_option maxRecDepth 100000 in
set_option maxHeartbeats 4000000 in
theorem specFlatSheet_calls (a b : Int) (wide long : Nat) (w : World) :
    Calls Try.prog 15 #[.int .i64 a, .int .i64 b, .float .f32 wide, .float .f32 long] w (Out (flK a b wide long) (outI (flK a b wide long) a) (outI (flK a b wide long) b) (outL (flK a b wide long) (flS a b wide long)).length (outL (flK a b wide long) (flS a b wide long)) w) := by
  cases h1 : cntB a b
  · have hK : flK a b wide long = false := by unfold flK; rw [h1]; rfl
    rw [hK]
    generalize hP : Out false _ _ _ _ w = P
    have HP := Frame.hid hP
    have H1 := Frame.hid h1
    clear hP hK h1
    go_enter Try.func15, Try.ntmps15
    go_wp2_with (go_at_call 52; refine (l04Counts_calls _ _ _).mono ?_; rintro e w' ⟨rfl, rfl⟩; rw [H1.out])
    refine bodyPost_ret (v := .tuple #[.agg #[.int .i64 0, .int .i64 0, .slice none 0 0], .bool false]) (by simp [results, Try.results15, go_sem]) rfl ?_
    rw [← HP.out]
    refine ⟨none, 0, rfl, ⟨fun h0 => absurd h0 (by simp [outL])⟩, OwS.nilv _ _, ?_⟩
    repeat' first | with_reducible exact Below.refl _ _ | with_reducible apply below_drewN | with_reducible apply Below.drew | (with_reducible refine Below.alloc ?_ ?_ _) | (with_reducible refine Below.setCell ?_ ?_ _) | (simp; done) | (simp; omega)
  · obtain ⟨⟨a1, a2⟩, ⟨b1, b2⟩, -, -⟩ := cntB_mul h1
    obtain ⟨p, rfl⟩ := Int.eq_ofNat_of_zero_le (by omega : 0 ≤ a)
    obtain ⟨q, rfl⟩ := Int.eq_ofNat_of_zero_le (by omega : 0 ≤ b)
    have H1 := Frame.hid h1
    by_cases hff : (fin .f32 wide && fin .f32 long) = true
    · have hfw : fin .f32 wide = true := by simp at hff; exact hff.1
      have hfl : fin .f32 long = true := by simp at hff; exact hff.2
      have HFW := Frame.hid hfw
      have HFL := Frame.hid hfl
      generalize hP : Out _ _ _ _ _ w = P
      have HP := Frame.hid hP
      clear hP h1 hff hfw hfl
      go_enter Try.func15, Try.ntmps15
      go_wp2_with (first | (go_at_call 52; refine (l04Counts_calls _ _ _).mono ?_; rintro e w' ⟨rfl, rfl⟩; rw [H1.out]) | (go_at_call 53; refine (l01Finite_calls _ _).mono ?_; rintro e w' ⟨rfl, m, rfl⟩; first | rw [HFW.out] | rw [HFL.out]))
      have hW0 : ∀ m, Below w.heap.size w ((w.alloc (.cells #[.int .i64 0, .int .i64 0, .slice none 0 0] 25)).drewN m) := fun m => below_drewN ((Below.refl _ w).alloc (Nat.le_refl _) _) m
      refine (l04Flat_calls p q wide long (by omega) (by omega) _).mono ?_
      rintro e w1 ⟨v, zs, rfl, hZ, hO, hB⟩
      have hs1 := hB.size
      have hR1 := hO.rd
      have hlen : zs.length = p * q := hZ.1
      obtain ⟨A', c', rfl, hR'⟩ := hR1
      have k0 : w1.cell? ⟨w.heap.size, 0, none⟩ = some (.int .i64 0) := by rw [hB.cell (p := ⟨w.heap.size, 0, none⟩) (by simp)]; simp [go_sem]
      have k1 : w1.cell? ⟨w.heap.size, 1, none⟩ = some (.int .i64 0) := by rw [hB.cell (p := ⟨w.heap.size, 1, none⟩) (by simp)]; simp [go_sem]
      have k2 : w1.cell? ⟨w.heap.size, 2, none⟩ = some (.slice none 0 0) := by rw [hB.cell (p := ⟨w.heap.size, 2, none⟩) (by simp)]; simp [go_sem]
      have kf : ∀ i, w1.frozen? ⟨w.heap.size, i, none⟩ = false := fun i => by rw [hB.frozen (p := ⟨w.heap.size, i, none⟩) (by simp)]; simp [go_sem]
      have hsR : w.heap.size < w1.heap.size := by simp at hs1; omega
      have HW1 := Frame.hid ((hW0 _).trans (hB.mono (hW0 _).size))
      have HO := Frame.hid hO.ow
      have hKS : flK p q wide long = shB p q zs := by
        unfold flK shB
        rw [H1.out, Int.toNat_natCast, Int.toNat_natCast, flatB_of hZ]
        rw [show ((zs.length : Nat) : Int) = (p : Int) * (q : Int) by rw [hlen]; push_cast; rfl]
        simp
      have hflS : shB p q zs = true → flS p q wide long = zs := fun h => by
        unfold flS
        rw [Int.toNat_natCast, Int.toNat_natCast]
        exact flatS_of hZ (by unfold shB at h; simp only [Bool.and_eq_true] at h; exact h.2)
      rw [hKS] at HP
      have HR := Frame.hid hR'
      have HFS := Frame.hid hflS
      have hn36 : zs.length ≤ 1048576 := by
        rw [hlen]
        have : p * q ≤ 6 * 6 := Nat.mul_le_mul (by omega) (by omega)
        omega
      have HSV := Frame.hid (l04Give_calls A' zs c' zs.length rfl p q w1 hn36 HR.out)
      obtain ⟨n, hn⟩ : ∃ n, n = zs.length := ⟨_, rfl⟩
      rw [← hn] at HSV HO ⊢
      have HNN := Frame.hid hn
      clear hKS hflS hlen hR' hO hZ hB hs1 hn hn36
      go_wp2_with fail
      refine HSV.out.mono ?_
      rintro e w2 ⟨a', b', v, ok, rfl, ⟨hk, ht, hf⟩, hB2⟩
      have HK := Frame.hid hk
      have j0 : w2.cell? ⟨w.heap.size, 0, none⟩ = some (.int .i64 0) := (hB2.cell (p := ⟨w.heap.size, 0, none⟩) hsR).trans k0
      have j1 : w2.cell? ⟨w.heap.size, 1, none⟩ = some (.int .i64 0) := (hB2.cell (p := ⟨w.heap.size, 1, none⟩) hsR).trans k1
      have j2 : w2.cell? ⟨w.heap.size, 2, none⟩ = some (.slice none 0 0) := (hB2.cell (p := ⟨w.heap.size, 2, none⟩) hsR).trans k2
      have jf : ∀ i, w2.frozen? ⟨w.heap.size, i, none⟩ = false := fun i => (hB2.frozen (p := ⟨w.heap.size, i, none⟩) hsR).trans (kf i)
      have hs2 : w.heap.size < w2.heap.size := Nat.lt_of_lt_of_le hsR hB2.size
      have HW2 := Frame.hid (HW1.out.trans (hB2.mono HW1.out.size))
      have HR2 := Frame.hid (HR.out.below hB2)
      have HO2 := Frame.hid (HO.out.below hB2)
      have hap : Apart A' (w.heap.size) := HO2.out.apart (by simp)
      clear hk k0 k1 k2 kf hB2
      cases ok
      · obtain ⟨rfl, rfl, rfl⟩ := hf rfl
        clear ht hf
        obtain ⟨e0, e1, e2⟩ := set3_read (w := w2) (v0 := .int .i64 0) (v1 := .int .i64 0) (v2 := .slice none 0 0) j0 j1 j2
        go_wp2_with fail
        refine bodyPost_ret (v := .tuple #[.agg #[.int .i64 0, .int .i64 0, .slice none 0 0], .bool false]) (by simp [results, Try.results15, go_sem, e0, e1, e2]) rfl ?_
        rw [← HP.out, ← HK.out]
        refine ⟨none, 0, rfl, ⟨fun h0 => absurd h0 (by simp [outL])⟩, OwS.nilv _ _, ?_⟩
        exact ((HW2.out.setCell (p := ⟨w.heap.size, 0, none⟩) (by simp <;> omega) _).setCell (p := ⟨w.heap.size, 1, none⟩) (by simp <;> omega) _).setCell (p := ⟨w.heap.size, 2, none⟩) (by simp <;> omega) _
      · obtain ⟨rfl, rfl, rfl⟩ := ht rfl
        clear ht hf
        obtain ⟨e0, e1, e2⟩ := set3_read (w := w2) (v0 := .int .i64 p) (v1 := .int .i64 q) (v2 := .slice A' n c') j0 j1 j2
        have hz := HFS.out HK.out.symm
        go_wp2_with fail
        refine bodyPost_ret (v := .tuple #[.agg #[.int .i64 p, .int .i64 q, .slice A' n c'], .bool true]) (by simp [results, Try.results15, go_sem, e0, e1, e2]) rfl ?_
        rw [← HP.out, ← HK.out, hz]
        have hN : (outL true zs).length = n := HNN.out.symm
        refine ⟨A', c', ?_, ?_, ?_, ?_⟩
        · rw [hN]; rfl
        · exact ((HR2.out.seta hap).seta hap).seta hap
        · rw [hN]; exact (((HO2.out.seta hap).seta hap).seta hap).mono (by simp <;> omega)
        · exact ((HW2.out.setCell (p := ⟨w.heap.size, 0, none⟩) (by simp <;> omega) _).setCell (p := ⟨w.heap.size, 1, none⟩) (by simp <;> omega) _).setCell (p := ⟨w.heap.size, 2, none⟩) (by simp <;> omega) _
    · have hK : flK (p : Int) (q : Int) wide long = false := by
        cases hk : flK (p : Int) (q : Int) wide long
        · rfl
        · exfalso
          unfold flK at hk
          rw [H1.out, Int.toNat_natCast, Int.toNat_natCast] at hk
          obtain ⟨g1, g2⟩ := flatB_fin (p := p) (q := q) (by omega) (by omega) (by simpa using hk)
          exact hff (by rw [g1, g2]; rfl)
      rw [hK]
      generalize hP : Out false _ _ _ _ w = P
      have HP := Frame.hid hP
      clear hP hK h1
      cases hfw : fin .f32 wide
      · have HFW := Frame.hid hfw
        clear hff hfw
        go_enter Try.func15, Try.ntmps15
        go_wp2_with (first | (go_at_call 52; refine (l04Counts_calls _ _ _).mono ?_; rintro e w' ⟨rfl, rfl⟩; rw [H1.out]) | (go_at_call 53; refine (l01Finite_calls _ _).mono ?_; rintro e w' ⟨rfl, m, rfl⟩; rw [HFW.out]))
        refine bodyPost_ret (v := .tuple #[.agg #[.int .i64 0, .int .i64 0, .slice none 0 0], .bool false]) (by simp [results, Try.results15, go_sem]) rfl ?_
        rw [← HP.out]
        refine ⟨none, 0, rfl, ⟨fun h0 => absurd h0 (by simp [outL])⟩, OwS.nilv _ _, ?_⟩
        repeat' first | with_reducible exact Below.refl _ _ | with_reducible apply below_drewN | with_reducible apply Below.drew | (with_reducible refine Below.alloc ?_ ?_ _) | (with_reducible refine Below.setCell ?_ ?_ _) | (simp; done) | (simp; omega)
      · have hfl : fin .f32 long = false := by rw [hfw] at hff; simpa using hff
        have HFW := Frame.hid hfw
        have HFL := Frame.hid hfl
        clear hff hfw hfl
        go_enter Try.func15, Try.ntmps15
        go_wp2_with (first | (go_at_call 52; refine (l04Counts_calls _ _ _).mono ?_; rintro e w' ⟨rfl, rfl⟩; rw [H1.out]) | (go_at_call 53; refine (l01Finite_calls _ _).mono ?_; rintro e w' ⟨rfl, m, rfl⟩; first | rw [HFW.out] | rw [HFL.out]))
        refine bodyPost_ret (v := .tuple #[.agg #[.int .i64 0, .int .i64 0, .slice none 0 0], .bool false]) (by simp [results, Try.results15, go_sem]) rfl ?_
        rw [← HP.out]
        refine ⟨none, 0, rfl, ⟨fun h0 => absurd h0 (by simp [outL])⟩, OwS.nilv _ _, ?_⟩
        repeat' first | with_reducible exact Below.refl _ _ | with_reducible apply below_drewN | with_reducible apply Below.drew | (with_reducible refine Below.alloc ?_ ?_ _) | (with_reducible refine Below.setCell ?_ ?_ _) | (simp; done) | (simp; omega)

end Go.Proofs.Ytddbojpkmgmjmaa
