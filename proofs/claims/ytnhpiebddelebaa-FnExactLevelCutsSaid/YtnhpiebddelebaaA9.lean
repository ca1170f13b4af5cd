/-
  LevelCuts: the specification's side.
-/
import Derived.Test.YtnhpiebddelebaaA5
import Derived.Test.YtnhpiebddelebaaA8
namespace Go.Proofs.Ytnhpiebddelebaa
open Go.RowKit Fl Go.WideShapes Go.Deep
attribute [local go_sem] kstore_f kalloc_drewN kset_drewN hstore_i hstore_s

theorem tri3_at (xs : List Sp3) (a b t j : Nat) (hj : j < 3) : (tri3 (sx xs (crn a b (3 * t))) (sy xs (crn a b (3 * t))) (sz xs (crn a b (3 * t))) (sx xs (crn a b (3 * t + 1))) (sy xs (crn a b (3 * t + 1))) (sz xs (crn a b (3 * t + 1))) (sx xs (crn a b (3 * t + 2))) (sy xs (crn a b (3 * t + 2))) (sz xs (crn a b (3 * t + 2)))) j = (sx xs (crn a b (3 * t + j)), sy xs (crn a b (3 * t + j)), sz xs (crn a b (3 * t + j))) := by
  rcases (by omega : j = 0 ∨ j = 1 ∨ j = 2) with rfl | rfl | rfl <;> rfl

set_option maxRecDepth 100000 in
set_option maxHeartbeats 8000000 in
theorem specLevelCuts_calls (A : Option Addr) (xs : List Sp3) (n c : Nat) (hxn : n = xs.length) (hn : n ≤ 1048576) (m k : Int) (wx wy wz lv : Nat) (w : World) (hr : RdS w A xs) :
    Calls Try.prog 34 #[.slice A n c, .int .i64 m, .int .i64 k, .agg #[.float .f32 wx, .float .f32 wy, .float .f32 wz], .float .f32 lv] w fun e w' => ∃ v l ok, e = .returned (.tuple #[v, .bool ok]) ∧ LcO xs m k (wx, wy, wz) lv l ok ∧ OwnedS w' w.heap.size v l ∧ Below w.heap.size w w' := by
  have hbx : Below w.heap.size w (w.alloc (.cells #[.float .f32 wx, .float .f32 wy, .float .f32 wz] 57)) := (Below.refl _ _).alloc (Nat.le_refl _) _
  have HTL := Frame.hid (l04Tiled_calls A xs n c hxn hn m k _ (hr.below hbx))
  have HBX := Frame.hid hbx
  clear hbx
  cases hbad : (tlB xs m k && fin3 wx wy wz && fin .f32 lv)
  · have HBAD := Frame.hid hbad
    clear hr hxn
    cases hno : tlB xs m k
    · have HNO := Frame.hid hno
      clear hno hbad
      go_enter Try.func34, Try.ntmps34
      go_wp2_with fail
      refine HTL.out.mono ?_
      rintro e w1 ⟨rfl, hB1⟩
      rw [HNO.out]
      go_wp2_with fail
      go_ret2
      exact ⟨_, [], _, rfl, .inl ⟨HBAD.out, rfl, rfl⟩, OwnedS.nil _ _, HBX.out.trans (hB1.mono HBX.out.size)⟩
    · have HNO := Frame.hid hno
      rw [hno] at hbad
      clear hno
      cases h3 : fin3 wx wy wz <;> cases hl : fin .f32 lv
      · have HF3 := Frame.hid h3
        have HFL := Frame.hid hl
        clear hbad h3 hl
        go_enter Try.func34, Try.ntmps34
        go_wp2_with fail
        refine HTL.out.mono ?_
        rintro e w1 ⟨rfl, hB1⟩
        rw [HNO.out]
        have hw1 : w.heap.size < w1.heap.size := by have := hB1.size; simp at this; omega
        have v0 : w1.cell? ⟨w.heap.size, 0, none⟩ = some (.float .f32 wx) := (hB1.cell (by simp)).trans (by simp [go_sem])
        have v1 : w1.cell? ⟨w.heap.size, 1, none⟩ = some (.float .f32 wy) := (hB1.cell (by simp)).trans (by simp [go_sem])
        have v2 : w1.cell? ⟨w.heap.size, 2, none⟩ = some (.float .f32 wz) := (hB1.cell (by simp)).trans (by simp [go_sem])
        have HB1 := Frame.hid (HBX.out.trans (hB1.mono HBX.out.size))
        clear hB1
        go_wp2_with (first | (go_at_call 73; refine (l04Spot_calls _ _ _ _).mono ?_; rintro e w2 ⟨rfl, n2, rfl⟩; rw [HF3.out]) | (go_at_call 74; refine (l01Finite_calls _ _).mono ?_; rintro e w3 ⟨rfl, n3, rfl⟩; rw [HFL.out]))
        go_ret2
        refine ⟨_, [], _, rfl, .inl ⟨HBAD.out, rfl, rfl⟩, OwnedS.nil _ _, ?_⟩
        refine HB1.out.trans (Below.mono ?_ (Nat.le_of_lt hw1))
        (repeat' first | exact Below.refl _ _ | apply below_drewN | (refine Below.alloc ?_ (by first | exact Nat.le_refl _ | (simp; done) | (simp; omega)) _))
      · have HF3 := Frame.hid h3
        have HFL := Frame.hid hl
        clear hbad h3 hl
        go_enter Try.func34, Try.ntmps34
        go_wp2_with fail
        refine HTL.out.mono ?_
        rintro e w1 ⟨rfl, hB1⟩
        rw [HNO.out]
        have hw1 : w.heap.size < w1.heap.size := by have := hB1.size; simp at this; omega
        have v0 : w1.cell? ⟨w.heap.size, 0, none⟩ = some (.float .f32 wx) := (hB1.cell (by simp)).trans (by simp [go_sem])
        have v1 : w1.cell? ⟨w.heap.size, 1, none⟩ = some (.float .f32 wy) := (hB1.cell (by simp)).trans (by simp [go_sem])
        have v2 : w1.cell? ⟨w.heap.size, 2, none⟩ = some (.float .f32 wz) := (hB1.cell (by simp)).trans (by simp [go_sem])
        have HB1 := Frame.hid (HBX.out.trans (hB1.mono HBX.out.size))
        clear hB1
        go_wp2_with (first | (go_at_call 73; refine (l04Spot_calls _ _ _ _).mono ?_; rintro e w2 ⟨rfl, n2, rfl⟩; rw [HF3.out]) | (go_at_call 74; refine (l01Finite_calls _ _).mono ?_; rintro e w3 ⟨rfl, n3, rfl⟩; rw [HFL.out]))
        go_ret2
        refine ⟨_, [], _, rfl, .inl ⟨HBAD.out, rfl, rfl⟩, OwnedS.nil _ _, ?_⟩
        refine HB1.out.trans (Below.mono ?_ (Nat.le_of_lt hw1))
        (repeat' first | exact Below.refl _ _ | apply below_drewN | (refine Below.alloc ?_ (by first | exact Nat.le_refl _ | (simp; done) | (simp; omega)) _))
      · have HF3 := Frame.hid h3
        have HFL := Frame.hid hl
        clear hbad h3 hl
        go_enter Try.func34, Try.ntmps34
        go_wp2_with fail
        refine HTL.out.mono ?_
        rintro e w1 ⟨rfl, hB1⟩
        rw [HNO.out]
        have hw1 : w.heap.size < w1.heap.size := by have := hB1.size; simp at this; omega
        have v0 : w1.cell? ⟨w.heap.size, 0, none⟩ = some (.float .f32 wx) := (hB1.cell (by simp)).trans (by simp [go_sem])
        have v1 : w1.cell? ⟨w.heap.size, 1, none⟩ = some (.float .f32 wy) := (hB1.cell (by simp)).trans (by simp [go_sem])
        have v2 : w1.cell? ⟨w.heap.size, 2, none⟩ = some (.float .f32 wz) := (hB1.cell (by simp)).trans (by simp [go_sem])
        have HB1 := Frame.hid (HBX.out.trans (hB1.mono HBX.out.size))
        clear hB1
        go_wp2_with (first | (go_at_call 73; refine (l04Spot_calls _ _ _ _).mono ?_; rintro e w2 ⟨rfl, n2, rfl⟩; rw [HF3.out]) | (go_at_call 74; refine (l01Finite_calls _ _).mono ?_; rintro e w3 ⟨rfl, n3, rfl⟩; rw [HFL.out]))
        go_ret2
        refine ⟨_, [], _, rfl, .inl ⟨HBAD.out, rfl, rfl⟩, OwnedS.nil _ _, ?_⟩
        refine HB1.out.trans (Below.mono ?_ (Nat.le_of_lt hw1))
        (repeat' first | exact Below.refl _ _ | apply below_drewN | (refine Below.alloc ?_ (by first | exact Nat.le_refl _ | (simp; done) | (simp; omega)) _))
      · rw [h3, hl] at hbad
        cases hbad
  · have hall := hbad
    simp only [Bool.and_eq_true] at hall
    obtain ⟨⟨hno, h3⟩, hl⟩ := hall
    have HALL := Frame.hid hbad
    have HF3 := Frame.hid h3
    have HFL := Frame.hid hl
    obtain ⟨a, b, rfl, rfl, ha, hb, hlen, hf, hT, hT0⟩ := tlB_yes hno
    have HNO := Frame.hid hno
    obtain ⟨T, hTT⟩ : ∃ T, T = 2 * (a * b) := ⟨_, rfl⟩
    rw [← hTT] at hT hT0
    have HTT := Frame.hid hTT
    have hTs : T ≤ 288 := by have := triI_small ha.2 hb.2; omega
    obtain ⟨bs, of, rfl, hbs, hsp⟩ := hr.h (by rw [hlen]; exact Nat.mul_pos (by omega) (by omega))
    have HC := Frame.hid (l04Triangles_calls a b ha hb)
    have HR := Frame.hid hsp
    have HBS := Frame.hid hbs
    have HT := Frame.hid hT
    have HX := Frame.hid hxn
    have HLEN := Frame.hid hlen
    clear hr hxn hlen hf hT hno hTT hsp hbs hbad h3 hl
    go_enter Try.func34, Try.ntmps34
    go_wp2_with fail
    refine HTL.out.mono ?_
    rintro e w0 ⟨rfl, hB0⟩
    rw [HNO.out]
    have hw0 : w.heap.size < w0.heap.size := by have := hB0.size; simp at this; omega
    have v0 : w0.cell? ⟨w.heap.size, 0, none⟩ = some (.float .f32 wx) := (hB0.cell (by simp)).trans (by simp [go_sem])
    have v1 : w0.cell? ⟨w.heap.size, 1, none⟩ = some (.float .f32 wy) := (hB0.cell (by simp)).trans (by simp [go_sem])
    have v2 : w0.cell? ⟨w.heap.size, 2, none⟩ = some (.float .f32 wz) := (hB0.cell (by simp)).trans (by simp [go_sem])
    have HB0 := Frame.hid (HBX.out.trans (hB0.mono HBX.out.size))
    have HV0 := Frame.hid (And.intro v0 (And.intro v1 v2))
    have HWS := Frame.hid hw0
    clear hB0
    go_wp2_with (first | (go_at_call 73; refine (l04Spot_calls _ _ _ _).mono ?_; rintro e w2 ⟨rfl, n2, rfl⟩; rw [HF3.out]) | (go_at_call 74; refine (l01Finite_calls _ _).mono ?_; rintro e w3 ⟨rfl, n3, rfl⟩; rw [HFL.out]))
    have hB02 : Below w0.heap.size w0 ((w0.alloc (.cells #[.float .f32 wx, .float .f32 wy, .float .f32 wz] 57)).drewN (n2 + n3)) := below_drewN ((Below.refl _ _).alloc (Nat.le_refl _) _) _
    clear v0 v1 v2
    generalize (w0.alloc (.cells #[.float .f32 wx, .float .f32 wy, .float .f32 wz] 57)).drewN (n2 + n3) = wk at hB02 ⊢
    refine (HC.out wk).mono ?_
    rintro e w1 ⟨v, rfl, hO, hB1⟩
    obtain ⟨L, hL⟩ : ∃ L, L = (triI a b).length := ⟨_, rfl⟩
    have hL3 : L = 3 * T := by rw [hL, HT.out]
    obtain ⟨gC, cap, rfl, -, hg⟩ : ∃ g cap, v = .slice (some ⟨g, 0, none⟩) L cap ∧ wk.heap.size ≤ g ∧ g < w1.heap.size := by
      rcases hO.form with ⟨_, h0⟩ | ⟨g, cap, h, h1, h2⟩
      · rw [h0] at hL; simp at hL; omega
      · exact ⟨g, cap, by rw [hL]; exact h, h1, h2⟩
    have HCC : Hid (∀ j, j < L → w1.cell? ⟨gC, j, none⟩ = some (.int .i64 (crn a b j)) ∧ crn a b j < n) := by
      have h : ∀ j, j < L → w1.cell? ⟨gC, j, none⟩ = some (.int .i64 (crn a b j)) ∧ crn a b j < n := fun j hj => by
        have h1 := hO.cell hL (j := j) (by omega)
        obtain ⟨e1, e2⟩ := crn_bd (m := a) (k := b) (i := j) (by omega)
        rw [e1] at h1
        exact ⟨h1, by rw [HX.out, HLEN.out]; exact e2⟩
      exact h
    have HG := Frame.hid hg
    have hB01 : Below w0.heap.size w0 w1 := hB02.trans (hB1.mono hB02.size)
    have HW01 := Frame.hid hB01
    have HB1 := Frame.hid (HB0.out.trans (hB01.mono (Nat.le_of_lt hw0)))
    have hww1 : w.heap.size < w1.heap.size := Nat.lt_of_lt_of_le hw0 hB01.size
    have HL3 := Frame.hid hL3
    have hLs : L ≤ 864 := by omega
    clear hO hB1 hB01 hB02 hg hL hL3 hw0
    go_wp2_with fail
    go_loopw [13, 14] (fun sv kv wr => ∃ (t kk : Nat) (l : List Sp3), t ≤ T ∧ kk = 3 * t ∧ kv = .int .i64 kk ∧ CutA xs a b (wx, wy, wz) lv t l ∧ OwnedS wr w1.heap.size sv l ∧ Below w1.heap.size w1 wr) (fun _ kv _ => L - (intOf kv).toNat)
    case atStart => exact ⟨0, 0, [], Nat.zero_le _, rfl, rfl, rfl, none_litS w1, (Below.refl _ _).alloc (Nat.le_refl _) _⟩
    case round =>
      obtain ⟨t, kk, l0, ht, hkk, rfl, hA, hO, hB⟩ := hrel
      have HA := Frame.hid hA
      have HKK := Frame.hid hkk
      have hll0 := hA.len
      clear hA
      by_cases hlt : kk < L
      · have htT : t < T := by have := HL3.out; omega
        have HTT2 := Frame.hid htT
        have hk2 : kk + 2 < L := by have := HL3.out; omega
        have HB0r := Frame.hid hB
        have HO0 := Frame.hid hO
        clear hkk hB hO htT
        go_wp2_with fail
        go_loopw [13, 15] (fun sv jv wr => ∃ (j : Nat) (l : List Sp3), j ≤ 3 ∧ jv = .int .i64 j ∧ (∃ q, CutN (tri3 (sx xs (crn a b (3 * t))) (sy xs (crn a b (3 * t))) (sz xs (crn a b (3 * t))) (sx xs (crn a b (3 * t + 1))) (sy xs (crn a b (3 * t + 1))) (sz xs (crn a b (3 * t + 1))) (sx xs (crn a b (3 * t + 2))) (sy xs (crn a b (3 * t + 2))) (sz xs (crn a b (3 * t + 2)))) (wx, wy, wz) lv j q ∧ l = l0 ++ q) ∧ OwnedS wr w1.heap.size sv l ∧ Below w1.heap.size w1 wr) (fun _ jv _ => 3 - (intOf jv).toNat)
        case atStart => exact ⟨0, l0, by omega, rfl, ⟨[], rfl, by simp⟩, HO0.out, HB0r.out⟩
        case round =>
          obtain ⟨j, l, hj, rfl, hQ, hO, hB⟩ := hrel
          have HQ := Frame.hid hQ
          have HO := Frame.hid hO
          have HB := Frame.hid hB
          have hll : l.length ≤ l0.length + 3 := by obtain ⟨q, hq, e⟩ := hQ; have := hq.len; rw [e, List.length_append]; omega
          clear hQ hO
          by_cases hlj : j < 3
          · obtain ⟨ia, hia⟩ : ∃ u, u = kk + j := ⟨_, rfl⟩
            obtain ⟨j1, hj1⟩ : ∃ u, u = j + 1 := ⟨_, rfl⟩
            obtain ⟨jr, hjr⟩ : ∃ u, u = (j + 1) % 3 := ⟨_, rfl⟩
            obtain ⟨ib, hib⟩ : ∃ u, u = kk + jr := ⟨_, rfl⟩
            have hjr3 : jr < 3 := by omega
            obtain ⟨pa, hpa⟩ : ∃ u, u = crn a b ia := ⟨_, rfl⟩
            obtain ⟨pb, hpb⟩ : ∃ u, u = crn a b ib := ⟨_, rfl⟩
            have ka : wr.cell? ⟨gC, ia, none⟩ = some (.int .i64 (pa : Nat)) := by rw [hpa]; exact (hB.cell HG.out).trans (HCC.out ia (by omega)).1
            have kb : wr.cell? ⟨gC, ib, none⟩ = some (.int .i64 (pb : Nat)) := by rw [hpb]; exact (hB.cell HG.out).trans (HCC.out ib (by omega)).1
            have hpan : pa < n := by rw [hpa]; exact (HCC.out ia (by omega)).2
            have hpbn : pb < n := by rw [hpb]; exact (HCC.out ib (by omega)).2
            have hW := HB1.out.trans (hB.mono HB1.out.size)
            obtain ⟨c0, c1, c2⟩ := (HR.out pa (by have := HX.out; omega)).keep hW HBS.out
            obtain ⟨c3, c4, c5⟩ := (HR.out pb (by have := HX.out; omega)).keep hW HBS.out
            have hbw : bs < wr.heap.size := Nat.lt_of_lt_of_le HBS.out hW.size
            have hgw : gC < wr.heap.size := Nat.lt_of_lt_of_le HG.out hB.size
            have hb1 : w.heap.size < wr.heap.size := Nat.lt_of_lt_of_le hww1 hB.size
            have hB0w := HW01.out.trans (hB.mono HW01.out.size)
            have v0 : wr.cell? ⟨w.heap.size, 0, none⟩ = some (.float .f32 wx) := (hB.cell hww1).trans ((HW01.out.cell HWS.out).trans HV0.out.1)
            have v1 : wr.cell? ⟨w.heap.size, 1, none⟩ = some (.float .f32 wy) := (hB.cell hww1).trans ((HW01.out.cell HWS.out).trans HV0.out.2.1)
            have v2 : wr.cell? ⟨w.heap.size, 2, none⟩ = some (.float .f32 wz) := (hB.cell hww1).trans ((HW01.out.cell HWS.out).trans HV0.out.2.2)
            obtain ⟨Xa, hXa⟩ : ∃ u, u = sx xs pa := ⟨_, rfl⟩
            obtain ⟨Ya, hYa⟩ : ∃ u, u = sy xs pa := ⟨_, rfl⟩
            obtain ⟨Za, hZa⟩ : ∃ u, u = sz xs pa := ⟨_, rfl⟩
            obtain ⟨Xb, hXb⟩ : ∃ u, u = sx xs pb := ⟨_, rfl⟩
            obtain ⟨Yb, hYb⟩ : ∃ u, u = sy xs pb := ⟨_, rfl⟩
            obtain ⟨Zb, hZb⟩ : ∃ u, u = sz xs pb := ⟨_, rfl⟩
            have HSTEP : Hid (∀ o, SideR (Xa, Ya, Za) (Xb, Yb, Zb) (wx, wy, wz) lv o → ∃ q, CutN (tri3 (sx xs (crn a b (3 * t))) (sy xs (crn a b (3 * t))) (sz xs (crn a b (3 * t))) (sx xs (crn a b (3 * t + 1))) (sy xs (crn a b (3 * t + 1))) (sz xs (crn a b (3 * t + 1))) (sx xs (crn a b (3 * t + 2))) (sy xs (crn a b (3 * t + 2))) (sz xs (crn a b (3 * t + 2)))) (wx, wy, wz) lv (j + 1) q ∧ l ++ o = l0 ++ q) := by
              have h : ∀ o, SideR (Xa, Ya, Za) (Xb, Yb, Zb) (wx, wy, wz) lv o → ∃ q, CutN (tri3 (sx xs (crn a b (3 * t))) (sy xs (crn a b (3 * t))) (sz xs (crn a b (3 * t))) (sx xs (crn a b (3 * t + 1))) (sy xs (crn a b (3 * t + 1))) (sz xs (crn a b (3 * t + 1))) (sx xs (crn a b (3 * t + 2))) (sy xs (crn a b (3 * t + 2))) (sz xs (crn a b (3 * t + 2)))) (wx, wy, wz) lv (j + 1) q ∧ l ++ o = l0 ++ q := by
                intro o ho
                obtain ⟨q, hq, hl⟩ := HQ.out
                have hk3 := HKK.out
                have e1 : (Xa, Ya, Za) = (tri3 (sx xs (crn a b (3 * t))) (sy xs (crn a b (3 * t))) (sz xs (crn a b (3 * t))) (sx xs (crn a b (3 * t + 1))) (sy xs (crn a b (3 * t + 1))) (sz xs (crn a b (3 * t + 1))) (sx xs (crn a b (3 * t + 2))) (sy xs (crn a b (3 * t + 2))) (sz xs (crn a b (3 * t + 2)))) j := by rw [tri3_at xs a b t j hlj, ← hk3, ← hia, ← hpa, hXa, hYa, hZa]
                have e2 : (Xb, Yb, Zb) = (tri3 (sx xs (crn a b (3 * t))) (sy xs (crn a b (3 * t))) (sz xs (crn a b (3 * t))) (sx xs (crn a b (3 * t + 1))) (sy xs (crn a b (3 * t + 1))) (sz xs (crn a b (3 * t + 1))) (sx xs (crn a b (3 * t + 2))) (sy xs (crn a b (3 * t + 2))) (sz xs (crn a b (3 * t + 2)))) ((j + 1) % 3) := by rw [tri3_at xs a b t _ (by omega), ← hk3, ← hjr, ← hib, ← hpb, hXb, hYb, hZb]
                rw [e1, e2] at ho
                exact ⟨q ++ o, ⟨q, o, hq, ho, rfl⟩, by rw [hl, List.append_assoc]⟩
              exact h
            rw [← hXa] at c0
            rw [← hYa] at c1
            rw [← hZa] at c2
            rw [← hXb] at c3
            rw [← hYb] at c4
            rw [← hZb] at c5
            have wa : IntKind.i64.wrap ((kk : Int) + (j : Int)) = (ia : Int) := by rw [IntKind.wrap_i64]; omega
            have wb : IntKind.i64.wrap ((kk : Int) + (jr : Int)) = (ib : Int) := by rw [IntKind.wrap_i64]; omega
            have p0 : (0 : Int) ≤ (pa : Int) := by omega
            have p1 : (pa : Int) < (n : Int) := by omega
            have q0 : (0 : Int) ≤ (pb : Int) := by omega
            have q1 : (pb : Int) < (n : Int) := by omega
            have i0' : (0 : Int) ≤ (ia : Int) := by omega
            have i1' : (ia : Int) < (L : Int) := by omega
            have i2' : (0 : Int) ≤ (ib : Int) := by omega
            have i3' : (ib : Int) < (L : Int) := by omega
            obtain ⟨i0, hi, hz0, hz1, hz2⟩ := info_parts infoSpot
            have hlj' : (j : Int) < 3 := by omega
            rw [hib, hjr] at kb
            clear wb i2' i3' hjr hj1 hjr3
            clear hXa hYa hZa hXb hYb hZb hW hB0w hB hpa hpb hia hib
            go_wp2_with fail
            refine (l04Dot_calls _ _ _ _ _ _ _).mono ?_
            rintro e w1x ⟨d1, rfl, hd1, hdl1, hB1⟩
            have hc := rd_of hB1
            have hBW1 : Below wr.heap.size wr w1x := ((((Below.refl wr.heap.size wr).alloc (Nat.le_refl _) _).alloc (by simp) _).trans (hB1.mono (by simp; omega)))
            have a00 : w1x.cell? ⟨wr.heap.size, 0, none⟩ = some (.float .f32 Xa) := by rw [hc _ _ (by simp; try omega)]; first | (simp [go_sem]; done) | (simp [go_sem, World.alloc]; done)
            have a01 : w1x.cell? ⟨wr.heap.size, 1, none⟩ = some (.float .f32 Ya) := by rw [hc _ _ (by simp; try omega)]; first | (simp [go_sem]; done) | (simp [go_sem, World.alloc]; done)
            have a02 : w1x.cell? ⟨wr.heap.size, 2, none⟩ = some (.float .f32 Za) := by rw [hc _ _ (by simp; try omega)]; first | (simp [go_sem]; done) | (simp [go_sem, World.alloc]; done)
            have a10 : w1x.cell? ⟨wr.heap.size + 1, 0, none⟩ = some (.float .f32 Xb) := by rw [hc _ _ (by simp; try omega)]; first | (simp [go_sem]; done) | (simp [go_sem, World.alloc]; done)
            have a11 : w1x.cell? ⟨wr.heap.size + 1, 1, none⟩ = some (.float .f32 Yb) := by rw [hc _ _ (by simp; try omega)]; first | (simp [go_sem]; done) | (simp [go_sem, World.alloc]; done)
            have a12 : w1x.cell? ⟨wr.heap.size + 1, 2, none⟩ = some (.float .f32 Zb) := by rw [hc _ _ (by simp; try omega)]; first | (simp [go_sem]; done) | (simp [go_sem, World.alloc]; done)
            have a20 : w1x.cell? ⟨w.heap.size, 0, none⟩ = some (.float .f32 wx) := (hBW1.cell hb1).trans v0
            have a21 : w1x.cell? ⟨w.heap.size, 1, none⟩ = some (.float .f32 wy) := (hBW1.cell hb1).trans v1
            have a22 : w1x.cell? ⟨w.heap.size, 2, none⟩ = some (.float .f32 wz) := (hBW1.cell hb1).trans v2
            have hs1 := hB1.size
            simp at hs1
            have he0 : wr.heap.size < w1x.heap.size := by omega
            have he1 : wr.heap.size + 1 < w1x.heap.size := by omega
            have he2 : w.heap.size < w1x.heap.size := by omega
            have HB1x := Frame.hid hBW1
            clear hc hB1 hBW1 ka kb c0 c1 c2 c3 c4 c5 v0 v1 v2
            go_wp2_with (refine wpList_arith rfl _ _ _ _ _ rfl rfl _ _ _ rfl rfl ?_; intro g1 n1 hsub1 hl1)
            refine (l04Dot_calls _ _ _ _ _ _ _).mono ?_
            rintro e w2 ⟨d2, rfl, hd2, hdl2, hB2⟩
            have hc := rd_of hB2
            have b00 : w2.cell? ⟨wr.heap.size, 0, none⟩ = some (.float .f32 Xa) := by rw [hc _ _ (by simp; try omega)]; simp [go_sem]; assumption
            have b01 : w2.cell? ⟨wr.heap.size, 1, none⟩ = some (.float .f32 Ya) := by rw [hc _ _ (by simp; try omega)]; simp [go_sem]; assumption
            have b02 : w2.cell? ⟨wr.heap.size, 2, none⟩ = some (.float .f32 Za) := by rw [hc _ _ (by simp; try omega)]; simp [go_sem]; assumption
            have b10 : w2.cell? ⟨wr.heap.size + 1, 0, none⟩ = some (.float .f32 Xb) := by rw [hc _ _ (by simp; try omega)]; simp [go_sem]; assumption
            have b11 : w2.cell? ⟨wr.heap.size + 1, 1, none⟩ = some (.float .f32 Yb) := by rw [hc _ _ (by simp; try omega)]; simp [go_sem]; assumption
            have b12 : w2.cell? ⟨wr.heap.size + 1, 2, none⟩ = some (.float .f32 Zb) := by rw [hc _ _ (by simp; try omega)]; simp [go_sem]; assumption
            have b20 : w2.cell? ⟨w.heap.size, 0, none⟩ = some (.float .f32 wx) := by rw [hc _ _ (by simp; try omega)]; simp [go_sem]; assumption
            have b21 : w2.cell? ⟨w.heap.size, 1, none⟩ = some (.float .f32 wy) := by rw [hc _ _ (by simp; try omega)]; simp [go_sem]; assumption
            have b22 : w2.cell? ⟨w.heap.size, 2, none⟩ = some (.float .f32 wz) := by rw [hc _ _ (by simp; try omega)]; simp [go_sem]; assumption
            have hs2 := hB2.size
            simp at hs2
            have he3 : wr.heap.size + 1 < w2.heap.size := by omega
            have HB2 := Frame.hid hB2
            clear hc hB2 a00 a01 a02 a10 a11 a12 a20 a21 a22
            go_wp2_with fail
            refine upon_arith _ _ _ _ _ rfl ?_
            intro g2 n2 hsub2 hl2
            have HBW2 : Hid (Below wr.heap.size wr w2) := HB1x.out.trans (((below_drewN (Below.refl _ _) _).trans HB2.out).mono (Nat.le_of_lt he0))
            have HSD := Frame.hid (And.intro hd1 (And.intro hsub1 (And.intro hd2 hsub2)))
            clear hd1 hsub1 hd2 hsub2 hl1 hl2 hdl1 hdl2 HB1x HB2
            go_wp2_with fail
            · rename_i hcmp
              obtain ⟨w3, hw3⟩ : ∃ w3, w3 = w2.drewN n2 := ⟨_, rfl⟩
              have hBW3 : Below wr.heap.size wr w3 := by rw [hw3]; exact below_drewN HBW2.out _
              have hsz3 : wr.heap.size + 1 < w3.heap.size := by rw [hw3]; simpa using he3
              have HO3 := Frame.hid (HO.out.kept hBW3)
              have HK3 := Frame.hid (HB.out.trans (hBW3.mono HB.out.size))
              have hnb : ∀ k, wr.heap.size ≤ k → (u13 : Value).ownBlock ≠ some k := fun k hk e => by have := (World.ownsRow.lt HO.out k e).2; omega
              have e00 : w3.cell? ⟨wr.heap.size, 0, none⟩ = some (.float .f32 Xa) := by rw [hw3]; simpa using b00
              have e01 : w3.cell? ⟨wr.heap.size, 1, none⟩ = some (.float .f32 Ya) := by rw [hw3]; simpa using b01
              have e02 : w3.cell? ⟨wr.heap.size, 2, none⟩ = some (.float .f32 Za) := by rw [hw3]; simpa using b02
              have e10 : w3.cell? ⟨wr.heap.size + 1, 0, none⟩ = some (.float .f32 Xb) := by rw [hw3]; simpa using b10
              have e11 : w3.cell? ⟨wr.heap.size + 1, 1, none⟩ = some (.float .f32 Yb) := by rw [hw3]; simpa using b11
              have e12 : w3.cell? ⟨wr.heap.size + 1, 2, none⟩ = some (.float .f32 Zb) := by rw [hw3]; simpa using b12
              have hkk : ∀ W, KeepV w3 u13 W → (W.cell? ⟨wr.heap.size, 0, none⟩ = some (.float .f32 Xa) ∧ W.cell? ⟨wr.heap.size, 1, none⟩ = some (.float .f32 Ya) ∧ W.cell? ⟨wr.heap.size, 2, none⟩ = some (.float .f32 Za) ∧ W.cell? ⟨wr.heap.size + 1, 0, none⟩ = some (.float .f32 Xb) ∧ W.cell? ⟨wr.heap.size + 1, 1, none⟩ = some (.float .f32 Yb) ∧ W.cell? ⟨wr.heap.size + 1, 2, none⟩ = some (.float .f32 Zb)) := fun W h => ⟨(h.cell (by omega) (hnb _ (by omega))).trans e00, (h.cell (by omega) (hnb _ (by omega))).trans e01, (h.cell (by omega) (hnb _ (by omega))).trans e02, (h.cell (by omega) (hnb _ (by omega))).trans e10, (h.cell (by omega) (hnb _ (by omega))).trans e11, (h.cell (by omega) (hnb _ (by omega))).trans e12⟩
              have HKK := Frame.hid hkk
              rw [← hw3]
              clear hkk hw3 e00 e01 e02 e10 e11 e12 b00 b01 b02 b10 b11 b12 b20 b21 b22 hBW3 hnb
              refine region_hand 14 (fun W => KeepV w3 u13 W) (by kernel_rfl) ?_
              have hW0 : Below w3.heap.size w3 w3.drew := (Below.refl _ _).drew
              have hS0 : KeepV w3 u13 w3.drew := KeepV.of hW0
              generalize w3.drew = wd at hW0 hS0 ⊢
              refine' wpEnd_take 0 rfl (by kernel_rfl) hS0 (Or.inl ⟨by rfl, fun wq hSq => _⟩) _
              rotate_left
              · (obtain ⟨q0, q1, q2, q3, q4, q5⟩ := HKK.out _ hSq; go_simp; (try with_reducible rfl))
              simp only [Act.put, List.setIfInBounds_toArray, List.set_cons_zero, List.set_cons_succ]
              refine' wpEnd_take 1 rfl (by kernel_rfl) hS0 (Or.inl ⟨by rfl, fun wq hSq => _⟩) _
              rotate_left
              · (obtain ⟨q0, q1, q2, q3, q4, q5⟩ := HKK.out _ hSq; go_simp; (try with_reducible rfl))
              simp only [Act.put, List.setIfInBounds_toArray, List.set_cons_zero, List.set_cons_succ]
              refine' wpEnd_take 2 rfl (by kernel_rfl) hS0 (Or.inl ⟨by rfl, fun wq hSq => _⟩) _
              rotate_left
              · (obtain ⟨q0, q1, q2, q3, q4, q5⟩ := HKK.out _ hSq; go_simp; (try with_reducible rfl))
              simp only [Act.put, List.setIfInBounds_toArray, List.set_cons_zero, List.set_cons_succ]
              refine' wpEnd_take 3 rfl (by kernel_rfl) hS0 (Or.inl ⟨by rfl, fun wq hSq => _⟩) _
              rotate_left
              · (obtain ⟨q0, q1, q2, q3, q4, q5⟩ := HKK.out _ hSq; go_simp; (try with_reducible rfl))
              simp only [Act.put, List.setIfInBounds_toArray, List.set_cons_zero, List.set_cons_succ]
              refine' wpEnd_take 5 rfl (by kernel_rfl) hS0 (Or.inl ⟨by rfl, fun wq hSq => _⟩) _
              rotate_left
              · (obtain ⟨q0, q1, q2, q3, q4, q5⟩ := HKK.out _ hSq; go_simp; (try with_reducible rfl))
              simp only [Act.put, List.setIfInBounds_toArray, List.set_cons_zero, List.set_cons_succ]
              refine' wpEnd_take 6 rfl (by kernel_rfl) hS0 (Or.inl ⟨by rfl, fun wq hSq => _⟩) _
              rotate_left
              · (obtain ⟨q0, q1, q2, q3, q4, q5⟩ := HKK.out _ hSq; go_simp; (try with_reducible rfl))
              simp only [Act.put, List.setIfInBounds_toArray, List.set_cons_zero, List.set_cons_succ]
              refine' wpEnd_take 7 rfl (by kernel_rfl) hS0 (Or.inl ⟨by rfl, fun wq hSq => _⟩) _
              rotate_left
              · (obtain ⟨q0, q1, q2, q3, q4, q5⟩ := HKK.out _ hSq; go_simp; (try with_reducible rfl))
              simp only [Act.put, List.setIfInBounds_toArray, List.set_cons_zero, List.set_cons_succ]
              refine wpEnd_ready [4, 8] (by kernel_rfl) rfl (AllE.cons rfl (fun K hK => ?_) (AllE.cons rfl (fun K hK => ?_) AllE.nil))
              · go_simp
                go_at_call 67
                refine (l04Less_calls _ _ _ _ _ _ _).mono ?_
                rintro e_ wl ⟨l1, l2, l3, rfl, hL, hBa⟩
                have HL := Frame.hid hL
                have hWl : Below w3.heap.size w3 wl := hW0.trans (hBa.mono hW0.size)
                clear hL hBa
                refine hK.out _ _ (.inr (KeepV.of hWl)) ?_
                clear hK K
                (try simp only [Act.put, List.setIfInBounds_toArray, List.set_cons_zero, List.set_cons_succ])
                refine wpEnd_ready [8] (by kernel_rfl) rfl (AllE.cons rfl (fun K hK => ?_) AllE.nil)
                refine step_arith rfl _ _ _ _ _ rfl rfl _ _ _ rfl rfl ?_
                intro s1 n3 hsub3 _
                have HSUB3Q := Frame.hid hsub3
                clear hsub3
                have hWs : Below w3.heap.size w3 (wl.drewN n3) := below_drewN hWl n3
                generalize wl.drewN n3 = ws at hWs ⊢
                refine hK.out _ _ (.inr (KeepV.of hWs)) ?_
                clear hK K
                (try simp only [Act.put, List.setIfInBounds_toArray, List.set_cons_zero, List.set_cons_succ])
                refine wpEnd_ready [9] (by kernel_rfl) rfl (AllE.cons rfl (fun K hK => ?_) AllE.nil)
                refine step_arith rfl _ _ _ _ _ rfl rfl _ _ _ rfl rfl ?_
                intro q1 n4 hquo _
                have HQUOQ := Frame.hid hquo
                clear hquo
                have hWq : Below w3.heap.size w3 (ws.drewN n4) := below_drewN hWs n4
                generalize ws.drewN n4 = wq at hWq ⊢
                refine hK.out _ _ (.inr (KeepV.of hWq)) ?_
                clear hK K
                (try simp only [Act.put, List.setIfInBounds_toArray, List.set_cons_zero, List.set_cons_succ])
                refine wpEnd_ready [10] (by kernel_rfl) rfl (AllE.cons rfl (fun K hK => ?_) AllE.nil)
                go_simp
                go_at_call 77
                refine (l04Times_calls _ _ _ _ _).mono ?_
                rintro e_ wt ⟨t1, t2, t3, rfl, hT, hBa⟩
                have HT := Frame.hid hT
                have hWt : Below w3.heap.size w3 wt := hWq.trans (hBa.mono hWq.size)
                clear hT hBa
                refine hK.out _ _ (.inr (KeepV.of hWt)) ?_
                clear hK K
                (try simp only [Act.put, List.setIfInBounds_toArray, List.set_cons_zero, List.set_cons_succ])
                refine wpEnd_ready [11] (by kernel_rfl) rfl (AllE.cons rfl (fun K hK => ?_) AllE.nil)
                go_simp
                go_at_call 76
                refine (l04Add_calls _ _ _ _ _ _ _).mono ?_
                rintro e_ wp ⟨p1, p2, p3, rfl, hP, hBa⟩
                have HP := Frame.hid hP
                have hWp : Below w3.heap.size w3 wp := hWt.trans (hBa.mono hWt.size)
                clear hP hBa
                refine hK.out _ _ (.inr (KeepV.of hWp)) ?_
                clear hK K
                (try simp only [Act.put, List.setIfInBounds_toArray, List.set_cons_zero, List.set_cons_succ])
                refine wpEnd_ready [12] (by kernel_rfl) rfl (AllE.cons rfl (fun K hK => ?_) AllE.nil)
                go_simp
                have hWa := hWp.alloc hWp.size (.cells #[.float .f32 p1, .float .f32 p2, .float .f32 p3] 57)
                refine hK.out _ _ (.inr (KeepV.of hWa)) ?_
                clear hK K
                (try simp only [Act.put, List.setIfInBounds_toArray, List.set_cons_zero, List.set_cons_succ])
                refine wpEnd_ready [13] (by kernel_rfl) rfl (AllE.cons rfl (fun K hK => ?_) AllE.nil)
                refine step_append_any rfl _ _ 26 rfl (w1.heap.size) 57 i0 (.agg #[.float .f32 0, .float .f32 0, .float .f32 0]) 3 12 Try.underlying26 hi hz0 hz1 hz2 rfl (by decide) u13 l.length (cellsS l) rfl ?_ ⟨wp.heap.size, 0, none⟩ 1 1 (cellsS [(p1, p2, p3)]) rfl rfl (news3' _ _ _ _ _) (cellsS_one _) (by unfold maxLen; omega) (by omega) (by have := hWp.size; have := HK3.out.size; simp; omega) ?_
                · exact (HO3.out.kept hWa)
                intro v3 w5 hown3 hgrow3 hnil3
                have hS3 : Below (w1.heap.size) w3 w5 := Below.grown (hWa.mono HK3.out.size) hgrow3 (by have := hWp.size; have := HK3.out.size; simp; omega) (fun k' hk' => (World.ownsRow.lt HO3.out k' hk').1)
                have hKV : KeepV w3 u13 w5 := (KeepV.of hWa).grown hgrow3
                have HOX : Hid (OwnedS w5 (w1.heap.size) v3 (l ++ [(p1, p2, p3)])) := own_snoc hown3
                have HS3 := Frame.hid hS3
                clear hgrow3 hnil3 hown3 hS3
                refine hK.out _ _ (.inr hKV) ?_
                clear hK K
                (try simp only [Act.put, List.setIfInBounds_toArray, List.set_cons_zero, List.set_cons_succ])
                refine wpEnd_ready [14] (by kernel_rfl) rfl (AllE.cons rfl (fun K hK => ?_) AllE.nil)
                go_simp
                refine hK.out _ _ (.inl rfl) ?_
                clear hK K
                refine wpEnd_done (by kernel_rfl) ?_
                go_wp2_with fail
                go_roundw
                case rel => exact ⟨j + 1, l ++ [(p1, p2, p3)], by omega, by go_num, HSTEP.out _ (⟨_, _, _, _, HSD.out.1, HSD.out.2.1, HSD.out.2.2.1, HSD.out.2.2.2, .inr ⟨geW_ne hcmp, _, _, _, _, _, _, _, _, _, _, _, HL.out, HSUB3Q.out, HQUOQ.out, HT.out, HP.out, rfl⟩⟩), HOX.out, HK3.out.trans HS3.out⟩
                case measure => simp [intOf]; omega
              · refine step_arith rfl _ _ _ _ _ rfl rfl _ _ _ rfl rfl ?_
                intro s1 n3 hsub3 _
                have HSUB3Q := Frame.hid hsub3
                clear hsub3
                have hW1 : Below w3.heap.size w3 (wd.drewN n3) := below_drewN hW0 n3
                generalize wd.drewN n3 = ws at hW1 ⊢
                refine hK.out _ _ (.inr (KeepV.of hW1)) ?_
                clear hK K
                (try simp only [Act.put, List.setIfInBounds_toArray, List.set_cons_zero, List.set_cons_succ])
                refine wpEnd_ready [4, 9] (by kernel_rfl) rfl (AllE.cons rfl (fun K hK => ?_) (AllE.cons rfl (fun K hK => ?_) AllE.nil))
                · go_simp
                  go_at_call 67
                  refine (l04Less_calls _ _ _ _ _ _ _).mono ?_
                  rintro e_ wl ⟨l1, l2, l3, rfl, hL, hBa⟩
                  have HL := Frame.hid hL
                  have hWl : Below w3.heap.size w3 wl := hW1.trans (hBa.mono hW1.size)
                  clear hL hBa
                  refine hK.out _ _ (.inr (KeepV.of hWl)) ?_
                  clear hK K
                  (try simp only [Act.put, List.setIfInBounds_toArray, List.set_cons_zero, List.set_cons_succ])
                  refine wpEnd_ready [9] (by kernel_rfl) rfl (AllE.cons rfl (fun K hK => ?_) AllE.nil)
                  refine step_arith rfl _ _ _ _ _ rfl rfl _ _ _ rfl rfl ?_
                  intro q1 n4 hquo _
                  have HQUOQ := Frame.hid hquo
                  clear hquo
                  have hWq : Below w3.heap.size w3 (wl.drewN n4) := below_drewN hWl n4
                  generalize wl.drewN n4 = wq at hWq ⊢
                  refine hK.out _ _ (.inr (KeepV.of hWq)) ?_
                  clear hK K
                  (try simp only [Act.put, List.setIfInBounds_toArray, List.set_cons_zero, List.set_cons_succ])
                  refine wpEnd_ready [10] (by kernel_rfl) rfl (AllE.cons rfl (fun K hK => ?_) AllE.nil)
                  go_simp
                  go_at_call 77
                  refine (l04Times_calls _ _ _ _ _).mono ?_
                  rintro e_ wt ⟨t1, t2, t3, rfl, hT, hBa⟩
                  have HT := Frame.hid hT
                  have hWt : Below w3.heap.size w3 wt := hWq.trans (hBa.mono hWq.size)
                  clear hT hBa
                  refine hK.out _ _ (.inr (KeepV.of hWt)) ?_
                  clear hK K
                  (try simp only [Act.put, List.setIfInBounds_toArray, List.set_cons_zero, List.set_cons_succ])
                  refine wpEnd_ready [11] (by kernel_rfl) rfl (AllE.cons rfl (fun K hK => ?_) AllE.nil)
                  go_simp
                  go_at_call 76
                  refine (l04Add_calls _ _ _ _ _ _ _).mono ?_
                  rintro e_ wp ⟨p1, p2, p3, rfl, hP, hBa⟩
                  have HP := Frame.hid hP
                  have hWp : Below w3.heap.size w3 wp := hWt.trans (hBa.mono hWt.size)
                  clear hP hBa
                  refine hK.out _ _ (.inr (KeepV.of hWp)) ?_
                  clear hK K
                  (try simp only [Act.put, List.setIfInBounds_toArray, List.set_cons_zero, List.set_cons_succ])
                  refine wpEnd_ready [12] (by kernel_rfl) rfl (AllE.cons rfl (fun K hK => ?_) AllE.nil)
                  go_simp
                  have hWa := hWp.alloc hWp.size (.cells #[.float .f32 p1, .float .f32 p2, .float .f32 p3] 57)
                  refine hK.out _ _ (.inr (KeepV.of hWa)) ?_
                  clear hK K
                  (try simp only [Act.put, List.setIfInBounds_toArray, List.set_cons_zero, List.set_cons_succ])
                  refine wpEnd_ready [13] (by kernel_rfl) rfl (AllE.cons rfl (fun K hK => ?_) AllE.nil)
                  refine step_append_any rfl _ _ 26 rfl (w1.heap.size) 57 i0 (.agg #[.float .f32 0, .float .f32 0, .float .f32 0]) 3 12 Try.underlying26 hi hz0 hz1 hz2 rfl (by decide) u13 l.length (cellsS l) rfl ?_ ⟨wp.heap.size, 0, none⟩ 1 1 (cellsS [(p1, p2, p3)]) rfl rfl (news3' _ _ _ _ _) (cellsS_one _) (by unfold maxLen; omega) (by omega) (by have := hWp.size; have := HK3.out.size; simp; omega) ?_
                  · exact (HO3.out.kept hWa)
                  intro v3 w5 hown3 hgrow3 hnil3
                  have hS3 : Below (w1.heap.size) w3 w5 := Below.grown (hWa.mono HK3.out.size) hgrow3 (by have := hWp.size; have := HK3.out.size; simp; omega) (fun k' hk' => (World.ownsRow.lt HO3.out k' hk').1)
                  have hKV : KeepV w3 u13 w5 := (KeepV.of hWa).grown hgrow3
                  have HOX : Hid (OwnedS w5 (w1.heap.size) v3 (l ++ [(p1, p2, p3)])) := own_snoc hown3
                  have HS3 := Frame.hid hS3
                  clear hgrow3 hnil3 hown3 hS3
                  refine hK.out _ _ (.inr hKV) ?_
                  clear hK K
                  (try simp only [Act.put, List.setIfInBounds_toArray, List.set_cons_zero, List.set_cons_succ])
                  refine wpEnd_ready [14] (by kernel_rfl) rfl (AllE.cons rfl (fun K hK => ?_) AllE.nil)
                  go_simp
                  refine hK.out _ _ (.inl rfl) ?_
                  clear hK K
                  refine wpEnd_done (by kernel_rfl) ?_
                  go_wp2_with fail
                  go_roundw
                  case rel => exact ⟨j + 1, l ++ [(p1, p2, p3)], by omega, by go_num, HSTEP.out _ (⟨_, _, _, _, HSD.out.1, HSD.out.2.1, HSD.out.2.2.1, HSD.out.2.2.2, .inr ⟨geW_ne hcmp, _, _, _, _, _, _, _, _, _, _, _, HL.out, HSUB3Q.out, HQUOQ.out, HT.out, HP.out, rfl⟩⟩), HOX.out, HK3.out.trans HS3.out⟩
                  case measure => simp [intOf]; omega
                · refine step_arith rfl _ _ _ _ _ rfl rfl _ _ _ rfl rfl ?_
                  intro q1 n4 hquo _
                  have HQUOQ := Frame.hid hquo
                  clear hquo
                  have hWq : Below w3.heap.size w3 (ws.drewN n4) := below_drewN hW1 n4
                  generalize ws.drewN n4 = wq at hWq ⊢
                  refine hK.out _ _ (.inr (KeepV.of hWq)) ?_
                  clear hK K
                  (try simp only [Act.put, List.setIfInBounds_toArray, List.set_cons_zero, List.set_cons_succ])
                  refine wpEnd_ready [4] (by kernel_rfl) rfl (AllE.cons rfl (fun K hK => ?_) AllE.nil)
                  go_simp
                  go_at_call 67
                  refine (l04Less_calls _ _ _ _ _ _ _).mono ?_
                  rintro e_ wl ⟨l1, l2, l3, rfl, hL, hBa⟩
                  have HL := Frame.hid hL
                  have hWl : Below w3.heap.size w3 wl := hWq.trans (hBa.mono hWq.size)
                  clear hL hBa
                  refine hK.out _ _ (.inr (KeepV.of hWl)) ?_
                  clear hK K
                  (try simp only [Act.put, List.setIfInBounds_toArray, List.set_cons_zero, List.set_cons_succ])
                  refine wpEnd_ready [10] (by kernel_rfl) rfl (AllE.cons rfl (fun K hK => ?_) AllE.nil)
                  go_simp
                  go_at_call 77
                  refine (l04Times_calls _ _ _ _ _).mono ?_
                  rintro e_ wt ⟨t1, t2, t3, rfl, hT, hBa⟩
                  have HT := Frame.hid hT
                  have hWt : Below w3.heap.size w3 wt := hWl.trans (hBa.mono hWl.size)
                  clear hT hBa
                  refine hK.out _ _ (.inr (KeepV.of hWt)) ?_
                  clear hK K
                  (try simp only [Act.put, List.setIfInBounds_toArray, List.set_cons_zero, List.set_cons_succ])
                  refine wpEnd_ready [11] (by kernel_rfl) rfl (AllE.cons rfl (fun K hK => ?_) AllE.nil)
                  go_simp
                  go_at_call 76
                  refine (l04Add_calls _ _ _ _ _ _ _).mono ?_
                  rintro e_ wp ⟨p1, p2, p3, rfl, hP, hBa⟩
                  have HP := Frame.hid hP
                  have hWp : Below w3.heap.size w3 wp := hWt.trans (hBa.mono hWt.size)
                  clear hP hBa
                  refine hK.out _ _ (.inr (KeepV.of hWp)) ?_
                  clear hK K
                  (try simp only [Act.put, List.setIfInBounds_toArray, List.set_cons_zero, List.set_cons_succ])
                  refine wpEnd_ready [12] (by kernel_rfl) rfl (AllE.cons rfl (fun K hK => ?_) AllE.nil)
                  go_simp
                  have hWa := hWp.alloc hWp.size (.cells #[.float .f32 p1, .float .f32 p2, .float .f32 p3] 57)
                  refine hK.out _ _ (.inr (KeepV.of hWa)) ?_
                  clear hK K
                  (try simp only [Act.put, List.setIfInBounds_toArray, List.set_cons_zero, List.set_cons_succ])
                  refine wpEnd_ready [13] (by kernel_rfl) rfl (AllE.cons rfl (fun K hK => ?_) AllE.nil)
                  refine step_append_any rfl _ _ 26 rfl (w1.heap.size) 57 i0 (.agg #[.float .f32 0, .float .f32 0, .float .f32 0]) 3 12 Try.underlying26 hi hz0 hz1 hz2 rfl (by decide) u13 l.length (cellsS l) rfl ?_ ⟨wp.heap.size, 0, none⟩ 1 1 (cellsS [(p1, p2, p3)]) rfl rfl (news3' _ _ _ _ _) (cellsS_one _) (by unfold maxLen; omega) (by omega) (by have := hWp.size; have := HK3.out.size; simp; omega) ?_
                  · exact (HO3.out.kept hWa)
                  intro v3 w5 hown3 hgrow3 hnil3
                  have hS3 : Below (w1.heap.size) w3 w5 := Below.grown (hWa.mono HK3.out.size) hgrow3 (by have := hWp.size; have := HK3.out.size; simp; omega) (fun k' hk' => (World.ownsRow.lt HO3.out k' hk').1)
                  have hKV : KeepV w3 u13 w5 := (KeepV.of hWa).grown hgrow3
                  have HOX : Hid (OwnedS w5 (w1.heap.size) v3 (l ++ [(p1, p2, p3)])) := own_snoc hown3
                  have HS3 := Frame.hid hS3
                  clear hgrow3 hnil3 hown3 hS3
                  refine hK.out _ _ (.inr hKV) ?_
                  clear hK K
                  (try simp only [Act.put, List.setIfInBounds_toArray, List.set_cons_zero, List.set_cons_succ])
                  refine wpEnd_ready [14] (by kernel_rfl) rfl (AllE.cons rfl (fun K hK => ?_) AllE.nil)
                  go_simp
                  refine hK.out _ _ (.inl rfl) ?_
                  clear hK K
                  refine wpEnd_done (by kernel_rfl) ?_
                  go_wp2_with fail
                  go_roundw
                  case rel => exact ⟨j + 1, l ++ [(p1, p2, p3)], by omega, by go_num, HSTEP.out _ (⟨_, _, _, _, HSD.out.1, HSD.out.2.1, HSD.out.2.2.1, HSD.out.2.2.2, .inr ⟨geW_ne hcmp, _, _, _, _, _, _, _, _, _, _, _, HL.out, HSUB3Q.out, HQUOQ.out, HT.out, HP.out, rfl⟩⟩), HOX.out, HK3.out.trans HS3.out⟩
                  case measure => simp [intOf]; omega
            · rename_i hcmp
              go_roundw
              case rel => exact ⟨j + 1, l ++ [], by omega, by go_num, HSTEP.out _ (⟨_, _, _, _, HSD.out.1, HSD.out.2.1, HSD.out.2.2.1, HSD.out.2.2.2, .inl ⟨geW_eq hcmp, rfl⟩⟩), by rw [List.append_nil]; exact (HO.out.kept HBW2.out).drewN' _, HB.out.trans ((below_drewN HBW2.out _).mono HB.out.size)⟩
              case measure => simp [intOf]; omega
          · obtain rfl : j = 3 := by omega
            obtain ⟨q, hq, hlq⟩ := HQ.out
            have HA2 : Hid (CutA xs a b (wx, wy, wz) lv (t + 1) l) := by
              have h : CutA xs a b (wx, wy, wz) lv (t + 1) l := ⟨l0, q, HA.out, hq, hlq⟩
              exact h
            have w3 : IntKind.i64.wrap ((kk : Int) + 3) = ((kk + 3 : Nat) : Int) := by rw [IntKind.wrap_i64]; omega
            clear hq hlq hB
            go_wp2_with fail
            go_roundw
            case rel => exact ⟨t + 1, kk + 3, l, HTT2.out, by have := HKK.out; omega, by go_num, HA2.out, HO.out, HB.out⟩
            case measure => simp [intOf]; omega
      · have htT : t = T := by have := HL3.out; omega
        subst htT
        obtain ⟨A2, c2, rfl, hrd⟩ := hO.rd
        have HO := Frame.hid hO
        have HB := Frame.hid hB
        have HAS := Frame.hid (l04Spots_calls A2 l0 c2 wr (by omega) hrd)
        have hsw := hB.size
        clear hB hrd hO hkk
        go_wp2_with fail
        refine HAS.out.mono ?_
        rintro e w2 ⟨rfl, hB2⟩
        have HBE := Frame.hid (HB1.out.trans ((HB.out.trans (hB2.mono hsw)).mono (Nat.le_of_lt hww1)))
        have HOE := Frame.hid ((HO.out.kept hB2).mono' (Nat.le_of_lt hww1))
        clear hB2
        cases hfl : finS l0
        · go_wp2_with fail
          go_ret2
          exact ⟨_, [], _, rfl, .inr ⟨HALL.out, a, b, rfl, rfl, l0, by rw [← HTT.out]; exact HA.out, hfl.symm, by rw [hfl]; rfl⟩, OwnedS.nil _ _, HBE.out⟩
        · go_wp2_with fail
          go_ret2
          exact ⟨_, l0, _, rfl, .inr ⟨HALL.out, a, b, rfl, rfl, l0, by rw [← HTT.out]; exact HA.out, hfl.symm, by rw [hfl]; rfl⟩, HOE.out, HBE.out⟩

end Go.Proofs.Ytnhpiebddelebaa
