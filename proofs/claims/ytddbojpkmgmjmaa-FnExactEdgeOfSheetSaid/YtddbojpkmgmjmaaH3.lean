/-
  EdgeOfSheet, the specification's side.
-/
import Derived.Test.YtddbojpkmgmjmaaH2
namespace Go.Proofs.Ytddbojpkmgmjmaa
open Go.RowKit Fl Go.WideShapes Go.Deep
attribute [local go_sem] kstore_f kalloc_drewN kset_drewN hstore_i hstore_s

theorem partL_part (xs : List (Nat × Nat × Nat)) (f g : Nat → Nat) (M m : Nat) (h : ∀ i, i < m → g i < M) : partL (partL xs f M) g m = partL xs (fun i => f (g i)) m := by
  unfold partL
  refine List.map_congr_left fun i hi => ?_
  obtain ⟨h1, h2, h3⟩ := partL_get xs f (h i (List.mem_range.1 hi))
  unfold partL at h1 h2 h3
  rw [h1, h2, h3]
theorem flipL_part (p q : Nat) (xs : List (Nat × Nat × Nat)) : flipL p q xs = partL xs (fun k => k % q * p + k / q) (p * q) := rfl
theorem own1 (W : World) (base g : Nat) (hg : g = W.heap.size) (hb : base ≤ W.heap.size) : (W.alloc (.cells #[] 44)).ownsRow base 44 3 (.slice (some ⟨g, 0, none⟩) 0 0) 0 [] := by
  subst hg
  have h := none_litS W
  exact ⟨h.1, h.2.imp id fun ⟨g, cap, cur, h1, h2, h3⟩ => ⟨g, cap, cur, h1, Nat.le_trans hb h2, h3⟩⟩
theorem RdS.news1 {w : World} {b off : Nat} {xs : List (Nat × Nat × Nat)} (h : RdS w (some ⟨b, off, none⟩) xs) (h1 : 0 < xs.length) (o : Obj) : ∀ j u, (cellsS xs)[j]? = some u → (w.alloc o).cell? ((⟨b, off, none⟩ : Addr).add j) = some u := fun j u hj => by
  obtain ⟨hlt, hn⟩ := h.news h1
  have := hn j u hj
  rw [add_plain] at this ⊢
  rw [World.cell?_alloc_past _ _ _ hlt]
  exact this

theorem l00In_true (n a b : Int) (h : a ≤ n ∧ n ≤ b) (w : World) : Calls Try.prog 66 #[.int .i64 n, .int .i64 a, .int .i64 b] w fun e w' => e = .returned (.bool true) ∧ w = w' := (l00In_calls n a b w).mono (by
  rintro e w' ⟨rfl, rfl⟩
  exact ⟨by rw [decide_eq_true h.1, decide_eq_true h.2]; rfl, rfl⟩)


set_option maxRecDepth 100000 in
set_option maxHeartbeats 4000000 in
theorem specEdgeOfSheet_calls (A : Option Addr) (xs : List (Nat × Nat × Nat)) (n : Nat) (hxn : n = xs.length) (a b side : Int) (w : World) (hn : n ≤ 1048576) (hr : RdS w A xs) :
    Calls Try.prog 24 #[.agg #[.int .i64 a, .int .i64 b, .slice A n n], .int .i64 side] w (OutS (edgeB a b xs side) (outL (edgeB a b xs side) (edgeL a b xs side)).length (outL (edgeB a b xs side) (edgeL a b xs side)) w) := by
  have hw : Below w.heap.size w (w.alloc (.cells #[.int .i64 a, .int .i64 b, .slice A n n] 25)) := by (apply bel_of; (repeat (first | apply below_dn | apply below_al)); exact below_st _)
  have HC := Frame.hid (l04Is_calls w.heap.size A xs n n hxn a b _ hn (Sh3.here w a b (.slice A n n) 25) (hr.below hw))
  have HW := Frame.hid hw
  have HR := Frame.hid hr
  have HX := Frame.hid hxn
  clear hr hw hxn
  cases h1 : shB a b xs
  · have H1 := Frame.hid h1
    have hm : edgeB a b xs side = false := by unfold edgeB; rw [h1]; rfl
    rw [hm]
    generalize hP : OutS false _ _ w = P
    have HP := Frame.hid hP
    clear hP h1 hm
    go_enter Try.func24, Try.ntmps24
    go_wp2_with (first | (go_at_call 61; refine (HC.out).mono ?_; rintro e w' ⟨rfl, hB⟩; rw [H1.out]; have hc := rd_of hB; have hz := fz_of hB; have hs := sz_of hB) | (go_at_call 66; refine (l00In_calls _ _ _ _).mono ?_; rintro e w2 ⟨rfl, rfl⟩))
    rw [← HP.out]
    exact ⟨none, 0, rfl, ⟨fun h0 => absurd h0 (by simp [outL])⟩, OwS.nilv _ _, HW.out.trans (hB.mono HW.out.size)⟩
  · have H1 := Frame.hid h1
    obtain ⟨p, q, rfl, rfl, hp, hq, hl⟩ := shB_open HX.out h1
    obtain ⟨bk, off, rfl, -, -⟩ := HR.out.h (by have := HX.out; have : 2 * 2 ≤ p * q := Nat.mul_le_mul hp.1 hq.1; omega)
    have HL := Frame.hid hl
    have hside : edgeB (p : Int) (q : Int) xs side = (decide (0 ≤ side) && decide (side ≤ 3)) := by unfold edgeB; rw [h1]; rfl
    have HSD := Frame.hid hside
    clear h1 hl hside
    by_cases hs0 : 0 ≤ side ∧ side ≤ 3
    · have hK : edgeB (p : Int) (q : Int) xs side = true := by rw [HSD.out]; simp [hs0]
      rw [hK]
      have hs4 : side = 0 ∨ side = 1 ∨ side = 2 ∨ side = 3 := by omega
      clear hs0 hK
      rcases hs4 with rfl | rfl | rfl | rfl
      · obtain ⟨lo, hlo⟩ : ∃ lo, lo = 0 := ⟨_, rfl⟩
        have hlm : lo + p ≤ p * q := by
          rw [hlo]
          have h : 1 * p ≤ q * p := Nat.mul_le_mul_right p (by omega)

          have e : q * p = p * q := Nat.mul_comm _ _
          omega
        have hL : edgeL (p : Int) (q : Int) xs 0 = partL (xs) (fun i => lo + i) p := by
          unfold edgeL edgeM
          rw [Int.toNat_natCast, Int.toNat_natCast]

          refine partL_congr xs (fun i hi => ?_)
          have hi' : i < p := hi

          
          rw [hlo]
          simp [edgeF]
        have hN : (outL true (edgeL (p : Int) (q : Int) xs 0)).length = p := by rw [hL]; exact partL_len _ _ _
        rw [hN]
        rw [show outL true (edgeL (p : Int) (q : Int) xs 0) = partL (xs) (fun i => lo + i) p from hL]
        generalize hP : OutS true _ _ w = P
        have HP := Frame.hid hP
        have hfrom : IntKind.i64.wrap ((p : Int) * ((q : Int) - 1)) = ((q - 1 : Nat) * p : Nat) := by
          have h36 : (q - 1) * p ≤ 5 * 6 := Nat.mul_le_mul (by omega) (by omega)
          rw [show (p : Int) * ((q : Int) - 1) = (((q - 1) * p : Nat) : Int) by rw [show (q : Int) - 1 = ((q - 1 : Nat) : Int) by omega, Int.mul_comm]; push_cast; rfl, IntKind.wrap_i64]
          omega
        have hn36 : p * q ≤ 36 := Nat.mul_le_mul hp.2 hq.2
        clear hfrom
        have hto : IntKind.i64.wrap ((lo : Int) + (p : Int)) = ((lo + p : Nat) : Int) := by rw [IntKind.wrap_i64]; push_cast; omega
        have HLO := Frame.hid hlo
        clear hP hL hN 
        have hq1 : IntKind.i64.wrap ((q : Int) - 1) = (q : Int) - 1 := by rw [IntKind.wrap_i64]; omega
        go_enter Try.func24, Try.ntmps24
        go_wp2_with fail
        refine (HC.out).mono ?_
        rintro e w' ⟨rfl, hB⟩
        rw [H1.out]
        have hS := (Sh3.here w p q (.slice (some ⟨bk, off, none⟩) n n) 25).below hB
        have hB'' := HW.out.trans (hB.mono HW.out.size)
        have HB' := Frame.hid hB''
        have kf : ∀ i, w'.frozen? ⟨w.heap.size, i, none⟩ = false := fun i => by rw [hB.frozen (p := ⟨w.heap.size, i, none⟩) (by simp)]; simp [go_sem]
        have k0 := hS.c0
        have k1 := hS.c1
        have k2 := hS.c2
        have kl := hS.l
        have HS := Frame.hid hS
        clear hB hS hB''
        have hrd : RdS w' (some ⟨bk, off, none⟩) xs := HR.out.below HB'.out
        have hprt := hrd.part lo p (by rw [← HX.out, HL.out]; exact hlm)
        rw [show off + lo * 3 = off by rw [HLO.out]; omega] at hprt
        have hsub : lo + p - lo = p := by omega
        have hlen : (partL xs (fun i => lo + i) p).length = p := partL_len _ _ _
        have HNW := Frame.hid (hprt.news1 (by rw [hlen]; omega))
        have hcl : (cellsS (partL xs (fun i => lo + i) p)).length = p * 3 := by rw [cellsS_len, hlen]
        have HCLN := Frame.hid hcl
        have HLEN := Frame.hid hlen
        have hln : lo + p ≤ n := by rw [HL.out]; exact hlm
        have hnn : n ≤ 36 := by rw [HL.out]; exact hn36
        have hl0 : lo = 0 := HLO.out
        rw [hl0] at hto hln hlm
        clear hprt hlen hcl hrd
        obtain ⟨i0, hi, hz0, hz1, hz2⟩ := info_parts infoSpot
        go_wp2_with (first | (go_at_call 66; refine (l00In_true _ _ _ (by omega) _).mono ?_; rintro e w2 ⟨rfl, rfl⟩) | (at_builtin; refine wpList_append_own _ rfl _ _ 23 rfl w'.heap.size 44 i0 (.agg #[.float .f32 0, .float .f32 0, .float .f32 0]) 3 12 Try.underlying23 hi hz0 hz1 hz2 rfl (by decide) (.slice (some ⟨w'.heap.size, 0, none⟩) 0 0) 0 [] rfl (own1 _ _ _ (by simp) (by simp)) ⟨bk, off, none⟩ p (n - 0) (cellsS (partL (xs) (fun i => lo + i) p)) rfl HCLN.out (HNW.out _) (cellsS_one _) (by unfold maxLen; omega) (by omega) (by simp) ?_; intro v5 w5 hown5 hgrow5 hnil5; have HB5 := Frame.hid (Below.grown (B := w'.heap.size) ((Below.refl _ w').alloc (by simp) _) hgrow5 (by simp) (fun k hk => by injection hk with hk; have hk : w'.heap.size = k := hk; omega)); have HO5 : Hid (OwnedS w5 w'.heap.size v5 (partL (xs) (fun i => lo + i) p)) := Frame.hid (by unfold OwnedS; rw [HLEN.out]; have h := hown5; simp only [Nat.zero_add, List.nil_append] at h; exact h); rw [Nat.zero_add] at hown5; obtain ⟨A5, c5, rfl⟩ := OwS.form (OwS.of hown5); clear hown5 hgrow5 hnil5))
        obtain ⟨A6, c6, e6, hR6, hO6⟩ := rowOut HO5.out HLEN.out
        injection e6 with e6 e7 e8
        subst e6 e8
        rw [← HP.out]
        exact ⟨_, _, rfl, hR6, hO6.mono (HB'.out.size), HB'.out.trans (HB5.out.mono HB'.out.size)⟩
      · obtain ⟨lo, hlo⟩ : ∃ lo, lo = (q - 1) * p := ⟨_, rfl⟩
        have hlm : lo + p ≤ p * q := by
          rw [hlo]
          have h : (q - 1 + 1) * p = q * p := by congr 1; omega
          rw [Nat.succ_mul] at h
          have e : q * p = p * q := Nat.mul_comm _ _
          omega
        have hL : edgeL (p : Int) (q : Int) xs 1 = partL (xs) (fun i => lo + i) p := by
          unfold edgeL edgeM
          rw [Int.toNat_natCast, Int.toNat_natCast]

          refine partL_congr xs (fun i hi => ?_)
          have hi' : i < p := hi

          
          rw [hlo]
          simp [edgeF]
        have hN : (outL true (edgeL (p : Int) (q : Int) xs 1)).length = p := by rw [hL]; exact partL_len _ _ _
        rw [hN]
        rw [show outL true (edgeL (p : Int) (q : Int) xs 1) = partL (xs) (fun i => lo + i) p from hL]
        generalize hP : OutS true _ _ w = P
        have HP := Frame.hid hP
        have hfrom : IntKind.i64.wrap ((p : Int) * ((q : Int) - 1)) = ((q - 1 : Nat) * p : Nat) := by
          have h36 : (q - 1) * p ≤ 5 * 6 := Nat.mul_le_mul (by omega) (by omega)
          rw [show (p : Int) * ((q : Int) - 1) = (((q - 1) * p : Nat) : Int) by rw [show (q : Int) - 1 = ((q - 1 : Nat) : Int) by omega, Int.mul_comm]; push_cast; rfl, IntKind.wrap_i64]
          omega
        have hn36 : p * q ≤ 36 := Nat.mul_le_mul hp.2 hq.2
        rw [← hlo] at hfrom
        have hto : IntKind.i64.wrap ((lo : Int) + (p : Int)) = ((lo + p : Nat) : Int) := by rw [IntKind.wrap_i64]; push_cast; omega
        have HLO := Frame.hid hlo
        clear hP hL hN hlo
        have hq1 : IntKind.i64.wrap ((q : Int) - 1) = (q : Int) - 1 := by rw [IntKind.wrap_i64]; omega
        go_enter Try.func24, Try.ntmps24
        go_wp2_with fail
        refine (HC.out).mono ?_
        rintro e w' ⟨rfl, hB⟩
        rw [H1.out]
        have hS := (Sh3.here w p q (.slice (some ⟨bk, off, none⟩) n n) 25).below hB
        have hB'' := HW.out.trans (hB.mono HW.out.size)
        have HB' := Frame.hid hB''
        have kf : ∀ i, w'.frozen? ⟨w.heap.size, i, none⟩ = false := fun i => by rw [hB.frozen (p := ⟨w.heap.size, i, none⟩) (by simp)]; simp [go_sem]
        have k0 := hS.c0
        have k1 := hS.c1
        have k2 := hS.c2
        have kl := hS.l
        have HS := Frame.hid hS
        clear hB hS hB''
        have hrd : RdS w' (some ⟨bk, off, none⟩) xs := HR.out.below HB'.out
        have hprt := hrd.part lo p (by rw [← HX.out, HL.out]; exact hlm)

        have hsub : lo + p - lo = p := by omega
        have hlen : (partL xs (fun i => lo + i) p).length = p := partL_len _ _ _
        have HNW := Frame.hid (hprt.news1 (by rw [hlen]; omega))
        have hcl : (cellsS (partL xs (fun i => lo + i) p)).length = p * 3 := by rw [cellsS_len, hlen]
        have HCLN := Frame.hid hcl
        have HLEN := Frame.hid hlen
        have hln : lo + p ≤ n := by rw [HL.out]; exact hlm
        have hnn : n ≤ 36 := by rw [HL.out]; exact hn36

        
        clear hprt hlen hcl hrd
        obtain ⟨i0, hi, hz0, hz1, hz2⟩ := info_parts infoSpot
        go_wp2_with (first | (go_at_call 66; refine (l00In_true _ _ _ (by omega) _).mono ?_; rintro e w2 ⟨rfl, rfl⟩) | (at_builtin; refine wpList_append_own _ rfl _ _ 23 rfl w'.heap.size 44 i0 (.agg #[.float .f32 0, .float .f32 0, .float .f32 0]) 3 12 Try.underlying23 hi hz0 hz1 hz2 rfl (by decide) (.slice (some ⟨w'.heap.size, 0, none⟩) 0 0) 0 [] rfl (own1 _ _ _ (by simp) (by simp)) ⟨bk, off + lo * 3, none⟩ p (n - lo) (cellsS (partL (xs) (fun i => lo + i) p)) (congrArg (fun t => Value.slice (some ⟨bk, off + lo * 3, none⟩) t (n - lo)) hsub) HCLN.out (HNW.out _) (cellsS_one _) (by unfold maxLen; omega) (by omega) (by simp) ?_; intro v5 w5 hown5 hgrow5 hnil5; have HB5 := Frame.hid (Below.grown (B := w'.heap.size) ((Below.refl _ w').alloc (by simp) _) hgrow5 (by simp) (fun k hk => by injection hk with hk; have hk : w'.heap.size = k := hk; omega)); have HO5 : Hid (OwnedS w5 w'.heap.size v5 (partL (xs) (fun i => lo + i) p)) := Frame.hid (by unfold OwnedS; rw [HLEN.out]; have h := hown5; simp only [Nat.zero_add, List.nil_append] at h; exact h); rw [Nat.zero_add] at hown5; obtain ⟨A5, c5, rfl⟩ := OwS.form (OwS.of hown5); clear hown5 hgrow5 hnil5))
        obtain ⟨A6, c6, e6, hR6, hO6⟩ := rowOut HO5.out HLEN.out
        injection e6 with e6 e7 e8
        subst e6 e8
        rw [← HP.out]
        exact ⟨_, _, rfl, hR6, hO6.mono (HB'.out.size), HB'.out.trans (HB5.out.mono HB'.out.size)⟩
      · obtain ⟨lo, hlo⟩ : ∃ lo, lo = 0 := ⟨_, rfl⟩
        have hlm : lo + q ≤ p * q := by
          rw [hlo]
          have h : 1 * q ≤ p * q := Nat.mul_le_mul_right q (by omega)

          have e : p * q = p * q := rfl
          omega
        have hL : edgeL (p : Int) (q : Int) xs 2 = partL (flipL p q xs) (fun i => lo + i) q := by
          unfold edgeL edgeM
          rw [Int.toNat_natCast, Int.toNat_natCast]
          rw [flipL_part, partL_part _ _ _ _ _ (fun i hi => by omega)]
          refine partL_congr xs (fun i hi => ?_)
          have hi' : i < q := hi
          have e1 : (lo + i) % q = i := by rw [hlo, Nat.zero_add, Nat.mod_eq_of_lt hi']
          have e2 : (lo + i) / q = 0 := by rw [hlo, Nat.zero_add, Nat.div_eq_of_lt hi']
          simp only [e1, e2]
          simp [edgeF]
        have hN : (outL true (edgeL (p : Int) (q : Int) xs 2)).length = q := by rw [hL]; exact partL_len _ _ _
        rw [hN]
        rw [show outL true (edgeL (p : Int) (q : Int) xs 2) = partL (flipL p q xs) (fun i => lo + i) q from hL]
        generalize hP : OutS true _ _ w = P
        have HP := Frame.hid hP
        have hfrom : IntKind.i64.wrap ((q : Int) * ((p : Int) - 1)) = ((p - 1 : Nat) * q : Nat) := by
          have h36 : (p - 1) * q ≤ 5 * 6 := Nat.mul_le_mul (by omega) (by omega)
          rw [show (q : Int) * ((p : Int) - 1) = (((p - 1) * q : Nat) : Int) by rw [show (p : Int) - 1 = ((p - 1 : Nat) : Int) by omega, Int.mul_comm]; push_cast; rfl, IntKind.wrap_i64]
          omega
        have hn36 : p * q ≤ 36 := Nat.mul_le_mul hp.2 hq.2
        clear hfrom
        have hto : IntKind.i64.wrap ((lo : Int) + (q : Int)) = ((lo + q : Nat) : Int) := by rw [IntKind.wrap_i64]; push_cast; omega
        have HLO := Frame.hid hlo
        clear hP hL hN 
        have hq1 : IntKind.i64.wrap ((p : Int) - 1) = (p : Int) - 1 := by rw [IntKind.wrap_i64]; omega
        go_enter Try.func24, Try.ntmps24
        go_wp2_with fail
        refine (HC.out).mono ?_
        rintro e w' ⟨rfl, hB⟩
        rw [H1.out]
        have hS := (Sh3.here w p q (.slice (some ⟨bk, off, none⟩) n n) 25).below hB
        have hB'' := HW.out.trans (hB.mono HW.out.size)
        have HB' := Frame.hid hB''
        have kf : ∀ i, w'.frozen? ⟨w.heap.size, i, none⟩ = false := fun i => by rw [hB.frozen (p := ⟨w.heap.size, i, none⟩) (by simp)]; simp [go_sem]
        have k0 := hS.c0
        have k1 := hS.c1
        have k2 := hS.c2
        have kl := hS.l
        have HS := Frame.hid hS
        clear hB hS hB''
        go_wp2_with (go_at_call 66; refine (l00In_true _ _ _ (by omega) _).mono ?_; rintro e w2 ⟨rfl, rfl⟩)
        refine (l04Flip_calls w.heap.size p q bk off n n xs hp hq HX.out HL.out w' HS.out (HR.out.below HB'.out)).mono ?_
        rintro e w3 ⟨v, rfl, hO, hB3⟩
        obtain ⟨bF, cF, rfl, hbF, hbl, -, -⟩ := hO.first (by rw [flipL_len]; have : 2 * 2 ≤ p * q := Nat.mul_le_mul hp.1 hq.1; omega)
        rw [flipL_len]
        obtain ⟨M, hM⟩ : ∃ M, M = p * q := ⟨_, rfl⟩
        have hcF : M ≤ cF := by
          rcases hO.2 with ⟨h0, _⟩ | ⟨g2, cap2, cur, hv, -, -, h5, -⟩
          · cases h0
          · injection hv with _ _ hv; rw [hM, ← flipL_len p q xs, hv]; exact h5
        rw [← hM]
        have hrd : RdS w3 (some ⟨bF, 0, none⟩) (flipL p q xs) := by
          obtain ⟨A2, c2, e, hr⟩ := hO.rd
          injection e with e
          rw [e]; exact hr
        have r0 : w3.cell? ⟨w.heap.size, 0, none⟩ = some (.int .i64 p) := (hB3.cell (p := ⟨w.heap.size, 0, none⟩) kl).trans k0
        have r1 : w3.cell? ⟨w.heap.size, 1, none⟩ = some (.int .i64 q) := (hB3.cell (p := ⟨w.heap.size, 1, none⟩) kl).trans k1
        have r2 : w3.cell? ⟨w.heap.size, 2, none⟩ = some (.slice (some ⟨bk, off, none⟩) n n) := (hB3.cell (p := ⟨w.heap.size, 2, none⟩) kl).trans k2
        have rf : ∀ i, w3.frozen? ⟨w.heap.size, i, none⟩ = false := fun i => (hB3.frozen (p := ⟨w.heap.size, i, none⟩) kl).trans (kf i)
        have rl : w.heap.size < w3.heap.size := Nat.lt_of_lt_of_le kl hB3.size
        obtain ⟨e0, e1, e2⟩ := set3_read (w := w3) (v0 := .int .i64 q) (v1 := .int .i64 p) (v2 := .slice (some ⟨bF, 0, none⟩) M cF) r0 r1 r2
        have hap : Apart (some ⟨bF, 0, none⟩) w.heap.size := fun h e => by injection e with e; subst e; show w.heap.size ≠ bF; omega
        have HRD := Frame.hid (((hrd.seta (i := 0) (v := .int .i64 q) hap).seta (i := 1) (v := .int .i64 p) hap).seta (i := 2) (v := .slice (some ⟨bF, 0, none⟩) M cF) hap)
        have HB3 := Frame.hid ((((HB'.out.trans (hB3.mono HB'.out.size)).setCell (p := ⟨w.heap.size, 0, none⟩) (Nat.le_refl _) (.int .i64 q)).setCell (p := ⟨w.heap.size, 1, none⟩) (Nat.le_refl _) (.int .i64 p)).setCell (p := ⟨w.heap.size, 2, none⟩) (Nat.le_refl _) (.slice (some ⟨bF, 0, none⟩) M cF))
        have hlmM : lo + q ≤ M := by omega
        have hprt := HRD.out.part lo q (by rw [flipL_len, ← hM]; exact hlmM)
        rw [show 0 + lo * 3 = 0 by rw [HLO.out]] at hprt
        have hsub : lo + q - lo = q := by omega
        have hlen : (partL (flipL p q xs) (fun i => lo + i) q).length = q := partL_len _ _ _
        have HNW := Frame.hid (hprt.news1 (by rw [hlen]; omega))
        have hcl : (cellsS (partL (flipL p q xs) (fun i => lo + i) q)).length = q * 3 := by rw [cellsS_len, hlen]
        have HCLN := Frame.hid hcl
        have HLEN := Frame.hid hlen
        have hnn : M ≤ 36 := by omega
        have hl0 : lo = 0 := HLO.out
        rw [hl0] at hto hlm hlmM
        clear hO hB3 hrd hM hprt hlen hcl
        obtain ⟨i0, hi, hz0, hz1, hz2⟩ := info_parts infoSpot
        go_wp2_with (at_builtin; refine wpList_append_own _ rfl _ _ 23 rfl w3.heap.size 44 i0 (.agg #[.float .f32 0, .float .f32 0, .float .f32 0]) 3 12 Try.underlying23 hi hz0 hz1 hz2 rfl (by decide) (.slice (some ⟨w3.heap.size, 0, none⟩) 0 0) 0 [] rfl (own1 _ _ _ (by simp) (by simp)) ⟨bF, 0, none⟩ q (cF - 0) (cellsS (partL (flipL p q xs) (fun i => lo + i) q)) rfl HCLN.out (HNW.out _) (cellsS_one _) (by unfold maxLen; omega) (by omega) (by simp) ?_; intro v5 w5 hown5 hgrow5 hnil5; have HB5 := Frame.hid (Below.grown (B := w.heap.size) (HB3.out.alloc (by simp; omega) _) hgrow5 (by simp; omega) (fun k hk => by injection hk with hk; have hk : w3.heap.size = k := hk; omega)); have HO5 : Hid (OwnedS w5 w3.heap.size v5 (partL (flipL p q xs) (fun i => lo + i) q)) := Frame.hid (by unfold OwnedS; rw [HLEN.out]; have h := hown5; simp only [Nat.zero_add, List.nil_append] at h; exact h); rw [Nat.zero_add] at hown5; obtain ⟨A5, c5, rfl⟩ := OwS.form (OwS.of hown5); clear hown5 hgrow5 hnil5)
        obtain ⟨A6, c6, e6, hR6, hO6⟩ := rowOut HO5.out HLEN.out
        injection e6 with e6 e7 e8
        subst e6 e8
        rw [← HP.out]
        exact ⟨_, _, rfl, hR6, hO6.mono (by omega), HB5.out⟩
      · obtain ⟨lo, hlo⟩ : ∃ lo, lo = (p - 1) * q := ⟨_, rfl⟩
        have hlm : lo + q ≤ p * q := by
          rw [hlo]
          have h : (p - 1 + 1) * q = p * q := by congr 1; omega
          rw [Nat.succ_mul] at h
          have e : p * q = p * q := rfl
          omega
        have hL : edgeL (p : Int) (q : Int) xs 3 = partL (flipL p q xs) (fun i => lo + i) q := by
          unfold edgeL edgeM
          rw [Int.toNat_natCast, Int.toNat_natCast]
          rw [flipL_part, partL_part _ _ _ _ _ (fun i hi => by omega)]
          refine partL_congr xs (fun i hi => ?_)
          have hi' : i < q := hi
          have e1 : (lo + i) % q = i := by rw [hlo, Nat.mul_comm, Nat.mul_add_mod, Nat.mod_eq_of_lt hi']
          have e2 : (lo + i) / q = p - 1 := by rw [hlo, Nat.mul_comm, Nat.mul_add_div (by omega), Nat.div_eq_of_lt hi']; rfl
          simp only [e1, e2]
          simp [edgeF]
        have hN : (outL true (edgeL (p : Int) (q : Int) xs 3)).length = q := by rw [hL]; exact partL_len _ _ _
        rw [hN]
        rw [show outL true (edgeL (p : Int) (q : Int) xs 3) = partL (flipL p q xs) (fun i => lo + i) q from hL]
        generalize hP : OutS true _ _ w = P
        have HP := Frame.hid hP
        have hfrom : IntKind.i64.wrap ((q : Int) * ((p : Int) - 1)) = ((p - 1 : Nat) * q : Nat) := by
          have h36 : (p - 1) * q ≤ 5 * 6 := Nat.mul_le_mul (by omega) (by omega)
          rw [show (q : Int) * ((p : Int) - 1) = (((p - 1) * q : Nat) : Int) by rw [show (p : Int) - 1 = ((p - 1 : Nat) : Int) by omega, Int.mul_comm]; push_cast; rfl, IntKind.wrap_i64]
          omega
        have hn36 : p * q ≤ 36 := Nat.mul_le_mul hp.2 hq.2
        rw [← hlo] at hfrom
        have hto : IntKind.i64.wrap ((lo : Int) + (q : Int)) = ((lo + q : Nat) : Int) := by rw [IntKind.wrap_i64]; push_cast; omega
        have HLO := Frame.hid hlo
        clear hP hL hN hlo
        have hq1 : IntKind.i64.wrap ((p : Int) - 1) = (p : Int) - 1 := by rw [IntKind.wrap_i64]; omega
        go_enter Try.func24, Try.ntmps24
        go_wp2_with fail
        refine (HC.out).mono ?_
        rintro e w' ⟨rfl, hB⟩
        rw [H1.out]
        have hS := (Sh3.here w p q (.slice (some ⟨bk, off, none⟩) n n) 25).below hB
        have hB'' := HW.out.trans (hB.mono HW.out.size)
        have HB' := Frame.hid hB''
        have kf : ∀ i, w'.frozen? ⟨w.heap.size, i, none⟩ = false := fun i => by rw [hB.frozen (p := ⟨w.heap.size, i, none⟩) (by simp)]; simp [go_sem]
        have k0 := hS.c0
        have k1 := hS.c1
        have k2 := hS.c2
        have kl := hS.l
        have HS := Frame.hid hS
        clear hB hS hB''
        go_wp2_with (go_at_call 66; refine (l00In_true _ _ _ (by omega) _).mono ?_; rintro e w2 ⟨rfl, rfl⟩)
        refine (l04Flip_calls w.heap.size p q bk off n n xs hp hq HX.out HL.out w' HS.out (HR.out.below HB'.out)).mono ?_
        rintro e w3 ⟨v, rfl, hO, hB3⟩
        obtain ⟨bF, cF, rfl, hbF, hbl, -, -⟩ := hO.first (by rw [flipL_len]; have : 2 * 2 ≤ p * q := Nat.mul_le_mul hp.1 hq.1; omega)
        rw [flipL_len]
        obtain ⟨M, hM⟩ : ∃ M, M = p * q := ⟨_, rfl⟩
        have hcF : M ≤ cF := by
          rcases hO.2 with ⟨h0, _⟩ | ⟨g2, cap2, cur, hv, -, -, h5, -⟩
          · cases h0
          · injection hv with _ _ hv; rw [hM, ← flipL_len p q xs, hv]; exact h5
        rw [← hM]
        have hrd : RdS w3 (some ⟨bF, 0, none⟩) (flipL p q xs) := by
          obtain ⟨A2, c2, e, hr⟩ := hO.rd
          injection e with e
          rw [e]; exact hr
        have r0 : w3.cell? ⟨w.heap.size, 0, none⟩ = some (.int .i64 p) := (hB3.cell (p := ⟨w.heap.size, 0, none⟩) kl).trans k0
        have r1 : w3.cell? ⟨w.heap.size, 1, none⟩ = some (.int .i64 q) := (hB3.cell (p := ⟨w.heap.size, 1, none⟩) kl).trans k1
        have r2 : w3.cell? ⟨w.heap.size, 2, none⟩ = some (.slice (some ⟨bk, off, none⟩) n n) := (hB3.cell (p := ⟨w.heap.size, 2, none⟩) kl).trans k2
        have rf : ∀ i, w3.frozen? ⟨w.heap.size, i, none⟩ = false := fun i => (hB3.frozen (p := ⟨w.heap.size, i, none⟩) kl).trans (kf i)
        have rl : w.heap.size < w3.heap.size := Nat.lt_of_lt_of_le kl hB3.size
        obtain ⟨e0, e1, e2⟩ := set3_read (w := w3) (v0 := .int .i64 q) (v1 := .int .i64 p) (v2 := .slice (some ⟨bF, 0, none⟩) M cF) r0 r1 r2
        have hap : Apart (some ⟨bF, 0, none⟩) w.heap.size := fun h e => by injection e with e; subst e; show w.heap.size ≠ bF; omega
        have HRD := Frame.hid (((hrd.seta (i := 0) (v := .int .i64 q) hap).seta (i := 1) (v := .int .i64 p) hap).seta (i := 2) (v := .slice (some ⟨bF, 0, none⟩) M cF) hap)
        have HB3 := Frame.hid ((((HB'.out.trans (hB3.mono HB'.out.size)).setCell (p := ⟨w.heap.size, 0, none⟩) (Nat.le_refl _) (.int .i64 q)).setCell (p := ⟨w.heap.size, 1, none⟩) (Nat.le_refl _) (.int .i64 p)).setCell (p := ⟨w.heap.size, 2, none⟩) (Nat.le_refl _) (.slice (some ⟨bF, 0, none⟩) M cF))
        have hlmM : lo + q ≤ M := by omega
        have hprt := HRD.out.part lo q (by rw [flipL_len, ← hM]; exact hlmM)
        rw [Nat.zero_add] at hprt
        have hsub : lo + q - lo = q := by omega
        have hlen : (partL (flipL p q xs) (fun i => lo + i) q).length = q := partL_len _ _ _
        have HNW := Frame.hid (hprt.news1 (by rw [hlen]; omega))
        have hcl : (cellsS (partL (flipL p q xs) (fun i => lo + i) q)).length = q * 3 := by rw [cellsS_len, hlen]
        have HCLN := Frame.hid hcl
        have HLEN := Frame.hid hlen
        have hnn : M ≤ 36 := by omega

        
        clear hO hB3 hrd hM hprt hlen hcl
        obtain ⟨i0, hi, hz0, hz1, hz2⟩ := info_parts infoSpot
        go_wp2_with (at_builtin; refine wpList_append_own _ rfl _ _ 23 rfl w3.heap.size 44 i0 (.agg #[.float .f32 0, .float .f32 0, .float .f32 0]) 3 12 Try.underlying23 hi hz0 hz1 hz2 rfl (by decide) (.slice (some ⟨w3.heap.size, 0, none⟩) 0 0) 0 [] rfl (own1 _ _ _ (by simp) (by simp)) ⟨bF, lo * 3, none⟩ q (cF - lo) (cellsS (partL (flipL p q xs) (fun i => lo + i) q)) (congrArg (fun t => Value.slice (some ⟨bF, lo * 3, none⟩) t (cF - lo)) hsub) HCLN.out (HNW.out _) (cellsS_one _) (by unfold maxLen; omega) (by omega) (by simp) ?_; intro v5 w5 hown5 hgrow5 hnil5; have HB5 := Frame.hid (Below.grown (B := w.heap.size) (HB3.out.alloc (by simp; omega) _) hgrow5 (by simp; omega) (fun k hk => by injection hk with hk; have hk : w3.heap.size = k := hk; omega)); have HO5 : Hid (OwnedS w5 w3.heap.size v5 (partL (flipL p q xs) (fun i => lo + i) q)) := Frame.hid (by unfold OwnedS; rw [HLEN.out]; have h := hown5; simp only [Nat.zero_add, List.nil_append] at h; exact h); rw [Nat.zero_add] at hown5; obtain ⟨A5, c5, rfl⟩ := OwS.form (OwS.of hown5); clear hown5 hgrow5 hnil5)
        obtain ⟨A6, c6, e6, hR6, hO6⟩ := rowOut HO5.out HLEN.out
        injection e6 with e6 e7 e8
        subst e6 e8
        rw [← HP.out]
        exact ⟨_, _, rfl, hR6, hO6.mono (by omega), HB5.out⟩
    · have hm : edgeB (p : Int) (q : Int) xs side = false := by rw [HSD.out]; simp; omega
      rw [hm]
      have hin : decide (0 ≤ side) = false ∨ decide (side ≤ 3) = false := by simp; omega
      generalize hP : OutS false _ _ w = P
      have HP := Frame.hid hP
      have HIN := Frame.hid (by rw [Bool.and_eq_false_iff]; exact hin : (decide (0 ≤ side) && decide (side ≤ 3)) = false)
      clear hP hm hs0 hin
      go_enter Try.func24, Try.ntmps24
      go_wp2_with (first | (go_at_call 61; refine (HC.out).mono ?_; rintro e w' ⟨rfl, hB⟩; rw [H1.out]; have hc := rd_of hB; have hz := fz_of hB; have hs := sz_of hB) | (go_at_call 66; refine (l00In_calls _ _ _ _).mono ?_; rintro e w2 ⟨rfl, rfl⟩; rw [HIN.out]))
      rw [← HP.out]
      exact ⟨none, 0, rfl, ⟨fun h0 => absurd h0 (by simp [outL])⟩, OwS.nilv _ _, HW.out.trans (hB.mono HW.out.size)⟩

end Go.Proofs.Ytddbojpkmgmjmaa
