/-
  EdgeOfSheet, walked on both sides.
-/
import Derived.Test.YtddbojpkmgmjmaaH1
namespace Go.Proofs.Ytddbojpkmgmjmaa
open Go.RowKit Fl Go.WideShapes Go.Deep
attribute [local go_sem] kstore_f kalloc_drewN kset_drewN hstore_i hstore_s

/-- Where the spots of an edge lie; how many there are. -/
def edgeF (p q : Nat) (side : Int) : Nat → Nat := fun j => if side = 0 then j else if side = 1 then (q - 1) * p + j else if side = 2 then j * p else j * p + (p - 1)
def edgeM (p q : Nat) (side : Int) : Nat := if side < 2 then p else q
def edgeB (a b : Int) (xs : List (Nat × Nat × Nat)) (side : Int) : Bool := shB a b xs && (decide (0 ≤ side) && decide (side ≤ 3))
def edgeL (a b : Int) (xs : List (Nat × Nat × Nat)) (side : Int) : List (Nat × Nat × Nat) := partL xs (edgeF a.toNat b.toNat side) (edgeM a.toNat b.toNat side)

/-- What a call hands out. -/
def OutS (K : Bool) (N : Nat) (Z : List (Nat × Nat × Nat)) (W : World) (e : Ending) (w' : World) : Prop :=
  ∃ A c, e = .returned (.tuple #[.slice A N c, .bool K]) ∧ RdS w' A Z ∧ OwS w' W.heap.size (.slice A N c) N ∧ Below W.heap.size W w'

theorem shB_open {a b : Int} {xs : List (Nat × Nat × Nat)} {n : Nat} (hx : n = xs.length) (h : shB a b xs = true) : ∃ p q : Nat, a = (p : Int) ∧ b = (q : Int) ∧ (2 ≤ p ∧ p ≤ 6) ∧ (2 ≤ q ∧ q ≤ 6) ∧ n = p * q := by
  unfold shB at h
  simp only [Bool.and_eq_true, decide_eq_true_eq] at h
  obtain ⟨⟨h3, h4⟩, -⟩ := h
  obtain ⟨⟨a1, a2⟩, ⟨b1, b2⟩, -, -⟩ := cntB_mul h3
  obtain ⟨p, rfl⟩ := Int.eq_ofNat_of_zero_le (by omega : 0 ≤ a)
  obtain ⟨q, rfl⟩ := Int.eq_ofNat_of_zero_le (by omega : 0 ≤ b)
  refine ⟨p, q, rfl, rfl, by omega, by omega, ?_⟩
  rw [hx]
  exact_mod_cast h4

theorem rowOut {w' : World} {B m : Nat} {v : Value} {L : List (Nat × Nat × Nat)} (hO : OwnedS w' B v L) (hm : L.length = m) : ∃ A c, v = .slice A m c ∧ RdS w' A L ∧ OwS w' B (.slice A m c) m := by
  obtain ⟨A, c, rfl, hr⟩ := hO.rd
  have ho := hO.ow
  rw [hm] at ho ⊢
  exact ⟨A, c, rfl, hr, ho⟩

set_option maxRecDepth 100000 in
set_option maxHeartbeats 4000000 in
theorem edgeOfSheet_calls (A : Option Addr) (xs : List (Nat × Nat × Nat)) (n : Nat) (hxn : n = xs.length) (a b side : Int) (w : World) (hn : n ≤ 1048576) (hr : RdS w A xs) :
    Calls Try.prog 25 #[.agg #[.int .i64 a, .int .i64 b, .slice A n n], .int .i64 side] w (OutS (edgeB a b xs side) (outL (edgeB a b xs side) (edgeL a b xs side)).length (outL (edgeB a b xs side) (edgeL a b xs side)) w) := by
  have hw : Below w.heap.size w (w.alloc (.cells #[.int .i64 a, .int .i64 b, .slice A n n] 25)) := by (apply bel_of; (repeat (first | apply below_dn | apply below_al)); exact below_st _)
  have HC := Frame.hid (validSheet_calls A xs n n hxn a b _ hn (hr.below hw))
  have HW := Frame.hid hw
  have HR := Frame.hid hr
  have HX := Frame.hid hxn
  clear hr hw hxn
  cases h1 : shB a b xs
  · have H1 := Frame.hid h1
    have hm : edgeB a b xs side = false := by unfold edgeB; rw [h1]; rfl
    rw [hm]
    generalize hP : OutS false _ _ w = P
    have HP := Frame.hid hP
    clear hP h1 hm
    go_enter Try.func25, Try.ntmps25
    go_wp2_with (go_at_call 63; refine (HC.out).mono ?_; rintro e w' ⟨rfl, hB⟩; rw [H1.out]; have hc := rd_of hB; have hz := fz_of hB; have hs := sz_of hB)
    rw [← HP.out]
    exact ⟨none, 0, rfl, ⟨fun h0 => absurd h0 (by simp [outL])⟩, OwS.nilv _ _, HW.out.trans (hB.mono HW.out.size)⟩
  · have H1 := Frame.hid h1
    obtain ⟨p, q, rfl, rfl, hp, hq, hl⟩ := shB_open HX.out h1
    obtain ⟨bk, off, rfl, -, -⟩ := HR.out.h (by have := HX.out; have : 2 * 2 ≤ p * q := Nat.mul_le_mul hp.1 hq.1; omega)
    have HL := Frame.hid hl
    have hside : edgeB (p : Int) (q : Int) xs side = (decide (0 ≤ side) && decide (side ≤ 3)) := by unfold edgeB; rw [h1]; rfl
    have HSD := Frame.hid hside
    clear h1 hl hside
    by_cases hs0 : 0 ≤ side ∧ side ≤ 3
    · have hK : edgeB (p : Int) (q : Int) xs side = true := by rw [HSD.out]; simp [hs0]
      rw [hK]
      have hs4 : side = 0 ∨ side = 1 ∨ side = 2 ∨ side = 3 := by omega
      have hq1 : IntKind.i64.wrap ((q : Int) - 1) = ((q - 1 : Nat) : Int) := by rw [IntKind.wrap_i64]; omega
      have hp1 : IntKind.i64.wrap ((p : Int) - 1) = ((p - 1 : Nat) : Int) := by rw [IntKind.wrap_i64]; omega
      have hq2 : (q : Int) - 1 = ((q - 1 : Nat) : Int) := by omega
      have hp2 : (p : Int) - 1 = ((p - 1 : Nat) : Int) := by omega
      clear hs0 hK
      rcases hs4 with rfl | rfl | rfl | rfl
      · have hL : edgeL (p : Int) (q : Int) xs 0 = partL xs (fun i => 0 * p + i) p := by
          unfold edgeL edgeM
          rw [Int.toNat_natCast, Int.toNat_natCast]
          exact partL_congr xs (fun i _ => by simp [edgeF])
        have hN : (outL true (edgeL (p : Int) (q : Int) xs 0)).length = p := by rw [hL]; exact partL_len _ _ _
        rw [hN]
        rw [show outL true (edgeL (p : Int) (q : Int) xs 0) = partL xs (fun i => 0 * p + i) p from hL]
        generalize hP : OutS true _ _ w = P
        have HP := Frame.hid hP
        have HCL := Frame.hid (fun W (hB : Below w.heap.size w W) => row_calls bk off n p q 0 xs hp hq HX.out HL.out (by omega) W (HR.out.below hB))
        have HQ1 := Frame.hid (And.intro hq1 (And.intro hp1 (And.intro hq2 hp2)))
        clear hP hL hN hq1 hp1 hq2 hp2
        go_enter Try.func25, Try.ntmps25
        go_wp2_with fail
        refine (HC.out).mono ?_
        rintro e w' ⟨rfl, hB⟩
        rw [H1.out]
        have hB' := HW.out.trans (hB.mono HW.out.size)
        have k0 : w'.cell? ⟨w.heap.size, 0, none⟩ = some (.int .i64 p) := by rw [hB.cell (p := ⟨w.heap.size, 0, none⟩) (by simp)]; simp [go_sem]
        have k1 : w'.cell? ⟨w.heap.size, 1, none⟩ = some (.int .i64 q) := by rw [hB.cell (p := ⟨w.heap.size, 1, none⟩) (by simp)]; simp [go_sem]
        have k2 : w'.cell? ⟨w.heap.size, 2, none⟩ = some (.slice (some ⟨bk, off, none⟩) n n) := by rw [hB.cell (p := ⟨w.heap.size, 2, none⟩) (by simp)]; simp [go_sem]
        have HB' := Frame.hid hB'
        clear hB hB'
        go_wp2_with fail
        refine (HCL.out _ HB'.out).mono ?_
        rintro e w2 ⟨v, rfl, hO, hB2⟩
        obtain ⟨A1, c1, rfl, hR2, hO2⟩ := rowOut hO (partL_len _ _ _)
        have HR2 := Frame.hid hR2
        have HO2 := Frame.hid (hO2.mono (HB'.out.size))
        have HB2 := Frame.hid (HB'.out.trans (hB2.mono HB'.out.size))
        clear hR2 hO2 hB2 hO
        go_wp2_with fail
        rw [← HP.out]
        exact ⟨A1, c1, rfl, HR2.out, HO2.out, HB2.out⟩
      · have hL : edgeL (p : Int) (q : Int) xs 1 = partL xs (fun i => (q - 1) * p + i) p := by
          unfold edgeL edgeM
          rw [Int.toNat_natCast, Int.toNat_natCast]
          exact partL_congr xs (fun i _ => by simp [edgeF])
        have hN : (outL true (edgeL (p : Int) (q : Int) xs 1)).length = p := by rw [hL]; exact partL_len _ _ _
        rw [hN]
        rw [show outL true (edgeL (p : Int) (q : Int) xs 1) = partL xs (fun i => (q - 1) * p + i) p from hL]
        generalize hP : OutS true _ _ w = P
        have HP := Frame.hid hP
        have HCL := Frame.hid (fun W (hB : Below w.heap.size w W) => row_calls bk off n p q (q - 1) xs hp hq HX.out HL.out (by omega) W (HR.out.below hB))
        have HQ1 := Frame.hid (And.intro hq1 (And.intro hp1 (And.intro hq2 hp2)))
        clear hP hL hN hq1 hp1 hq2 hp2
        go_enter Try.func25, Try.ntmps25
        go_wp2_with fail
        refine (HC.out).mono ?_
        rintro e w' ⟨rfl, hB⟩
        rw [H1.out]
        have hB' := HW.out.trans (hB.mono HW.out.size)
        have k0 : w'.cell? ⟨w.heap.size, 0, none⟩ = some (.int .i64 p) := by rw [hB.cell (p := ⟨w.heap.size, 0, none⟩) (by simp)]; simp [go_sem]
        have k1 : w'.cell? ⟨w.heap.size, 1, none⟩ = some (.int .i64 q) := by rw [hB.cell (p := ⟨w.heap.size, 1, none⟩) (by simp)]; simp [go_sem]
        have k2 : w'.cell? ⟨w.heap.size, 2, none⟩ = some (.slice (some ⟨bk, off, none⟩) n n) := by rw [hB.cell (p := ⟨w.heap.size, 2, none⟩) (by simp)]; simp [go_sem]
        have HB' := Frame.hid hB'
        clear hB hB'
        go_wp2_with fail
        rw [HQ1.out.2.2.1]
        refine (HCL.out _ HB'.out).mono ?_
        rintro e w2 ⟨v, rfl, hO, hB2⟩
        obtain ⟨A1, c1, rfl, hR2, hO2⟩ := rowOut hO (partL_len _ _ _)
        have HR2 := Frame.hid hR2
        have HO2 := Frame.hid (hO2.mono (HB'.out.size))
        have HB2 := Frame.hid (HB'.out.trans (hB2.mono HB'.out.size))
        clear hR2 hO2 hB2 hO
        go_wp2_with fail
        rw [← HP.out]
        exact ⟨A1, c1, rfl, HR2.out, HO2.out, HB2.out⟩
      · have hL : edgeL (p : Int) (q : Int) xs 2 = partL xs (fun j => j * p + 0) q := by
          unfold edgeL edgeM
          rw [Int.toNat_natCast, Int.toNat_natCast]
          exact partL_congr xs (fun i _ => by simp [edgeF])
        have hN : (outL true (edgeL (p : Int) (q : Int) xs 2)).length = q := by rw [hL]; exact partL_len _ _ _
        rw [hN]
        rw [show outL true (edgeL (p : Int) (q : Int) xs 2) = partL xs (fun j => j * p + 0) q from hL]
        generalize hP : OutS true _ _ w = P
        have HP := Frame.hid hP
        have HCL := Frame.hid (fun W (hB : Below w.heap.size w W) => column_calls bk off n p q 0 xs hp hq HX.out HL.out (by omega) W (HR.out.below hB))
        have HQ1 := Frame.hid (And.intro hq1 (And.intro hp1 (And.intro hq2 hp2)))
        clear hP hL hN hq1 hp1 hq2 hp2
        go_enter Try.func25, Try.ntmps25
        go_wp2_with fail
        refine (HC.out).mono ?_
        rintro e w' ⟨rfl, hB⟩
        rw [H1.out]
        have hB' := HW.out.trans (hB.mono HW.out.size)
        have k0 : w'.cell? ⟨w.heap.size, 0, none⟩ = some (.int .i64 p) := by rw [hB.cell (p := ⟨w.heap.size, 0, none⟩) (by simp)]; simp [go_sem]
        have k1 : w'.cell? ⟨w.heap.size, 1, none⟩ = some (.int .i64 q) := by rw [hB.cell (p := ⟨w.heap.size, 1, none⟩) (by simp)]; simp [go_sem]
        have k2 : w'.cell? ⟨w.heap.size, 2, none⟩ = some (.slice (some ⟨bk, off, none⟩) n n) := by rw [hB.cell (p := ⟨w.heap.size, 2, none⟩) (by simp)]; simp [go_sem]
        have HB' := Frame.hid hB'
        clear hB hB'
        go_wp2_with fail
        refine (HCL.out _ HB'.out).mono ?_
        rintro e w2 ⟨g, rfl, hR2, hO2, hB2⟩
        have HR2 := Frame.hid hR2
        have HO2 := Frame.hid (hO2.mono (HB'.out.size))
        have HB2 := Frame.hid (HB'.out.trans (hB2.mono HB'.out.size))
        clear hR2 hO2 hB2
        go_wp2_with fail
        rw [← HP.out]
        exact ⟨_, _, rfl, HR2.out, HO2.out, HB2.out⟩
      · have hL : edgeL (p : Int) (q : Int) xs 3 = partL xs (fun j => j * p + (p - 1)) q := by
          unfold edgeL edgeM
          rw [Int.toNat_natCast, Int.toNat_natCast]
          exact partL_congr xs (fun i _ => by simp [edgeF])
        have hN : (outL true (edgeL (p : Int) (q : Int) xs 3)).length = q := by rw [hL]; exact partL_len _ _ _
        rw [hN]
        rw [show outL true (edgeL (p : Int) (q : Int) xs 3) = partL xs (fun j => j * p + (p - 1)) q from hL]
        generalize hP : OutS true _ _ w = P
        have HP := Frame.hid hP
        have HCL := Frame.hid (fun W (hB : Below w.heap.size w W) => column_calls bk off n p q (p - 1) xs hp hq HX.out HL.out (by omega) W (HR.out.below hB))
        have HQ1 := Frame.hid (And.intro hq1 (And.intro hp1 (And.intro hq2 hp2)))
        clear hP hL hN hq1 hp1 hq2 hp2
        go_enter Try.func25, Try.ntmps25
        go_wp2_with fail
        refine (HC.out).mono ?_
        rintro e w' ⟨rfl, hB⟩
        rw [H1.out]
        have hB' := HW.out.trans (hB.mono HW.out.size)
        have k0 : w'.cell? ⟨w.heap.size, 0, none⟩ = some (.int .i64 p) := by rw [hB.cell (p := ⟨w.heap.size, 0, none⟩) (by simp)]; simp [go_sem]
        have k1 : w'.cell? ⟨w.heap.size, 1, none⟩ = some (.int .i64 q) := by rw [hB.cell (p := ⟨w.heap.size, 1, none⟩) (by simp)]; simp [go_sem]
        have k2 : w'.cell? ⟨w.heap.size, 2, none⟩ = some (.slice (some ⟨bk, off, none⟩) n n) := by rw [hB.cell (p := ⟨w.heap.size, 2, none⟩) (by simp)]; simp [go_sem]
        have HB' := Frame.hid hB'
        clear hB hB'
        go_wp2_with fail
        rw [HQ1.out.2.2.2]
        refine (HCL.out _ HB'.out).mono ?_
        rintro e w2 ⟨g, rfl, hR2, hO2, hB2⟩
        have HR2 := Frame.hid hR2
        have HO2 := Frame.hid (hO2.mono (HB'.out.size))
        have HB2 := Frame.hid (HB'.out.trans (hB2.mono HB'.out.size))
        clear hR2 hO2 hB2
        go_wp2_with fail
        rw [← HP.out]
        exact ⟨_, _, rfl, HR2.out, HO2.out, HB2.out⟩
    · have hm : edgeB (p : Int) (q : Int) xs side = false := by rw [HSD.out]; simp; omega
      rw [hm]
      have e0 : ¬ (side = 0) := by omega
      have e1 : ¬ (side = 1) := by omega
      have e2 : ¬ (side = 2) := by omega
      have e3 : ¬ (side = 3) := by omega
      generalize hP : OutS false _ _ w = P
      have HP := Frame.hid hP
      clear hP hm hs0
      go_enter Try.func25, Try.ntmps25
      go_wp2_with (go_at_call 63; refine (HC.out).mono ?_; rintro e w' ⟨rfl, hB⟩; rw [H1.out]; have hc := rd_of hB; have hz := fz_of hB; have hs := sz_of hB)
      rw [← HP.out]
      exact ⟨none, 0, rfl, ⟨fun h0 => absurd h0 (by simp [outL])⟩, OwS.nilv _ _, HW.out.trans (hB.mono HW.out.size)⟩

end Go.Proofs.Ytddbojpkmgmjmaa
