/-
  LevelCuts: the program's side.
-/
import Derived.Test.YtnhpiebddelebaaA7
import Derived.Laws.AppendOwnNone
namespace Go.Proofs.Ytnhpiebddelebaa
open Go.RowKit Fl Go.WideShapes Go.Deep
attribute [local go_sem] kstore_f kalloc_drewN kset_drewN hstore_i hstore_s

/-- The cuts of the triangles so far. -/
def CutA (xs : List Sp3) (m k : Nat) (wy : Sp3) (lv : Nat) : Nat → List Sp3 → Prop
  | 0, l => l = []
  | t + 1, l => ∃ l0 q, CutA xs m k wy lv t l0 ∧ CutN (tri3 (sx xs (crn m k (3 * t))) (sy xs (crn m k (3 * t))) (sz xs (crn m k (3 * t))) (sx xs (crn m k (3 * t + 1))) (sy xs (crn m k (3 * t + 1))) (sz xs (crn m k (3 * t + 1))) (sx xs (crn m k (3 * t + 2))) (sy xs (crn m k (3 * t + 2))) (sz xs (crn m k (3 * t + 2)))) wy lv 3 q ∧ l = l0 ++ q
theorem CutA.same {xs : List Sp3} {m k : Nat} {wy : Sp3} {lv : Nat} : ∀ {t : Nat} {l l' : List Sp3}, CutA xs m k wy lv t l → CutA xs m k wy lv t l' → LS l l'
  | 0, _, _, h, g => by rw [show _ = _ from h, show _ = _ from g]; exact LS.refl _
  | _ + 1, _, _, ⟨_, _, h1, h2, h3⟩, ⟨_, _, g1, g2, g3⟩ => by rw [h3, g3]; exact (CutA.same h1 g1).app (h2.same g2)
theorem CutA.len {xs : List Sp3} {m k : Nat} {wy : Sp3} {lv : Nat} : ∀ {t : Nat} {l : List Sp3}, CutA xs m k wy lv t l → l.length ≤ 3 * t
  | 0, _, h => by rw [show _ = _ from h]; simp
  | _ + 1, _, ⟨_, _, h1, h2, h3⟩ => by rw [h3, List.length_append]; have := CutA.len h1; have := h2.len; omega
theorem LS.symm {xs ys : List Sp3} (h : LS xs ys) : LS ys xs := ⟨h.l.symm, fun j hj => by obtain ⟨a, b, c⟩ := h.s j (by rw [h.l]; exact hj); exact ⟨a.symm, b.symm, c.symm⟩⟩
theorem LS.fin1 {xs ys : List Sp3} (h : LS xs ys) (hx : finS xs = true) : finS ys = true := by
  cases hy : finS ys with
  | true => rfl
  | false =>
    exfalso
    have hall : ∀ j, j < ys.length → fin3 (sx ys j) (sy ys j) (sz ys j) = true := fun j hj => by
      rw [← (h.s j (by rw [h.l]; exact hj)).fin]
      cases hf : fin3 (sx xs j) (sy xs j) (sz xs j) with
      | true => rfl
      | false => rw [finS_bad (by rw [h.l]; exact hj) hf] at hx; cases hx
    rw [finS_upto hall] at hy
    cases hy
theorem LS.fin {xs ys : List Sp3} (h : LS xs ys) : finS xs = finS ys := by
  cases hx : finS xs with
  | true => exact (h.fin1 hx).symm
  | false => cases hy : finS ys with
    | true => rw [h.symm.fin1 hy] at hx; cases hx
    | false => rfl
/-- What LevelCuts hands out. -/
def LcO (xs : List Sp3) (m k : Int) (wy : Sp3) (lv : Nat) (l : List Sp3) (ok : Bool) : Prop :=
  ((tlB xs m k && fin3 wy.1 wy.2.1 wy.2.2 && fin .f32 lv) = false ∧ l = [] ∧ ok = false) ∨
  ((tlB xs m k && fin3 wy.1 wy.2.1 wy.2.2 && fin .f32 lv) = true ∧ ∃ a b : Nat, m = a ∧ k = b ∧ ∃ q, CutA xs a b wy lv (2 * (a * b)) q ∧ ok = finS q ∧ l = if finS q = true then q else [])
theorem LcO.same {xs : List Sp3} {m k : Int} {wy : Sp3} {lv : Nat} {l l' : List Sp3} {ok ok' : Bool} (h : LcO xs m k wy lv l ok) (g : LcO xs m k wy lv l' ok') : LS l l' ∧ ok = ok' := by
  rcases h with ⟨h, rfl, rfl⟩ | ⟨h, a, b, ha, hb, q, hq, rfl, rfl⟩ <;> rcases g with ⟨g, rfl, rfl⟩ | ⟨g, c, d, hc, hd, r, hr, rfl, rfl⟩
  · exact ⟨LS.refl _, rfl⟩
  · rw [h] at g; cases g
  · rw [h] at g; cases g
  · obtain rfl : a = c := by omega
    obtain rfl : b = d := by omega
    have hs := hq.same hr
    have hf := hs.fin
    rw [← hf]
    refine ⟨?_, rfl⟩
    split
    · exact hs
    · exact LS.refl _
theorem own_appS {W : World} {B : Nat} {v : Value} {l q : List Sp3} (h : W.ownsRow B 57 3 v (l.length + q.length) (cellsS l ++ cellsS q)) : OwnedS W B v (l ++ q) := by
  unfold OwnedS
  rw [cellsS_append, List.length_append]
  exact h


set_option maxRecDepth 100000 in
set_option maxHeartbeats 8000000 in
theorem levelCuts_calls (A : Option Addr) (xs : List Sp3) (n c : Nat) (hxn : n = xs.length) (hn : n ≤ 1048576) (m k : Int) (wx wy wz lv : Nat) (w : World) (hr : RdS w A xs) :
    Calls Try.prog 36 #[.slice A n c, .int .i64 m, .int .i64 k, .agg #[.float .f32 wx, .float .f32 wy, .float .f32 wz], .float .f32 lv] w fun e w' => ∃ v l ok, e = .returned (.tuple #[v, .bool ok]) ∧ LcO xs m k (wx, wy, wz) lv l ok ∧ OwnedS w' w.heap.size v l ∧ Below w.heap.size w w' := by
  have hr1 : RdS (w.alloc (.cells #[.float .f32 wx, .float .f32 wy, .float .f32 wz] 57)) A xs := hr.below ((Below.refl _ _).alloc (Nat.le_refl _) _)
  cases hno : tlB xs m k
  · have HNO := Frame.hid (trianglesOfTiles_no A xs n c hxn hn m k hno _ hr1)
    clear hr hr1 hxn
    go_enter Try.func36, Try.ntmps36
    go_wp2_with fail
    refine HNO.out.mono ?_
    rintro e w1 ⟨rfl, hB1⟩
    go_wp2_with fail
    go_ret2
    refine ⟨_, [], _, rfl, .inl ⟨by rw [hno]; rfl, rfl, rfl⟩, OwnedS.nil _ _, ?_⟩
    exact ((Below.refl w.heap.size w).alloc (Nat.le_refl _) _).trans (hB1.mono (by simp))
  · obtain ⟨a, b, rfl, rfl, ha, hb, hlen, hf, hT, hT0⟩ := tlB_yes hno
    have HNO := Frame.hid hno
    obtain ⟨T, hTT⟩ : ∃ T, T = 2 * (a * b) := ⟨_, rfl⟩
    rw [← hTT] at hT hT0
    have HTT := Frame.hid hTT
    have hTs : T ≤ 288 := by have := triI_small ha.2 hb.2; omega
    obtain ⟨bs, of, rfl, -, -⟩ := hr.h (by rw [hlen]; exact Nat.mul_pos (by omega) (by omega))
    have HC := Frame.hid (trianglesOfTiles_yes bs of xs n c hxn a b ha hb (hxn.trans hlen) hf _ hr1 T hT)
    clear hr hr1 hxn hlen hf hT hno hTT
    cases h3 : fin3 wx wy wz
    · have HF3 := Frame.hid h3
      clear h3
      go_enter Try.func36, Try.ntmps36
      go_wp2_with fail
      refine HC.out.mono ?_
      rintro e w1 ⟨v, rfl, hO, hB1⟩
      have hw1 : w.heap.size < w1.heap.size := by have := hB1.size; simp at this; omega
      have v0 : w1.cell? ⟨w.heap.size, 0, none⟩ = some (.float .f32 wx) := (hB1.cell (by simp)).trans (by simp [go_sem])
      have v1 : w1.cell? ⟨w.heap.size, 1, none⟩ = some (.float .f32 wy) := (hB1.cell (by simp)).trans (by simp [go_sem])
      have v2 : w1.cell? ⟨w.heap.size, 2, none⟩ = some (.float .f32 wz) := (hB1.cell (by simp)).trans (by simp [go_sem])
      have HB1 := Frame.hid (((Below.refl w.heap.size w).alloc (Nat.le_refl _) (.cells #[.float .f32 wx, .float .f32 wy, .float .f32 wz] 57)).trans (hB1.mono (by simp)))
      have HO := Frame.hid hO
      clear hO hB1
      go_wp2_with (go_at_call 78; refine (isSpot_calls _ _ _ _).mono ?_; rintro e w2 ⟨rfl, n2, rfl⟩; rw [HF3.out])
      go_ret2
      refine ⟨_, [], _, rfl, .inl ⟨by rw [HF3.out, Bool.and_false]; rfl, rfl, rfl⟩, OwnedS.nil _ _, ?_⟩
      refine HB1.out.trans (Below.mono ?_ (Nat.le_of_lt hw1))
      (repeat' first | exact Below.refl _ _ | apply below_drewN | (refine Below.alloc ?_ (Nat.le_refl _) _))
    · cases hl : fin .f32 lv
      · have HF3 := Frame.hid h3
        have HFL := Frame.hid hl
        clear h3 hl
        go_enter Try.func36, Try.ntmps36
        go_wp2_with fail
        refine HC.out.mono ?_
        rintro e w1 ⟨v, rfl, hO, hB1⟩
        have hw1 : w.heap.size < w1.heap.size := by have := hB1.size; simp at this; omega
        have v0 : w1.cell? ⟨w.heap.size, 0, none⟩ = some (.float .f32 wx) := (hB1.cell (by simp)).trans (by simp [go_sem])
        have v1 : w1.cell? ⟨w.heap.size, 1, none⟩ = some (.float .f32 wy) := (hB1.cell (by simp)).trans (by simp [go_sem])
        have v2 : w1.cell? ⟨w.heap.size, 2, none⟩ = some (.float .f32 wz) := (hB1.cell (by simp)).trans (by simp [go_sem])
        have HB1 := Frame.hid (((Below.refl w.heap.size w).alloc (Nat.le_refl _) (.cells #[.float .f32 wx, .float .f32 wy, .float .f32 wz] 57)).trans (hB1.mono (by simp)))
        have HO := Frame.hid hO
        clear hO hB1
        go_wp2_with (first | (go_at_call 78; refine (isSpot_calls _ _ _ _).mono ?_; rintro e w2 ⟨rfl, n2, rfl⟩; rw [HF3.out]) | (go_at_call 79; refine (isFinite_calls _ _).mono ?_; rintro e w3 ⟨rfl, n3, rfl⟩; rw [HFL.out]))
        go_ret2
        refine ⟨_, [], _, rfl, .inl ⟨by rw [HFL.out, Bool.and_false], rfl, rfl⟩, OwnedS.nil _ _, ?_⟩
        refine HB1.out.trans (Below.mono ?_ (Nat.le_of_lt hw1))
        (repeat' first | exact Below.refl _ _ | apply below_drewN | (refine Below.alloc ?_ (Nat.le_refl _) _))
      · have HF3 := Frame.hid h3
        have HFL := Frame.hid hl
        clear h3 hl
        go_enter Try.func36, Try.ntmps36
        go_wp2_with fail
        refine HC.out.mono ?_
        rintro e w1 ⟨v, rfl, hO, hB1⟩
        have hw1 : w.heap.size < w1.heap.size := by have := hB1.size; simp at this; omega
        have v0 : w1.cell? ⟨w.heap.size, 0, none⟩ = some (.float .f32 wx) := (hB1.cell (by simp)).trans (by simp [go_sem])
        have v1 : w1.cell? ⟨w.heap.size, 1, none⟩ = some (.float .f32 wy) := (hB1.cell (by simp)).trans (by simp [go_sem])
        have v2 : w1.cell? ⟨w.heap.size, 2, none⟩ = some (.float .f32 wz) := (hB1.cell (by simp)).trans (by simp [go_sem])
        have HB1 := Frame.hid (((Below.refl w.heap.size w).alloc (Nat.le_refl _) (.cells #[.float .f32 wx, .float .f32 wy, .float .f32 wz] 57)).trans (hB1.mono (by simp)))
        obtain ⟨g, cap, rfl, -, hg⟩ := hO.form hT0
        have hcell : ∀ t i, t < T → i < 9 → w1.cell? ⟨g, t * 9 + i, none⟩ = (triCells xs (crn a b (3 * t)) (crn a b (3 * t + 1)) (crn a b (3 * t + 2)))[i]? := fun t i ht hi => (hO.cellAt _ (by omega)).trans (triAll_at xs a b T t i hi ht)
        obtain ⟨off, hoff⟩ : ∃ off, off = 0 := ⟨_, rfl⟩
        have HCELL : Hid (∀ t, t < T → ∀ i, i < 9 → w1.cell? ⟨g, off + t * 9 + i, none⟩ = (triCells xs (crn a b (3 * t)) (crn a b (3 * t + 1)) (crn a b (3 * t + 2)))[i]?) := by
          subst hoff
          intro t ht i hi
          rw [Nat.zero_add]
          exact hcell t i ht hi
        have HG := Frame.hid hg
        have HV := Frame.hid (And.intro v0 (And.intro v1 v2))
        rw [show (⟨g, 0, none⟩ : Addr) = ⟨g, off, none⟩ by rw [hoff]]
        clear hcell hoff hO hB1 hg
        go_wp2_with (first | (go_at_call 78; refine (isSpot_calls _ _ _ _).mono ?_; rintro e w2 ⟨rfl, n2, rfl⟩; rw [HF3.out]) | (go_at_call 79; refine (isFinite_calls _ _).mono ?_; rintro e w3 ⟨rfl, n3, rfl⟩; rw [HFL.out]))
        clear v0 v1 v2
        go_loopw [14, 38] (fun sv kv wr => ∃ (t : Nat) (l : List Sp3), t ≤ T ∧ kv = .int .i64 t ∧ CutA xs a b (wx, wy, wz) lv t l ∧ OwnedS wr w1.heap.size sv l ∧ Below w1.heap.size w1 wr) (fun _ kv _ => T - (intOf kv).toNat)
        case atStart =>
          refine ⟨0, [], Nat.zero_le _, rfl, rfl, OwnedS.nil _ _, ?_⟩
          (repeat' first | exact Below.refl _ _ | apply below_drewN | (refine Below.alloc ?_ (Nat.le_refl _) _))
        case round =>
          obtain ⟨t, l, ht, rfl, hA, hO, hB⟩ := hrel
          have HA := Frame.hid hA
          have HO := Frame.hid hO
          have HB := Frame.hid hB
          have hll := hA.len
          clear hA
          by_cases hlt : t < T
          · have hcell : ∀ i, i < 9 → wr.cell? ⟨g, off + t * 9 + i, none⟩ = (triCells xs (crn a b (3 * t)) (crn a b (3 * t + 1)) (crn a b (3 * t + 2)))[i]? := fun i hi => (hB.cell HG.out).trans (HCELL.out t hlt i hi)
            unfold triCells at hcell
            have v0 : wr.cell? ⟨w.heap.size, 0, none⟩ = some (.float .f32 wx) := (hB.cell hw1).trans HV.out.1
            have v1 : wr.cell? ⟨w.heap.size, 1, none⟩ = some (.float .f32 wy) := (hB.cell hw1).trans HV.out.2.1
            have v2 : wr.cell? ⟨w.heap.size, 2, none⟩ = some (.float .f32 wz) := (hB.cell hw1).trans HV.out.2.2
            obtain ⟨X0, hX0⟩ : ∃ u, u = sx xs (crn a b (3 * t)) := ⟨_, rfl⟩
            obtain ⟨Y0, hY0⟩ : ∃ u, u = sy xs (crn a b (3 * t)) := ⟨_, rfl⟩
            obtain ⟨Z0, hZ0⟩ : ∃ u, u = sz xs (crn a b (3 * t)) := ⟨_, rfl⟩
            obtain ⟨X1, hX1⟩ : ∃ u, u = sx xs (crn a b (3 * t + 1)) := ⟨_, rfl⟩
            obtain ⟨Y1, hY1⟩ : ∃ u, u = sy xs (crn a b (3 * t + 1)) := ⟨_, rfl⟩
            obtain ⟨Z1, hZ1⟩ : ∃ u, u = sz xs (crn a b (3 * t + 1)) := ⟨_, rfl⟩
            obtain ⟨X2, hX2⟩ : ∃ u, u = sx xs (crn a b (3 * t + 2)) := ⟨_, rfl⟩
            obtain ⟨Y2, hY2⟩ : ∃ u, u = sy xs (crn a b (3 * t + 2)) := ⟨_, rfl⟩
            obtain ⟨Z2, hZ2⟩ : ∃ u, u = sz xs (crn a b (3 * t + 2)) := ⟨_, rfl⟩
            have c0 : wr.cell? ⟨g, off + t * 9, none⟩ = some (.float .f32 X0) := (hcell 0 (by omega)).trans (by rw [← hX0]; rfl)
            have c1 : wr.cell? ⟨g, off + t * 9 + 1, none⟩ = some (.float .f32 Y0) := (hcell 1 (by omega)).trans (by rw [← hY0]; rfl)
            have c2 : wr.cell? ⟨g, off + t * 9 + 2, none⟩ = some (.float .f32 Z0) := (hcell 2 (by omega)).trans (by rw [← hZ0]; rfl)
            have c3 : wr.cell? ⟨g, off + t * 9 + 3, none⟩ = some (.float .f32 X1) := (hcell 3 (by omega)).trans (by rw [← hX1]; rfl)
            have c4 : wr.cell? ⟨g, off + t * 9 + 4, none⟩ = some (.float .f32 Y1) := (hcell 4 (by omega)).trans (by rw [← hY1]; rfl)
            have c5 : wr.cell? ⟨g, off + t * 9 + 5, none⟩ = some (.float .f32 Z1) := (hcell 5 (by omega)).trans (by rw [← hZ1]; rfl)
            have c6 : wr.cell? ⟨g, off + t * 9 + 6, none⟩ = some (.float .f32 X2) := (hcell 6 (by omega)).trans (by rw [← hX2]; rfl)
            have c7 : wr.cell? ⟨g, off + t * 9 + 7, none⟩ = some (.float .f32 Y2) := (hcell 7 (by omega)).trans (by rw [← hY2]; rfl)
            have c8 : wr.cell? ⟨g, off + t * 9 + 8, none⟩ = some (.float .f32 Z2) := (hcell 8 (by omega)).trans (by rw [← hZ2]; rfl)
            have hgw : g < wr.heap.size := Nat.lt_of_lt_of_le HG.out hB.size
            have hww : w.heap.size < wr.heap.size := Nat.lt_of_lt_of_le hw1 hB.size
            have HXYZ := Frame.hid (And.intro hX0 (And.intro hY0 (And.intro hZ0 (And.intro hX1 (And.intro hY1 (And.intro hZ1 (And.intro hX2 (And.intro hY2 hZ2))))))))
            clear hcell hB hX0 hY0 hZ0 hX1 hY1 hZ1 hX2 hY2 hZ2 hO
            go_wp2_with fail
            refine (cuts_calls _ _ _ _ _ _ _ _ _ _ _ _ _ _).mono ?_
            rintro e w2 ⟨v3, q, rfl, hCN, hO2, hB2⟩
            have HCN : Hid (CutA xs a b (wx, wy, wz) lv (t + 1) (l ++ q)) := by obtain ⟨rfl, rfl, rfl, rfl, rfl, rfl, rfl, rfl, rfl⟩ := HXYZ.out; exact ⟨l, q, HA.out, hCN, rfl⟩
            have hql := hCN.len
            have hBT : Below wr.heap.size wr w2 := (below_ch (below_al _ (below_st _)) hB2 rfl).2
            have HBT := Frame.hid hBT
            have HOW := Frame.hid (HO.out.kept hBT)
            have hs1 := HB.out.size
            have hs2 := hBT.size
            clear hCN hBT hB2 HXYZ c0 c1 c2 c3 c4 c5 c6 c7 c8 v0 v1 v2
            obtain ⟨i0, hi, hz0, hz1, hz2⟩ := info_parts infoSpot
            have hO2' := hO2.2
            rcases hO2' with ⟨rfl, hq0⟩ | ⟨g2, cap2, cur2, rfl, -⟩
            · obtain rfl : q = [] := List.eq_nil_of_length_eq_zero hq0
              clear hO2
              go_wp2_with (at_builtin; refine wpList_append_own_none rfl _ _ 26 rfl w1.heap.size 57 i0 3 Try.underlying26 hi u14 l.length (cellsS l) rfl HOW.out rfl ?_)
              go_roundw
              case rel => exact ⟨t + 1, l ++ [], by omega, by go_num, HCN.out, by rw [List.append_nil]; exact HOW.out, HB.out.trans (HBT.out.mono hs1)⟩
              case measure => simp [intOf]; omega
            · have HNW := Frame.hid (hO2.cells (g := g2) rfl)
              clear hO2
              go_wp2_with (at_builtin; refine wpList_append_own _ rfl _ _ 26 rfl w1.heap.size 57 i0 (.agg #[.float .f32 0, .float .f32 0, .float .f32 0]) 3 12 Try.underlying26 hi hz0 hz1 hz2 rfl (by decide) u14 l.length (cellsS l) rfl HOW.out ⟨g2, 0, none⟩ q.length cap2 (cellsS q) rfl (cellsS_len q) HNW.out (cellsS_one _) (by unfold maxLen; omega) (by omega) (by omega) ?_; intro v4 w3 hown3 hgrow3 hnil3; have HBW := Frame.hid (Below.grown (B := w1.heap.size) (a := wr) (HBT.out.mono hs1) hgrow3 (by omega) (fun k' hk' => (World.ownsRow.lt HOW.out k' hk').1)); have HOX := Frame.hid (own_appS hown3); clear hown3 hgrow3 hnil3)
              go_roundw
              case rel => exact ⟨t + 1, l ++ q, by omega, by go_num, HCN.out, HOX.out, HB.out.trans HBW.out⟩
              case measure => simp [intOf]; omega
          · obtain rfl : t = T := by omega
            obtain ⟨A2, c2, rfl, hrd⟩ := hO.rd
            have HAS := Frame.hid (areSpots_calls A2 l c2 wr (by omega) hrd)
            have hsw := hB.size
            clear hB hrd hO
            go_wp2_with fail
            refine HAS.out.mono ?_
            rintro e w2 ⟨rfl, hB2⟩
            have HBE := Frame.hid (HB1.out.trans ((HB.out.trans (hB2.mono hsw)).mono (Nat.le_of_lt hw1)))
            have HOE := Frame.hid ((HO.out.kept hB2).mono' (Nat.le_of_lt hw1))
            clear hB2
            cases hfl : finS l
            · go_wp2_with fail
              go_ret2
              exact ⟨_, [], _, rfl, .inr ⟨by rw [HNO.out, HF3.out, HFL.out]; rfl, a, b, rfl, rfl, l, by rw [← HTT.out]; exact HA.out, hfl.symm, by rw [hfl]; rfl⟩, OwnedS.nil _ _, HBE.out⟩
            · go_wp2_with fail
              go_ret2
              exact ⟨_, l, _, rfl, .inr ⟨by rw [HNO.out, HF3.out, HFL.out]; rfl, a, b, rfl, rfl, l, by rw [← HTT.out]; exact HA.out, hfl.symm, by rw [hfl]; rfl⟩, HOE.out, HBE.out⟩

end Go.Proofs.Ytnhpiebddelebaa
