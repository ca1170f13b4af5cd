/-
  Times of pieces, and the points of a plain curve at them.
-/
import Derived.Test.YtbdmmpkphiilkaaCa
import Derived.Test.YtbdmmpkphiilkaaEf
import Derived.Laws.Cover2
namespace Go.Proofs.Ytbdmmpkphiilkaa
open Go.RowKit Fl Ieee
attribute [local go_sem] run_store_c run_store_f

/-- The quotient of k and n. -/
def tq (n k : Nat) : Nat := (floatBits .quo .f32 (floatOfInt .f32 (k : Int)) (floatOfInt .f32 (n : Int))).getD 0
/-- A quotient that is told, and a time. -/
def tqOk (n k : Nat) : Bool := (floatBits .quo .f32 (floatOfInt .f32 (k : Int)) (floatOfInt .f32 (n : Int))).isSome && match FloatKind.f32.format.read (tq n k) with
  | .number false m p => decide (dv false m p ≤ 1)
  | _ => false
theorem tq_told {n k : Nat} (h : tqOk n k = true) : floatBits .quo .f32 (floatOfInt .f32 (k : Int)) (floatOfInt .f32 (n : Int)) = some (tq n k) := by
  unfold tqOk at h
  rw [Bool.and_eq_true] at h
  obtain ⟨r, hr⟩ := Option.isSome_iff_exists.1 h.1
  unfold tq
  rw [hr]
  rfl
theorem tq_wt {n k : Nat} (h : tqOk n k = true) : ∃ s τ, WtT s (tq n k) τ := by
  have hlt : tq n k < 4294967296 := lt32 (bits_lt (tq_told h))
  unfold tqOk at h
  rw [Bool.and_eq_true] at h
  obtain ⟨_, h⟩ := h
  split at h
  · rename_i m p hr
    have h1 := of_decide_eq_true h
    obtain ⟨s, hs⟩ := wt_told hlt ⟨false, m, p, hr, rfl⟩ (mag_nonneg m p) h1
    exact ⟨s, _, hs⟩
  · cases h

theorem make_f (n : Nat) (hn : n ≤ 1000) (W : World) : (Instr.makeSlice 35 (.int .i64 (n : Int)) (.int .i64 (n : Int))).run Try.prog W = .ok (.slice (some ⟨W.heap.size, 0, none⟩) n n) (W.alloc (.cells (madeCells #[.float .f32 0] n) 27)) := by
  obtain ⟨i, hi, hz0, hz1, hz2⟩ := info_parts Try.infoF
  have hr := run_make (P := Try.prog) W 35 27 i _ Try.underlying35 hi hz0 .i64 .i64 n n (by omega) (Int.le_refl _) (by rw [hz2]; omega) (by omega)
  rw [hz1] at hr
  simp only [Int.toNat_natCast, Nat.mul_one] at hr
  exact hr
theorem made_f (n : Nat) (hn : n ≤ 1000) (W : World) : OwnF (W.alloc (.cells (madeCells #[.float .f32 0] n) 27)) W.heap.size (.slice (some ⟨W.heap.size, 0, none⟩) n n) (List.replicate n 0) := by
  have h := World.ownsRow_lit W (madeCells #[.float .f32 0] n) n (base := W.heap.size) (e := 27) (size := 1) (Nat.le_refl _) (by unfold maxLen; omega) (by rw [size_madeCells]; omega)
  rw [toList_madeCells_one] at h
  unfold OwnF fl
  rw [List.length_replicate, List.map_replicate]
  exact h
theorem make_c (n : Nat) (hn : n ≤ 1000) (W : World) : (Instr.makeSlice 25 (.int .i64 (n : Int)) (.int .i64 (n : Int))).run Try.prog W = .ok (.slice (some ⟨W.heap.size, 0, none⟩) n n) (W.alloc (.cells (madeCells #[.complex .f32 0 0] n) 26)) := by
  obtain ⟨i, hi, hz0, hz1, hz2⟩ := info_parts Try.infoC
  have hr := run_make (P := Try.prog) W 25 26 i _ Try.underlying25 hi hz0 .i64 .i64 n n (by omega) (Int.le_refl _) (by rw [hz2]; omega) (by omega)
  rw [hz1] at hr
  simp only [Int.toNat_natCast, Nat.mul_one] at hr
  exact hr
theorem made_c (n : Nat) (hn : n ≤ 1000) (W : World) : OwnC (W.alloc (.cells (madeCells #[.complex .f32 0 0] n) 26)) W.heap.size (.slice (some ⟨W.heap.size, 0, none⟩) n n) (List.replicate n (0, 0)) := by
  have h := World.ownsRow_lit W (madeCells #[.complex .f32 0 0] n) n (base := W.heap.size) (e := 26) (size := 1) (Nat.le_refl _) (by unfold maxLen; omega) (by rw [size_madeCells]; omega)
  rw [toList_madeCells_one] at h
  unfold OwnC cl
  rw [List.length_replicate, List.map_replicate]
  exact h

/-- The first q times. -/
def TimesR (n : Nat) (w : World) (v i : Value) (wr : World) : Prop :=
  ∃ (q : Nat) (ys : List Nat), q ≤ n + 1 ∧ i = .int .i64 q ∧ ys.length = n + 1 ∧ (∀ k, k < q → ys.getD k 0 = tq n k) ∧ OwnF wr w.heap.size v ys ∧ Below w.heap.size w wr

set_option maxRecDepth 100000 in
set_option maxHeartbeats 4000000 in
theorem timesOfPieces_calls (n : Nat) (h1 : 1 ≤ n) (hn : n ≤ 64) (hok : ∀ k, k ≤ n → tqOk n k = true) (w : World) :
    Calls Try.prog 51 #[.int .i64 (n : Int)] w fun e w' => ∃ ts : List Nat, ts.length = n + 1 ∧ (∀ k, k < n + 1 → ts.getD k 0 = tq n k) ∧ e = .returned (.tuple #[.slice (some ⟨w.heap.size, 0, none⟩) (n + 1) (n + 1), .bool true]) ∧ OwnF w' w.heap.size (.slice (some ⟨w.heap.size, 0, none⟩) (n + 1) (n + 1)) ts ∧ Below w.heap.size w w' := by
  have hmk := make_f (n + 1) (by omega)
  rw [show ((n + 1 : Nat) : Int) = (n : Int) + 1 by omega] at hmk
  have hn1 : 1 ≤ (n : Int) := by omega
  have hn2 : (n : Int) ≤ 64 := by omega
  have hwr : IntKind.i64.wrap ((n : Int) + 1) = ((n + 1 : Nat) : Int) := by rw [IntKind.wrap_i64]; omega
  have HOK := Frame.hid hok
  have HM := Frame.hid (made_f (n + 1) (by omega) w)
  clear hok
  go_enter Try.func51, Try.ntmps51
  go_wp2_with fail
  go_loopw [17] (fun i wr => TimesR n w (.slice (some ⟨w.heap.size, 0, none⟩) (n + 1) (n + 1)) i wr) (fun i _ => n + 1 - (intOf i).toNat)
  case atStart => exact ⟨0, _, by omega, rfl, by simp, fun k hk => absurd hk (by omega), HM.out, (Below.refl _ w).alloc (Nat.le_refl _) _⟩
  case round =>
    obtain ⟨q, ys, hq, rfl, hl, hy, hO, hB⟩ := hrel
    have HO := Frame.hid hO
    have HB := Frame.hid hB
    have HY := Frame.hid hy
    by_cases hlt : q < n + 1
    · have c1 := hO.cell hl.symm (j := q) (by omega)
      have fz := hO.froz hl.symm q
      have hq1 : (q : Int) < (n : Int) + 1 := by omega
      have hdv := ta (tq_told (HOK.out q (by omega)))
      clear hO hB hy
      go_wp2_with fail
      go_roundw
      case rel =>
        refine ⟨q + 1, ys.set q (tq n q), by omega, by go_num, by rw [List.length_set, hl], fun k hk => ?_, HO.out.put hl.symm q _, HB.out.setCell (p := ⟨w.heap.size, q, none⟩) (Nat.le_refl _) _⟩
        rw [getD_set _ _ _ _ (by omega)]
        by_cases e : k = q
        · rw [if_pos e, e]
        · rw [if_neg e]; exact HY.out k (by omega)
      case measure => simp [intOf]; omega
    · have hqn : q = n + 1 := by omega
      subst hqn
      clear hO hB hy
      go_wp2_with fail
      go_ret2
      exact ⟨ys, hl, HY.out, rfl, HO.out, HB.out⟩

set_option maxRecDepth 100000 in
set_option maxHeartbeats 4000000 in
theorem pointsClosure_calls (A B : Option Addr) (ps : List (Nat × Nat)) (c1 c2 s t C : Nat) (τ : Rat) (hw : WtT s t τ) (h2 : 2 ≤ ps.length) (hn : ps.length ≤ 8) (h8 : All8 0 ps) (w : World) (hA : RdC w A ps) (hB : RdOne w B ps.length)
    (hc1 : w.cell? ⟨C, 0, none⟩ = some (.slice A ps.length c1)) (hc2 : w.cell? ⟨C, 1, none⟩ = some (.slice B ps.length c2)) :
    Calls Try.prog 89 #[.float .f32 t, .pointer (some ⟨C, 0, none⟩)] w fun e w' => ∃ x y, e = .returned (.tuple #[.complex .f32 x y, .bool true]) ∧ CutP s t ps (x, y) ∧ x < 4294967296 ∧ y < 4294967296 ∧ Below w.heap.size w w' := by
  have HC := Frame.hid (curveAt_calls A B ps c1 c2 s t τ hw h2 hn h8 w hA hB)
  clear hw h8 hA hB
  go_enter Try.func89, Try.ntmps89
  go_wp2_with fail
  refine HC.out.mono ?_
  rintro e w1 ⟨x, y, rfl, h1, h2, h3, h4⟩
  have H1 := Frame.hid h1
  have H2 : Unit → x < 4294967296 := fun _ => h2
  have H3 : Unit → y < 4294967296 := fun _ => h3
  have H4 := Frame.hid h4
  clear h1 h2 h3 h4
  go_wp2_with fail
  go_ret2
  exact ⟨x, y, rfl, H1.out, H2 (), H3 (), H4.out⟩

theorem OwnC.mono' {w : World} {base base' : Nat} {v : Value} {ys : List (Nat × Nat)} (h : OwnC w base v ys) (hb : base' ≤ base) : OwnC w base' v ys := by
  refine ⟨h.1, ?_⟩
  rcases h.2 with hn | ⟨g, cap, cur, hv, hbg, rest⟩
  · exact .inl hn
  · exact .inr ⟨g, cap, cur, hv, by omega, rest⟩
/-- Words of points. -/
def BndP (zs : List (Nat × Nat)) : Prop := ∀ k, k < zs.length → (zs.getD k (0, 0)).1 < 4294967296 ∧ (zs.getD k (0, 0)).2 < 4294967296
/-- A point of a curve at each of the times. -/
def PtsR (ps : List (Nat × Nat)) (n q : Nat) (zs : List (Nat × Nat)) : Prop := ∀ k, k < q → ∃ s τ, WtT s (tq n k) τ ∧ CutP s (tq n k) ps (zs.getD k (0, 0))

def PtsAt (ps : List (Nat × Nat)) (n : Nat) (w : World) (v i : Value) (wr : World) : Prop :=
  ∃ (q : Nat) (zs : List (Nat × Nat)), q ≤ n + 1 ∧ i = .int .i64 q ∧ zs.length = n + 1 ∧ PtsR ps n q zs ∧ BndP zs ∧ OwnC wr w.heap.size v zs ∧ Below w.heap.size w wr

set_option maxRecDepth 100000 in
set_option maxHeartbeats 4000000 in
theorem valuesAtC_calls (A B : Option Addr) (ps : List (Nat × Nat)) (c1 c2 C n g : Nat) (ts : List Nat) (h1 : 1 ≤ n) (hn64 : n ≤ 64) (hok : ∀ k, k ≤ n → tqOk n k = true) (hl : ts.length = n + 1) (hts : ∀ k, k < n + 1 → ts.getD k 0 = tq n k) (h2 : 2 ≤ ps.length) (hn : ps.length ≤ 8) (h8 : All8 0 ps) (w : World) (hA : RdC w A ps) (hB : RdOne w B ps.length) (hCs : C < w.heap.size)
    (hc1 : w.cell? ⟨C, 0, none⟩ = some (.slice A ps.length c1)) (hc2 : w.cell? ⟨C, 1, none⟩ = some (.slice B ps.length c2)) (hT : ∀ j, j < n + 1 → w.cell? ⟨g, j, none⟩ = some (.float .f32 (ts.getD j 0))) (hgs : g < w.heap.size) :
    Calls Try.prog 88 #[.slice (some ⟨g, 0, none⟩) (n + 1) (n + 1), .func (.func 89) #[] #[.pointer (some ⟨C, 0, none⟩)]] w fun e w' => ∃ zs : List (Nat × Nat), zs.length = n + 1 ∧ PtsR ps n (n + 1) zs ∧ BndP zs ∧ e = .returned (.tuple #[.slice (some ⟨w.heap.size, 0, none⟩) (n + 1) (n + 1), .bool true]) ∧ OwnC w' w.heap.size (.slice (some ⟨w.heap.size, 0, none⟩) (n + 1) (n + 1)) zs ∧ Below w.heap.size w w' := by
  have hmk := make_c (n + 1) (by omega)
  rw [show ((n + 1 : Nat) : Int) = (n : Int) + 1 by omega] at hmk
  have hn1 : 1 ≤ (n : Int) := by omega
  have hn2 : (n : Int) ≤ 64 := by omega
  have HM := Frame.hid (made_c (n + 1) (by omega) w)
  have H8 := Frame.hid h8
  have HA := Frame.hid hA
  have HB := Frame.hid hB
  have HOK := Frame.hid hok
  have HTS := Frame.hid hts
  have HT := Frame.hid hT
  have HC1 := Frame.hid hc1
  have HC2 := Frame.hid hc2
  clear h8 hA hB hok hT hc1 hc2 hts
  go_enter Try.func88, Try.ntmps88
  go_wp2_with fail
  go_loopw [16] (fun i wr => PtsAt ps n w (.slice (some ⟨w.heap.size, 0, none⟩) (n + 1) (n + 1)) i wr) (fun i _ => n + 1 - (intOf i).toNat)
  case atStart => exact ⟨0, _, by omega, rfl, by simp, fun k hk => absurd hk (by omega), fun k hk => by rw [List.length_replicate] at hk; rw [List.getD_eq_getElem?_getD, List.getElem?_replicate, if_pos hk]; exact ⟨by decide, by decide⟩, HM.out, (Below.refl _ w).alloc (Nat.le_refl _) _⟩
  case round =>
    obtain ⟨q, zs, hq, rfl, hlz, hP, hZ, hO, hb⟩ := hrel
    have HO := Frame.hid hO
    have HBW := Frame.hid hb
    have HP := Frame.hid hP
    have HZ := Frame.hid hZ
    by_cases hlt : q < n + 1
    · have ct : wr.cell? ⟨g, q, none⟩ = some (.float .f32 (tq n q)) := by
        rw [World.cell?_of_block (hb.block _ hgs), HT.out q hlt, HTS.out q hlt]
      have hq1 : (q : Int) < (n : Int) + 1 := by omega
      obtain ⟨s, τ, hw⟩ := tq_wt (HOK.out q (by omega))
      have HW := Frame.hid hw
      have HCL := Frame.hid (pointsClosure_calls A B ps c1 c2 s (tq n q) C τ hw h2 hn H8.out wr (HA.out.below hb) (HB.out.below hb) ((World.cell?_of_block (hb.block _ hCs)).trans HC1.out) ((World.cell?_of_block (hb.block _ hCs)).trans HC2.out))
      clear hO hb hP hZ hw
      go_wp2_with fail
      refine HCL.out.mono ?_
      rintro e w1 ⟨x, y, rfl, hcut, hxl, hyl, hb1⟩
      have hO1 : OwnC w1 w.heap.size (.slice (some ⟨w.heap.size, 0, none⟩) (n + 1) (n + 1)) zs := HO.out.below hb1
      have HO1 := Frame.hid hO1
      have HB1 : Hid (Below w.heap.size w w1) := Frame.hid (HBW.out.trans (hb1.mono HBW.out.size))
      have c1' := hO1.cell hlz.symm (j := q) (by omega)
      have fz := hO1.froz hlz.symm q
      have HCT := Frame.hid hcut
      have HX : Unit → x < 4294967296 := fun _ => hxl
      have HY : Unit → y < 4294967296 := fun _ => hyl
      clear hO1 hb1 hcut hxl hyl HCL ct
      go_wp2_with fail
      go_roundw
      case rel =>
        refine ⟨q + 1, zs.set q (x, y), by omega, by go_num, by rw [List.length_set, hlz], fun k hk => ?_, fun k hk => ?_, HO1.out.put hlz.symm q (x, y), HB1.out.setCell (p := ⟨w.heap.size, q, none⟩) (Nat.le_refl _) _⟩
        · rw [getD_setP _ _ _ _ (by omega)]
          by_cases e : k = q
          · rw [if_pos e, e]; exact ⟨s, τ, HW.out, HCT.out⟩
          · rw [if_neg e]; exact HP.out k (by omega)
        · rw [List.length_set] at hk
          rw [getD_setP _ _ _ _ (by omega)]
          by_cases e : k = q
          · rw [if_pos e]; exact ⟨HX (), HY ()⟩
          · rw [if_neg e]; exact HZ.out k hk
      case measure => simp [intOf]; omega
    · have hqn : q = n + 1 := by omega
      subst hqn
      clear hO hb hP hZ
      go_wp2_with fail
      go_ret2
      exact ⟨zs, hlz, HP.out, HZ.out, rfl, HO.out, HBW.out⟩

set_option maxRecDepth 100000 in
set_option maxHeartbeats 4000000 in
theorem pointsOfPieces_calls (A B : Option Addr) (ps : List (Nat × Nat)) (c1 c2 n : Nat) (h1 : 1 ≤ n) (hn64 : n ≤ 64) (hok : ∀ k, k ≤ n → tqOk n k = true) (h2 : 2 ≤ ps.length) (hn : ps.length ≤ 8) (h8 : All8 0 ps) (w : World) (hA : RdC w A ps) (hB : RdOne w B ps.length) :
    Calls Try.prog 46 #[.agg #[.slice A ps.length c1, .slice B ps.length c2], .int .i64 (n : Int)] w fun e w' => ∃ (g : Nat) (zs : List (Nat × Nat)), zs.length = n + 1 ∧ PtsR ps n (n + 1) zs ∧ BndP zs ∧ e = .returned (.tuple #[.slice (some ⟨g, 0, none⟩) (n + 1) (n + 1), .bool true]) ∧ OwnC w' w.heap.size (.slice (some ⟨g, 0, none⟩) (n + 1) (n + 1)) zs ∧ Below w.heap.size w w' := by
  have hmf : ∀ (fn : Fn) (first cap : Array Value) (w : World), (Instr.makeFunc fn first cap).run Try.prog w = .ok (.func fn first cap) w := fun _ _ _ _ => rfl
  obtain ⟨W, hW⟩ : ∃ W, W = w.alloc (Obj.cells #[.slice A ps.length c1, .slice B ps.length c2] 37) := ⟨_, rfl⟩
  have hBW : Below w.heap.size w W := by rw [hW]; exact (Below.refl _ w).alloc (Nat.le_refl _) _
  have d1 : W.cell? ⟨w.heap.size, 0, none⟩ = some (.slice A ps.length c1) := by rw [hW, World.cell?_alloc_at _ _ _ _ rfl]; rfl
  have d2 : W.cell? ⟨w.heap.size, 1, none⟩ = some (.slice B ps.length c2) := by rw [hW, World.cell?_alloc_at _ _ _ _ rfl]; rfl
  have hsz : w.heap.size < W.heap.size := by rw [hW]; simp
  have HT := Frame.hid (timesOfPieces_calls n h1 hn64 hok W)
  have HP := Frame.hid (fun (ts : List Nat) (hl : ts.length = n + 1) (hts : ∀ k, k < n + 1 → ts.getD k 0 = tq n k) (w1 : World) (hb : Below W.heap.size W w1) (hO : OwnF w1 W.heap.size (.slice (some ⟨W.heap.size, 0, none⟩) (n + 1) (n + 1)) ts) =>
    valuesAtC_calls A B ps c1 c2 w.heap.size n W.heap.size ts h1 hn64 hok hl hts h2 hn h8 w1 ((hA.below hBW).below hb) ((hB.below hBW).below hb) (Nat.lt_of_lt_of_le hsz hb.size) ((World.cell?_of_block (hb.block _ hsz)).trans d1) ((World.cell?_of_block (hb.block _ hsz)).trans d2) (fun j hj => hO.cell hl.symm (by omega)) (by
      obtain ⟨g', cap', e1, _, e2⟩ := hO.shape (by omega)
      injection e1 with e1
      injection e1 with e1
      injection e1 with e1
      omega))
  have HBW := Frame.hid hBW
  clear hBW hA hB h8 hok d1 d2
  go_enter Try.func46, Try.ntmps46
  go_wp2_with fail
  rw [← hW]
  clear hW
  refine HT.out.mono ?_
  rintro e w1 ⟨ts, hl, hts, rfl, hO, hb⟩
  have HV := Frame.hid (HP.out ts hl hts w1 hb hO)
  have HB1 : Hid (Below w.heap.size w w1) := Frame.hid (HBW.out.trans (hb.mono HBW.out.size))
  clear hts hO hb HT HP
  go_wp2_with fail
  refine HV.out.mono ?_
  rintro e w2 ⟨zs, hlz, hP, hZ, rfl, hO, hb⟩
  have HP := Frame.hid hP
  have HZ := Frame.hid hZ
  have HO := Frame.hid hO
  have HB2 : Hid (Below w.heap.size w w2) := Frame.hid (HB1.out.trans (hb.mono HB1.out.size))
  clear hP hZ hO hb HV
  go_wp2_with fail
  go_ret2
  exact ⟨_, zs, hlz, HP.out, HZ.out, rfl, OwnC.mono' HO.out HB1.out.size, HB2.out⟩

end Go.Proofs.Ytbdmmpkphiilkaa
