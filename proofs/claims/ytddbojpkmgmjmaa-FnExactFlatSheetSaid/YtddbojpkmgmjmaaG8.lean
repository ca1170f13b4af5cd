/-
  FlatSheet, the program's side: the sheet that is made of the closure's spots.
-/
import Derived.Test.YtddbojpkmgmjmaaG4
import Derived.Test.YtddbojpkmgmjmaaG6
namespace Go.Proofs.Ytddbojpkmgmjmaa
open Go.RowKit Fl Go.WideShapes Go.Deep
attribute [local go_sem] kstore_f kalloc_drewN kset_drewN hstore_i hstore_s

set_option maxRecDepth 100000 in
set_option maxHeartbeats 4000000 in
theorem sheetOfFlat_calls (p q wide long gw ga gl gn : Nat) (hp : 2 ≤ p ∧ p ≤ 6) (hq : 2 ≤ q ∧ q ≤ 6) (w : World) (cw : w.cell? ⟨gw, 0, none⟩ = some (.float .f32 wide)) (ca : w.cell? ⟨ga, 0, none⟩ = some (.int .i64 p)) (cl : w.cell? ⟨gl, 0, none⟩ = some (.float .f32 long)) (cn : w.cell? ⟨gn, 0, none⟩ = some (.int .i64 q))
    (lw : gw < w.heap.size) (la : ga < w.heap.size) (ll : gl < w.heap.size) (ln : gn < w.heap.size) :
    Calls Try.prog 58 #[.int .i64 p, .int .i64 q, .func (.func 59) #[] #[.pointer (some ⟨gw, 0, none⟩), .pointer (some ⟨ga, 0, none⟩), .pointer (some ⟨gl, 0, none⟩), .pointer (some ⟨gn, 0, none⟩)]] w fun e w' => ∃ v zs, e = .returned (.agg #[.int .i64 p, .int .i64 q, v]) ∧ FlatZ p q wide long zs ∧ OwnedS w' w.heap.size v zs ∧ Below w.heap.size w w' := by
  obtain ⟨i0, hi, hz0, hz1, hz2⟩ := info_parts infoSpot
  have hcl := fun W (h : Below w.heap.size w W) i j => flatSpot_calls p q wide long gw ga gl gn hp hq i j W ((h.cell (p := ⟨gw, 0, none⟩) lw).trans cw) ((h.cell (p := ⟨ga, 0, none⟩) la).trans ca) ((h.cell (p := ⟨gl, 0, none⟩) ll).trans cl) ((h.cell (p := ⟨gn, 0, none⟩) ln).trans cn) (Nat.lt_of_lt_of_le lw h.size) (Nat.lt_of_lt_of_le la h.size) (Nat.lt_of_lt_of_le ll h.size) (Nat.lt_of_lt_of_le ln h.size)
  have HCL := Frame.hid hcl
  clear hcl cw ca cl cn lw la ll ln
  go_enter Try.func58, Try.ntmps58
  go_wp2_with fail
  go_loopw [14] (fun jv wr => ∃ j v zs, j ≤ q ∧ jv = .int .i64 (j : Nat) ∧ zs.length = j * p ∧ FlatL p q wide long zs ∧ FillAt w (w.heap.size + 1) p q v zs wr) (fun jv _ => q - (intOf jv).toNat)
  case atStart =>
    refine ⟨0, .slice none 0 0, [], Nat.zero_le _, rfl, by simp, FlatL.nil, ⟨?_, OwnedS.nil _ _, by omega, ?_, ?_, ?_, ?_⟩⟩
    · refine ⟨?_, ?_, ?_, by simp; try omega⟩ <;> simp [go_sem]
    · exact ((Below.refl _ w).alloc (Nat.le_refl _) _).alloc (by simp) _
    · intro i; simp [go_sem]
    · refine ⟨?_, ?_, ?_, by simp; try omega⟩ <;> simp [go_sem]
    · intro i; simp [go_sem]
  case round =>
    obtain ⟨j, v, zs, hj, rfl, hzk, hZL, hF⟩ := hrel
    have HF := Frame.hid hF
    have HZK := Frame.hid hzk
    have HZL := Frame.hid hZL
    obtain ⟨d0, d1, d2, d3, d4, d5, d6, d7, d8⟩ := hF.facts
    clear hF hzk hZL
    by_cases hlt : j < q
    · clear d0 d1 d2 d3 d4 d5 d6 d7 d8
      go_wp2_with fail
      go_loopw [18] (fun iv wr => ∃ i v zs, i ≤ p ∧ iv = .int .i64 (i : Nat) ∧ zs.length = j * p + i ∧ FlatL p q wide long zs ∧ FillAt w (w.heap.size + 1) p q v zs wr) (fun iv _ => p - (intOf iv).toNat)
      case atStart => exact ⟨0, v, zs, Nat.zero_le _, rfl, HZK.out, HZL.out, HF.out⟩
      case round =>
        obtain ⟨i, v', zs, hi', rfl, hzk, hZL, hF⟩ := hrel
        have HF2 := Frame.hid hF
        obtain ⟨d0, d1, d2, d3, d4, d5, d6, d7, d8⟩ := FillAt.facts hF
        have HZK2 := Frame.hid hzk
        have HZL2 := Frame.hid hZL
        clear hF hzk hZL
        by_cases hlt2 : i < p
        · obtain ⟨L, hL⟩ : ∃ L, L = j * p + i := ⟨_, rfl⟩
          have hL36 : L ≤ 36 := by
            have h1 : (j + 1) * p ≤ q * p := Nat.mul_le_mul_right p hlt
            have h2 : q * p ≤ 36 := Nat.mul_le_mul hq.2 hp.2
            rw [Nat.succ_mul] at h1
            omega
          have hmod : L % p = i := by rw [hL, Nat.mul_comm, Nat.mul_add_mod, Nat.mod_eq_of_lt hlt2]
          have hdiv : L / p = j := by rw [hL, Nat.mul_comm, Nat.mul_add_div (by omega), Nat.div_eq_of_lt hlt2, Nat.add_zero]
          have hfp : ∀ x y, FlatR p q wide long (i : Int) (j : Int) x y → FlatP p q wide long L (x, y, 0) := fun x y h => by
            refine ⟨rfl, ?_⟩
            rw [hmod, hdiv]
            exact h
          have hown : wr.ownsRow (w.heap.size + 1 + 1) 44 3 v' L (cellsS zs) := by have h := HF2.out.own; unfold OwnedS at h; rw [HZK2.out, ← hL] at h; exact h
          have HO := Frame.hid hown
          have HFP := Frame.hid hfp
          have HLL := Frame.hid hL
          clear hfp hL hmod hdiv hown
          go_wp2_with fail
          go_region_law (first | (refine step_append_any rfl _ _ 23 rfl (w.heap.size + 1 + 1) 44 i0 (.agg #[.float .f32 0, .float .f32 0, .float .f32 0]) 3 12 Try.underlying23 hi hz0 hz1 hz2 rfl (by decide) v' L (cellsS zs) rfl ?_ ⟨w'.heap.size, 0, none⟩ 1 1 (cellsS [(x, y, 0)]) rfl rfl ?_ (cellsS_one _) ?_ ?_ ?_ ?_; (· (repeat' first | with_reducible exact HO.out | with_reducible apply World.ownsRow.alloc | (with_reducible refine ownsRow_call ?_ (by assumption)) | with_reducible apply ownsRow_drewN | with_reducible apply World.ownsRow.drew)); (· (first | exact news3' _ _ _ _ _ | exact news3 _ _ _ _ _ _)); (· (unfold maxLen; omega)); (· omega); (· (have := hB.size; (try simp at this ⊢) <;> omega)); intro v3 w3 hown3 hgrow3 hnil3; have hsz : w.heap.size + 1 + 1 ≤ w'.heap.size := (by have := hB.size; (try simp at this ⊢) <;> omega); have hB3 := Below.grown (B := w.heap.size + 1 + 1) (Below.refl _ _) hgrow3 (by (try simp) <;> omega) (fun k' hk' => (World.ownsRow.lt HO.out k' hk').1); have hB2 : Below (w.heap.size + 1 + 1) wr w' := (by refine Below.call' (by omega) ?_ hB; first | with_reducible exact Below.refl _ _ | exact (Below.refl _ _).drew | exact below_drewN (Below.refl _ _) _); have HBW := Frame.hid (Below.grown (B := w.heap.size + 1 + 1) (a := wr) (hB2.alloc hsz _) hgrow3 (by (try simp) <;> omega) (fun k' hk' => (World.ownsRow.lt HO.out k' hk').1)); have HOX := Frame.hid hown3; have f2 := (HBW.out.cell (p := ⟨w.heap.size + 1, 2, none⟩) (by simp)).trans d2; have f3 : w3.frozen? ⟨w.heap.size + 1, 2, none⟩ = false := (HBW.out.frozen (p := ⟨w.heap.size + 1, 2, none⟩) (by simp)).trans (d3 2); obtain ⟨A3, c3, rfl⟩ := OwS.form (OwS.of hown3)) | (go_simp; go_at_call 59; refine (HCL.out _ (by first | with_reducible exact HF2.out.bel | exact HF2.out.bel.drew | exact below_drewN HF2.out.bel _) _ _).mono ?_; rintro e w' ⟨x, y, rfl, hfr, hB⟩; have HFR := Frame.hid hfr; clear hfr; have e2 : w'.cell? ⟨w.heap.size + 1, 2, none⟩ = some v' := ((hB.cell (p := ⟨w.heap.size + 1, 2, none⟩) (by simp; omega)).trans d2); have hlt1 : w.heap.size + 1 < w'.heap.size := (by have := hB.size; (try simp at this) <;> omega); have e3 : ∀ o, (w'.alloc o).cell? ⟨w.heap.size + 1, 2, none⟩ = some v' := (fun o => (World.cell?_alloc_past _ _ _ hlt1).trans e2); have hne1 : ¬ (w.heap.size + 1 = w'.heap.size) := (by have := hB.size; (try simp at this) <;> omega)))
          all_goals
            go_wp2_with fail
            go_roundw
            case rel => exact ⟨i + 1, _, _, by omega, by go_num, by rw [List.length_append, HZK2.out]; rfl, (HZL2.out).snoc (z := (x, y, 0)) (by rw [HZK2.out, ← HLL.out]; exact HFP.out x y HFR.out), FillAt.next HF2.out HBW.out HOX.out rfl (HLL.out.trans HZK2.out.symm)⟩
            case measure => simp [intOf]; omega
        · have hiq : i = p := by omega
          subst hiq
          go_wp2_with fail
          go_roundw
          case rel => exact ⟨j + 1, v', zs, by omega, by go_num, by rw [HZK2.out, Nat.succ_mul], HZL2.out, HF2.out⟩
          case measure => simp [intOf]; omega
    · have hjp : j = q := by omega
      subst hjp
      have hO := HF.out.own
      obtain ⟨A', c', rfl, hR'⟩ := hO.rd
      have HO := Frame.hid hO
      clear hO hR'
      obtain ⟨e0, e1, e2⟩ := set3_read (w := wr) (v0 := .int .i64 p) (v1 := .int .i64 j) (v2 := .slice A' zs.length c') d4 d5 d6
      generalize hL : zs.length = L at d2 e0 e1 e2 HF HO HZK ⊢
      have HL := Frame.hid hL
      clear hL
      go_wp2_with fail
      refine bodyPost_ret (v := .agg #[.int .i64 p, .int .i64 j, .slice A' L c']) (by simp [results, Try.results58, go_sem, e0, e1, e2]) rfl ⟨_, zs, rfl, ⟨by rw [HL.out, HZK.out, Nat.mul_comm], HZL.out⟩, ?_, ?_⟩
      · exact (((HO.out.setO (by omega)).setO (by omega)).setO (by omega)).mono' (by omega)
      · exact ((HF.out.bel.setCell (p := ⟨w.heap.size, 0, none⟩) (Nat.le_refl _) _).setCell (p := ⟨w.heap.size, 1, none⟩) (Nat.le_refl _) _).setCell (p := ⟨w.heap.size, 2, none⟩) (Nat.le_refl _) _

end Go.Proofs.Ytddbojpkmgmjmaa
