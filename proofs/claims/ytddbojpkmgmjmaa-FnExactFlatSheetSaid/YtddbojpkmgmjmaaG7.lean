/-
  FlatSheet, the specification's side: the sheet, spot by spot.
-/
import Derived.Test.YtddbojpkmgmjmaaG6
import Derived.Deep.RegionLaw
namespace Go.Proofs.Ytddbojpkmgmjmaa
open Go.RowKit Fl Go.WideShapes Go.Deep
attribute [local go_sem] kstore_f kalloc_drewN kset_drewN hstore_i hstore_s

set_option maxRecDepth 100000 in
set_option maxHeartbeats 4000000 in
theorem l04Flat_calls (p q wide long : Nat) (hp : 2 ≤ p ∧ p ≤ 6) (hq : 2 ≤ q ∧ q ≤ 6) (w : World) :
    Calls Try.prog 55 #[.int .i64 p, .int .i64 q, .float .f32 wide, .float .f32 long] w fun e w' => ∃ v zs, e = .returned (.agg #[.int .i64 p, .int .i64 q, v]) ∧ FlatZ p q wide long zs ∧ OwnedS w' w.heap.size v zs ∧ Below w.heap.size w w' := by
  obtain ⟨i0, hi, hz0, hz1, hz2⟩ := info_parts infoSpot
  obtain ⟨P, hP⟩ : ∃ P, P = p * q := ⟨_, rfl⟩
  have hP36 : P ≤ 36 := by rw [hP]; exact Nat.mul_le_mul hp.2 hq.2
  have hPi : (p : Int) * (q : Int) = (P : Int) := by rw [hP]; push_cast; rfl
  have hPw : IntKind.i64.wrap ((p : Int) * (q : Int)) = (P : Int) := by rw [hPi, IntKind.wrap_i64]; omega
  have HP := Frame.hid hP
  have HPI := Frame.hid hPi
  have HPW := Frame.hid hPw
  clear hP hPi hPw
  go_enter Try.func55, Try.ntmps55
  go_wp2_with fail
  go_loopw [10] (fun iv wr => ∃ k v zs, k ≤ P ∧ iv = .int .i64 (k : Nat) ∧ zs.length = k ∧ FlatL p q wide long zs ∧ FillAt w (w.heap.size + 1) p q v zs wr) (fun iv _ => P - (intOf iv).toNat)
  case atStart =>
    refine ⟨0, .slice none 0 0, [], Nat.zero_le _, rfl, rfl, FlatL.nil, ⟨?_, OwnedS.nil _ _, by omega, ?_, ?_, ?_, ?_⟩⟩
    · refine ⟨?_, ?_, ?_, by simp; try omega⟩ <;> simp [go_sem]
    · exact ((Below.refl _ w).alloc (Nat.le_refl _) _).alloc (by simp) _
    · intro i; simp [go_sem]
    · refine ⟨?_, ?_, ?_, by simp; try omega⟩ <;> simp [go_sem]
    · intro i; simp [go_sem]
  case round =>
    obtain ⟨k, v, zs, hk, rfl, hzk, hZL, hF⟩ := hrel
    have HF := Frame.hid hF
    obtain ⟨d0, d1, d2, d3, d4, d5, d6, d7, d8⟩ := FillAt.facts hF
    have hPW := HPW.out
    have HZL := Frame.hid hZL
    have HZK := Frame.hid hzk
    clear hF hZL hzk
    by_cases hlt : k < P
    · have hk1 : (k : Int).tmod (p : Int) = ((k % p : Nat) : Int) := rfl
      have hk2 : (k : Int).tdiv (p : Int) = ((k / p : Nat) : Int) := rfl
      have hFP : ∀ x y, FlatR p q wide long ((k % p : Nat) : Int) ((k / p : Nat) : Int) x y → FlatP p q wide long k (x, y, 0) := fun x y h => ⟨rfl, h⟩
      obtain ⟨rr, hr⟩ : ∃ rr, rr = k % p := ⟨_, rfl⟩
      obtain ⟨d, hd⟩ : ∃ d, d = k / p := ⟨_, rfl⟩
      rw [← hr] at hk1 hFP
      rw [← hd] at hk2 hFP
      have hdk : d ≤ k := by rw [hd]; exact Nat.div_le_self _ _
      have hk1' : (k : Int) % (p : Int) = (rr : Int) := by rw [hr]; push_cast; rfl
      have hk2' : (k : Int) / (p : Int) = (d : Int) := by rw [hd]; push_cast; rfl
      have hp0 : ¬ ((p : Int) = 0) := by omega
      have hp0' : ¬ (p = 0) := by omega
      have hk5 : IntKind.i64.wrap (d : Int) = (d : Int) := by rw [IntKind.wrap_i64]; omega
      have hpw : IntKind.i64.wrap ((p : Int) - 1) = (p : Int) - 1 := by rw [IntKind.wrap_i64]; omega
      have hqw : IntKind.i64.wrap ((q : Int) - 1) = (q : Int) - 1 := by rw [IntKind.wrap_i64]; omega
      have HFP := Frame.hid hFP
      clear hr hd hFP hdk
      have hown : wr.ownsRow (w.heap.size + 1 + 1) 44 3 v k (cellsS zs) := by have h := HF.out.own; unfold OwnedS at h; rw [HZK.out] at h; exact h
      have HO := Frame.hid hown
      have hk36 : k ≤ 36 := by omega
      clear hown
      go_wp2_with (first | (refine wpList_arith rfl _ _ _ _ _ rfl rfl _ (floatOfInt .f32 (rr : Int)) _ rfl rfl ?_; intro qx nx hqx lqx; have HQX := Frame.hid hqx; clear hqx) | (refine wpList_arith rfl _ _ _ _ _ rfl rfl _ wide _ rfl rfl ?_; intro x n1 hx lx; have HX := Frame.hid hx; clear hx) | (refine wpList_arith rfl _ _ _ _ _ rfl rfl _ (floatOfInt .f32 (d : Int)) _ rfl rfl ?_; intro qy ny hqy lqy; have HQY := Frame.hid hqy; clear hqy) | (refine wpList_arith rfl _ _ _ _ _ rfl rfl _ long _ rfl rfl ?_; intro y n2 hy ly; have HY := Frame.hid hy; clear hy) | (at_builtin; refine wpList_append_own _ rfl _ _ 23 rfl (w.heap.size + 1 + 1) 44 i0 (.agg #[.float .f32 0, .float .f32 0, .float .f32 0]) 3 12 Try.underlying23 hi hz0 hz1 hz2 rfl (by decide) v k (cellsS zs) rfl ?_ ⟨wr.heap.size, 0, none⟩ 1 1 (cellsS [(x, y, 0)]) rfl rfl ?_ (cellsS_one _) (by unfold maxLen; omega) (by omega) (by simp; omega) ?_; (· (repeat' first | with_reducible exact HO.out | with_reducible apply World.ownsRow.alloc | with_reducible apply ownsRow_drewN | with_reducible apply World.ownsRow.drew)); (· (first | exact news3 _ _ _ _ _ _ | exact news3' _ _ _ _ _)); intro v3 w3 hown3 hgrow3 hnil3; have HBW := Frame.hid (Below.grown (B := w.heap.size + 1 + 1) (a := wr) (by repeat' first | with_reducible exact Below.refl _ _ | with_reducible apply below_drewN | with_reducible apply Below.drew | (with_reducible refine Below.alloc ?_ ?_ _) | omega | (simp; omega)) hgrow3 (by simp; omega) (fun k' hk' => (World.ownsRow.lt HO.out k' hk').1)); have HOX := Frame.hid hown3; have f2 := (HBW.out.cell (p := ⟨w.heap.size + 1, 2, none⟩) (by simp)).trans d2; have f3 : w3.frozen? ⟨w.heap.size + 1, 2, none⟩ = false := (HBW.out.frozen (p := ⟨w.heap.size + 1, 2, none⟩) (by simp)).trans (d3 2); obtain ⟨A3, c3, rfl⟩ := OwS.form (OwS.of hown3); clear hown3 hgrow3 hnil3))
      go_roundw
      case rel =>
        have hz := HZK.out
        have hsn := (HZL.out).snoc (z := (x, y, 0)) (by rw [hz]; exact HFP.out x y ⟨⟨_, HQX.out, HX.out⟩, ⟨_, HQY.out, HY.out⟩⟩)
        exact ⟨k + 1, _, _, by omega, by go_num, by rw [List.length_append, hz]; rfl, hsn, FillAt.next HF.out HBW.out HOX.out rfl hz.symm⟩
      case measure => simp [intOf]; omega
    · have hkP : k = P := by omega
      subst hkP
      have hO := HF.out.own
      obtain ⟨A', c', rfl, hR'⟩ := hO.rd
      have HO := Frame.hid hO
      clear hO hR'
      obtain ⟨e0, e1, e2⟩ := set3_read (w := wr) (v0 := .int .i64 p) (v1 := .int .i64 q) (v2 := .slice A' zs.length c') d4 d5 d6
      generalize hL : zs.length = L at d2 e0 e1 e2 HF HO HZK ⊢
      have HL := Frame.hid hL
      clear hL
      go_wp2_with fail
      refine bodyPost_ret (v := .agg #[.int .i64 p, .int .i64 q, .slice A' L c']) (by simp [results, Try.results55, go_sem, e0, e1, e2]) rfl ⟨_, zs, rfl, ⟨by rw [HL.out, HZK.out, HP.out], HZL.out⟩, ?_, ?_⟩
      · exact (((HO.out.setO (by omega)).setO (by omega)).setO (by omega)).mono' (by omega)
      · exact ((HF.out.bel.setCell (p := ⟨w.heap.size, 0, none⟩) (Nat.le_refl _) _).setCell (p := ⟨w.heap.size, 1, none⟩) (Nat.le_refl _) _).setCell (p := ⟨w.heap.size, 2, none⟩) (Nat.le_refl _) _

end Go.Proofs.Ytddbojpkmgmjmaa
