/-
  A patch of what a function tells: the program's side.
-/
import Derived.Test.YtnbgnaenlbphcaaD2
namespace Go.Proofs.Ytnbgnaenlbphcaa
open Go.RowKit Fl Go.WideShapes Go.Deep
attribute [local go_sem] kstore_f kalloc_drewN kset_drewN hstore_i hstore_s

theorem set2_readD {w : World} {g : Nat} {u0 u1 v0 v1 : Value} (h0 : w.cell? ⟨g, 0, none⟩ = some u0) (h1 : w.cell? ⟨g, 1, none⟩ = some u1) :
    ((w.setCell ⟨g, 0, none⟩ v0).setCell ⟨g, 1, none⟩ v1).cell? ⟨g, 0, none⟩ = some v0 ∧ ((w.setCell ⟨g, 0, none⟩ v0).setCell ⟨g, 1, none⟩ v1).cell? ⟨g, 1, none⟩ = some v1 := by
  refine ⟨?_, ?_⟩
  · rw [World.cell?_setCell_other _ _ _ _ (by simp)]
    exact World.cell?_setCell_same' _ _ _ (by rw [h0]; rfl)
  · exact World.cell?_setCell_same' _ _ _ (by rw [World.cell?_setCell_other _ _ _ _ (by simp), h1]; rfl)
/-- What lies in memory while a patch is filled. -/
structure FillP (w : World) (d : Nat) (v : Value) (zs : List (Nat × Nat × Nat)) (wr : World) : Prop where
  c0 : wr.cell? ⟨w.heap.size + 1, 0, none⟩ = some (.int .i64 d)
  c1 : wr.cell? ⟨w.heap.size + 1, 1, none⟩ = some v
  fr : ∀ i, wr.frozen? ⟨w.heap.size + 1, i, none⟩ = false
  r0 : wr.cell? ⟨w.heap.size, 0, none⟩ = some (.int .i64 0)
  r1 : wr.cell? ⟨w.heap.size, 1, none⟩ = some (.slice none 0 0)
  rf : ∀ i, wr.frozen? ⟨w.heap.size, i, none⟩ = false
  l : w.heap.size + 1 < wr.heap.size
  bel : Below w.heap.size w wr
  own : OwnedS wr (w.heap.size + 1 + 1) v zs
theorem FillP.next {w wr w3 : World} {d L : Nat} {v : Value} {zs : List (Nat × Nat × Nat)} {p : Nat × Nat × Nat} {A : Option Addr} {n c : Nat} (h : FillP w d v zs wr) (hB : Below (w.heap.size + 1 + 1) wr w3)
    (ho : w3.ownsRow (w.heap.size + 1 + 1) 57 3 (.slice A n c) (L + 1) (cellsS zs ++ cellsS [p])) (hL : L = zs.length) : FillP w d (.slice A n c) (zs ++ [p]) (w3.setCell ⟨w.heap.size + 1, 1, none⟩ (.slice A n c)) := by
  have hl := h.l
  have hc : ∀ i, w3.cell? ⟨w.heap.size + 1, i, none⟩ = wr.cell? ⟨w.heap.size + 1, i, none⟩ := fun i => hB.cell (p := ⟨w.heap.size + 1, i, none⟩) (by simp)
  have hc' : ∀ i, w3.cell? ⟨w.heap.size, i, none⟩ = wr.cell? ⟨w.heap.size, i, none⟩ := fun i => hB.cell (p := ⟨w.heap.size, i, none⟩) (by simp; omega)
  have hne : ∀ i, (⟨w.heap.size + 1, 1, none⟩ : Addr) ≠ ⟨w.heap.size, i, none⟩ := fun i e => by injection e with e; omega
  refine ⟨?_, World.cell?_setCell_same' _ _ _ (by rw [hc, h.c1]; rfl), fun i => ?_, ?_, ?_, fun i => ?_, by simpa using Nat.lt_of_lt_of_le hl hB.size, (h.bel.trans (hB.mono (by omega))).setCell (p := ⟨w.heap.size + 1, 1, none⟩) (by simp) _, ?_⟩
  · rw [World.cell?_setCell_other _ _ _ _ (by simp), hc]; exact h.c0
  · rw [World.frozen?_setCell]; exact (hB.frozen (p := ⟨w.heap.size + 1, i, none⟩) (by simp)).trans (h.fr i)
  · rw [World.cell?_setCell_other _ _ _ _ (hne 0), hc']; exact h.r0
  · rw [World.cell?_setCell_other _ _ _ _ (hne 1), hc']; exact h.r1
  · rw [World.frozen?_setCell]; exact (hB.frozen (p := ⟨w.heap.size, i, none⟩) (by simp; omega)).trans (h.rf i)
  · have : OwnedS w3 (w.heap.size + 1 + 1) (.slice A n c) (zs ++ [p]) := by
      unfold OwnedS
      rw [cellsS_append, List.length_append, ← hL]
      exact ho
    exact this.setO (by omega)

set_option maxRecDepth 100000 in
set_option maxHeartbeats 4000000 in
theorem patchOfSmall_calls (gp gc ga gb : Nat) (d : Nat) (hd : d ≤ 3) (R : Nat → Nat → Nat → Nat → Nat → Prop) (w : World)
    (hcl : ∀ i j : Nat, i + j ≤ d → ∀ W, Below w.heap.size w W → Calls Try.prog 153 #[.int .i64 i, .int .i64 j, .pointer (some ⟨gp, 0, none⟩), .pointer (some ⟨gc, 0, none⟩), .pointer (some ⟨ga, 0, none⟩), .pointer (some ⟨gb, 0, none⟩)] W fun e w' => ∃ x y z, e = .returned (.agg #[.float .f32 x, .float .f32 y, .float .f32 z]) ∧ R i j x y z ∧ Below W.heap.size W w') :
    Calls Try.prog 115 #[.int .i64 d, .func (.func 153) #[] #[.pointer (some ⟨gp, 0, none⟩), .pointer (some ⟨gc, 0, none⟩), .pointer (some ⟨ga, 0, none⟩), .pointer (some ⟨gb, 0, none⟩)]] w fun e w' => ∃ v zs, e = .returned (.agg #[.int .i64 d, v]) ∧ zs.length = plO d (d + 1) ∧ PL d R zs ∧ OwnedS w' w.heap.size v zs ∧ Below w.heap.size w w' := by
  obtain ⟨i0, hi, hz0, hz1, hz2⟩ := info_parts infoSpot
  obtain ⟨E, hE⟩ : ∃ E, E = d + 1 := ⟨_, rfl⟩
  have wE : IntKind.i64.wrap ((d : Int) + 1) = (E : Int) := by rw [IntKind.wrap_i64]; omega
  have hE4 : E ≤ 4 := by omega
  have HE := Frame.hid hE
  have HCL := Frame.hid hcl
  clear hE hcl
  go_enter Try.func115, Try.ntmps115
  go_wp2_with fail
  go_loopw [12] (fun jv wr => ∃ j v zs, j ≤ E ∧ jv = .int .i64 (j : Nat) ∧ zs.length = plO d j ∧ PL d R zs ∧ FillP w d v zs wr) (fun jv _ => E - (intOf jv).toNat)
  case atStart =>
    refine ⟨0, .slice none 0 0, [], Nat.zero_le _, rfl, rfl, PL.nil, ?_⟩
    refine ⟨?_, ?_, ?_, ?_, ?_, ?_, ?_, ?_, OwnedS.nil _ _⟩
    · simp [go_sem]
    · simp [go_sem]
    · intro i; simp [go_sem]
    · simp [go_sem]
    · simp [go_sem]
    · intro i; simp [go_sem]
    · simp; try omega
    · exact ((Below.refl _ w).alloc (Nat.le_refl _) _).alloc (by simp) _
  case round =>
    obtain ⟨j, v, zs, hj, rfl, hzl, hP, hF⟩ := hrel
    have HZL := Frame.hid hzl
    have HP := Frame.hid hP
    have HF := Frame.hid hF
    have f0 := hF.c0
    have f1 := hF.c1
    have f2 := hF.r0
    have f3 := hF.r1
    have f4 := hF.rf
    have f5 := hF.l
    clear hzl hP hF
    by_cases hlt : j < E
    · obtain ⟨F, hFF⟩ : ∃ F, F = E - j := ⟨_, rfl⟩
      have wF : IntKind.i64.wrap ((E : Int) - (j : Int)) = (F : Int) := by rw [IntKind.wrap_i64]; have := HE.out; omega
      have hF4 : F ≤ 4 := by omega
      have HFF := Frame.hid hFF
      clear hFF f0 f1 f2 f3 f4 f5
      go_wp2_with fail
      go_loopw [19] (fun iv wr => ∃ i v zs, i ≤ F ∧ iv = .int .i64 (i : Nat) ∧ zs.length = plO d j + i ∧ PL d R zs ∧ FillP w d v zs wr) (fun iv _ => F - (intOf iv).toNat)
      case atStart => exact ⟨0, v, zs, Nat.zero_le _, rfl, HZL.out, HP.out, HF.out⟩
      case round =>
        obtain ⟨i, v', zs', hi', rfl, hzl, hP, hF⟩ := hrel
        have HZL2 := Frame.hid hzl
        have HP2 := Frame.hid hP
        have HF2 := Frame.hid hF
        have f1 := hF.c1
        have f5 := hF.l
        have f6 := hF.fr
        obtain ⟨L, hL⟩ : ∃ L, L = zs'.length := ⟨_, rfl⟩
        have hown : wr.ownsRow (w.heap.size + 1 + 1) 57 3 v' L (cellsS zs') := by rw [hL]; exact hF.own
        have HO := Frame.hid hown
        have HL := Frame.hid hL
        clear hzl hP hF hL hown
        by_cases hlt2 : i < F
        · have hij : i + j ≤ d := by have := HE.out; have := HFF.out; omega
          have hL10 : L ≤ 10 := by
            have h1 := (crd_at (d := d) (i := i) (j := j) hd hij).2
            have h2 := (plO_le (d := d) (j := d + 1) hd (Nat.le_refl _)).2
            have h3 := HZL2.out
            have h4 := HL.out
            omega
          have hcl := fun W (hB : Below (w.heap.size + 1 + 1) wr W) => HCL.out i j hij W (HF2.out.bel.trans (hB.mono (by omega)))
          have HC2 := Frame.hid hcl
          have HIJ := Frame.hid hij
          clear hcl hij
          go_wp2_with fail
          have hk : ∀ W, Below (w.heap.size + 1 + 1) wr W → W.cell? ⟨w.heap.size + 1, 1, none⟩ = some v' := fun W h => (h.cell (p := ⟨w.heap.size + 1, 1, none⟩) (by simp)).trans f1
          have hS0 : Below (w.heap.size + 1 + 1) wr wr.drew := (Below.refl _ _).drew
          have HO0 : Hid (wr.drew.ownsRow (w.heap.size + 1 + 1) 57 3 v' L (cellsS zs')) := Frame.hid (World.ownsRow.drew HO.out)
          have hs0 : w.heap.size + 1 + 1 ≤ wr.drew.heap.size := by show w.heap.size + 1 + 1 ≤ wr.heap.size; omega
          refine region_hand 9 (fun W => Below (w.heap.size + 1 + 1) wr W) (by kernel_rfl) ?_
          refine' wpEnd_take 0 rfl (by kernel_rfl) hS0 (Or.inl ⟨by rfl, fun wq hSq => _⟩) _
          rotate_left
          · (have q0 := hk _ hSq; go_simp; (try with_reducible rfl))
          simp only [Act.put, List.setIfInBounds_toArray, List.set_cons_zero, List.set_cons_succ]
          refine' wpEnd_take 1 rfl (by kernel_rfl) hS0 (Or.inl ⟨by rfl, fun wq hSq => _⟩) _
          rotate_left
          · (have q0 := hk _ hSq; go_simp; (try with_reducible rfl))
          simp only [Act.put, List.setIfInBounds_toArray, List.set_cons_zero, List.set_cons_succ]
          refine' wpEnd_take 2 rfl (by kernel_rfl) hS0 (Or.inl ⟨by rfl, fun wq hSq => _⟩) _
          rotate_left
          · (have q0 := hk _ hSq; go_simp; (try with_reducible rfl))
          simp only [Act.put, List.setIfInBounds_toArray, List.set_cons_zero, List.set_cons_succ]
          refine' wpEnd_take 3 rfl (by kernel_rfl) hS0 (Or.inl ⟨by rfl, fun wq hSq => _⟩) _
          rotate_left
          · (have q0 := hk _ hSq; go_simp; (try with_reducible rfl))
          simp only [Act.put, List.setIfInBounds_toArray, List.set_cons_zero, List.set_cons_succ]
          refine' wpEnd_take 4 rfl (by kernel_rfl) hS0 (Or.inl ⟨by rfl, fun wq hSq => _⟩) _
          rotate_left
          · (have q0 := hk _ hSq; go_simp; (try with_reducible rfl))
          simp only [Act.put, List.setIfInBounds_toArray, List.set_cons_zero, List.set_cons_succ]
          generalize wr.drew = wd at hS0 HO0 hs0 ⊢
          refine wpEnd_ready [5] (by kernel_rfl) rfl (AllE.cons rfl (fun K hK => ?_) AllE.nil)
          go_simp
          go_at_call 153
          refine (HC2.out wd hS0).mono ?_
          rintro e_ w2 ⟨x, y, z, rfl, hR, hB2⟩
          have HR := Frame.hid hR
          have hS1 := hS0.trans (hB2.mono hs0)
          have HO1 := Frame.hid (ownsRow_past HO0.out hB2)
          have hs1 : w.heap.size + 1 + 1 ≤ w2.heap.size := Nat.le_trans hs0 hB2.size
          clear hR hB2
          refine hK.out _ _ (.inr hS1) ?_
          clear hK K
          (try simp only [Act.put, List.setIfInBounds_toArray, List.set_cons_zero, List.set_cons_succ])
          refine wpEnd_ready [6] (by kernel_rfl) rfl (AllE.cons rfl (fun K hK => ?_) AllE.nil)
          go_simp
          have hS2 := hS1.alloc hs1 (.cells #[.float .f32 x, .float .f32 y, .float .f32 z] 57)
          refine hK.out _ _ (.inr hS2) ?_
          clear hK K
          (try simp only [Act.put, List.setIfInBounds_toArray, List.set_cons_zero, List.set_cons_succ])
          refine wpEnd_ready [7] (by kernel_rfl) rfl (AllE.cons rfl (fun K hK => ?_) AllE.nil)
          refine step_append_any rfl _ _ 27 rfl (w.heap.size + 1 + 1) 57 i0 (.agg #[.float .f32 0, .float .f32 0, .float .f32 0]) 3 12 Try.underlying27 hi hz0 hz1 hz2 rfl (by decide) v' L (cellsS zs') rfl ?_ ⟨w2.heap.size, 0, none⟩ 1 1 (cellsS [(x, y, z)]) rfl rfl (news3' _ _ _ _ _) (cellsS_one _) (by unfold maxLen; omega) (by omega) (by simp; omega) ?_
          · exact World.ownsRow.alloc HO1.out _
          intro v3 w3 hown3 hgrow3 hnil3
          have hS3 : Below (w.heap.size + 1 + 1) wr w3 := Below.grown hS2 hgrow3 (by simp; omega) (fun k' hk' => (World.ownsRow.lt HO.out k' hk').1)
          obtain ⟨A3, c3, rfl⟩ := OwS.form (OwS.of hown3)
          have HOX := Frame.hid hown3
          have f2 := (hS3.cell (p := ⟨w.heap.size + 1, 1, none⟩) (by simp)).trans f1
          have f3 : w3.frozen? ⟨w.heap.size + 1, 1, none⟩ = false := (hS3.frozen (p := ⟨w.heap.size + 1, 1, none⟩) (by simp)).trans (f6 1)
          clear hgrow3 hnil3 hown3
          refine hK.out _ _ (.inr hS3) ?_
          clear hK K
          (try simp only [Act.put, List.setIfInBounds_toArray, List.set_cons_zero, List.set_cons_succ])
          refine wpEnd_ready [8] (by kernel_rfl) rfl (AllE.cons rfl (fun K hK => ?_) AllE.nil)
          go_simp
          refine hK.out _ _ (.inr hS3) ?_
          clear hK K
          (try simp only [Act.put, List.setIfInBounds_toArray, List.set_cons_zero, List.set_cons_succ])
          refine wpEnd_ready [9] (by kernel_rfl) rfl (AllE.cons rfl (fun K hK => ?_) AllE.nil)
          go_simp
          refine hK.out _ _ (.inl rfl) ?_
          clear hK K
          refine wpEnd_done (by kernel_rfl) ?_
          have HS3 := Frame.hid hS3
          clear hS0 hS1 hS2 hS3 hk
          go_wp2_with fail
          go_roundw
          case rel => exact ⟨i + 1, _, _, by omega, by go_num, by rw [List.length_append, HZL2.out]; rfl, PL.snoc HP2.out hd HIJ.out HZL2.out HR.out, FillP.next HF2.out HS3.out HOX.out HL.out⟩
          case measure => simp [intOf]; omega
        · obtain rfl : i = F := by omega
          have hzn : zs'.length = plO d (j + 1) := by
            rw [HZL2.out, HFF.out, HE.out]
            rfl
          have HZN := Frame.hid hzn
          clear hzn f1 f5 f6
          go_wp2_with fail
          go_roundw
          case rel => exact ⟨j + 1, v', zs', by omega, by go_num, HZN.out, HP2.out, HF2.out⟩
          case measure => simp [intOf]; omega
    · obtain rfl : j = E := by omega
      have hO := HF.out.own
      obtain ⟨A', c', rfl, -⟩ := hO.rd
      have HO := Frame.hid hO
      clear hO
      obtain ⟨e0, e1⟩ := set2_readD (w := wr) (v0 := .int .i64 d) (v1 := .slice A' zs.length c') f2 f3
      obtain ⟨L, hL⟩ : ∃ L, L = zs.length := ⟨_, rfl⟩
      rw [← hL] at f1 e0 e1
      have HL := Frame.hid hL
      rw [← hL] at HO
      clear hL
      go_wp2_with fail
      refine bodyPost_ret (v := .agg #[.int .i64 d, .slice A' L c']) (by simp [results, Try.results115, go_sem, e0, e1]) rfl ⟨_, zs, rfl, by rw [HZL.out, HE.out], HP.out, ?_, ?_⟩
      · exact ((HO.out.setO (by omega)).setO (by omega)).mono' (by omega)
      · exact (HF.out.bel.setCell (p := ⟨w.heap.size, 0, none⟩) (Nat.le_refl _) _).setCell (p := ⟨w.heap.size, 1, none⟩) (Nat.le_refl _) _

set_option maxRecDepth 100000 in
set_option maxHeartbeats 4000000 in
theorem patchOfRaised_calls (pv : Value) (d : Nat) (hd : d ≤ 3) (R : Nat → Nat → Nat → Nat → Nat → Prop) (w : World)
    (hcl : ∀ i j : Nat, i + j ≤ d → ∀ W, Below w.heap.size w W → Calls Try.prog 116 #[pv, .int .i64 i, .int .i64 j] W fun e w' => ∃ x y z, e = .returned (.agg #[.float .f32 x, .float .f32 y, .float .f32 z]) ∧ R i j x y z ∧ Below W.heap.size W w') :
    Calls Try.prog 115 #[.int .i64 d, .func (.func 116) #[pv] #[]] w fun e w' => ∃ v zs, e = .returned (.agg #[.int .i64 d, v]) ∧ zs.length = plO d (d + 1) ∧ PL d R zs ∧ OwnedS w' w.heap.size v zs ∧ Below w.heap.size w w' := by
  obtain ⟨i0, hi, hz0, hz1, hz2⟩ := info_parts infoSpot
  obtain ⟨E, hE⟩ : ∃ E, E = d + 1 := ⟨_, rfl⟩
  have wE : IntKind.i64.wrap ((d : Int) + 1) = (E : Int) := by rw [IntKind.wrap_i64]; omega
  have hE4 : E ≤ 4 := by omega
  have HE := Frame.hid hE
  have HCL := Frame.hid hcl
  clear hE hcl
  go_enter Try.func115, Try.ntmps115
  go_wp2_with fail
  go_loopw [12] (fun jv wr => ∃ j v zs, j ≤ E ∧ jv = .int .i64 (j : Nat) ∧ zs.length = plO d j ∧ PL d R zs ∧ FillP w d v zs wr) (fun jv _ => E - (intOf jv).toNat)
  case atStart =>
    refine ⟨0, .slice none 0 0, [], Nat.zero_le _, rfl, rfl, PL.nil, ?_⟩
    refine ⟨?_, ?_, ?_, ?_, ?_, ?_, ?_, ?_, OwnedS.nil _ _⟩
    · simp [go_sem]
    · simp [go_sem]
    · intro i; simp [go_sem]
    · simp [go_sem]
    · simp [go_sem]
    · intro i; simp [go_sem]
    · simp; try omega
    · exact ((Below.refl _ w).alloc (Nat.le_refl _) _).alloc (by simp) _
  case round =>
    obtain ⟨j, v, zs, hj, rfl, hzl, hP, hF⟩ := hrel
    have HZL := Frame.hid hzl
    have HP := Frame.hid hP
    have HF := Frame.hid hF
    have f0 := hF.c0
    have f1 := hF.c1
    have f2 := hF.r0
    have f3 := hF.r1
    have f4 := hF.rf
    have f5 := hF.l
    clear hzl hP hF
    by_cases hlt : j < E
    · obtain ⟨F, hFF⟩ : ∃ F, F = E - j := ⟨_, rfl⟩
      have wF : IntKind.i64.wrap ((E : Int) - (j : Int)) = (F : Int) := by rw [IntKind.wrap_i64]; have := HE.out; omega
      have hF4 : F ≤ 4 := by omega
      have HFF := Frame.hid hFF
      clear hFF f0 f1 f2 f3 f4 f5
      go_wp2_with fail
      go_loopw [19] (fun iv wr => ∃ i v zs, i ≤ F ∧ iv = .int .i64 (i : Nat) ∧ zs.length = plO d j + i ∧ PL d R zs ∧ FillP w d v zs wr) (fun iv _ => F - (intOf iv).toNat)
      case atStart => exact ⟨0, v, zs, Nat.zero_le _, rfl, HZL.out, HP.out, HF.out⟩
      case round =>
        obtain ⟨i, v', zs', hi', rfl, hzl, hP, hF⟩ := hrel
        have HZL2 := Frame.hid hzl
        have HP2 := Frame.hid hP
        have HF2 := Frame.hid hF
        have f1 := hF.c1
        have f5 := hF.l
        have f6 := hF.fr
        obtain ⟨L, hL⟩ : ∃ L, L = zs'.length := ⟨_, rfl⟩
        have hown : wr.ownsRow (w.heap.size + 1 + 1) 57 3 v' L (cellsS zs') := by rw [hL]; exact hF.own
        have HO := Frame.hid hown
        have HL := Frame.hid hL
        clear hzl hP hF hL hown
        by_cases hlt2 : i < F
        · have hij : i + j ≤ d := by have := HE.out; have := HFF.out; omega
          have hL10 : L ≤ 10 := by
            have h1 := (crd_at (d := d) (i := i) (j := j) hd hij).2
            have h2 := (plO_le (d := d) (j := d + 1) hd (Nat.le_refl _)).2
            have h3 := HZL2.out
            have h4 := HL.out
            omega
          have hcl := fun W (hB : Below (w.heap.size + 1 + 1) wr W) => HCL.out i j hij W (HF2.out.bel.trans (hB.mono (by omega)))
          have HC2 := Frame.hid hcl
          have HIJ := Frame.hid hij
          clear hcl hij
          go_wp2_with fail
          have hk : ∀ W, Below (w.heap.size + 1 + 1) wr W → W.cell? ⟨w.heap.size + 1, 1, none⟩ = some v' := fun W h => (h.cell (p := ⟨w.heap.size + 1, 1, none⟩) (by simp)).trans f1
          have hS0 : Below (w.heap.size + 1 + 1) wr wr.drew := (Below.refl _ _).drew
          have HO0 : Hid (wr.drew.ownsRow (w.heap.size + 1 + 1) 57 3 v' L (cellsS zs')) := Frame.hid (World.ownsRow.drew HO.out)
          have hs0 : w.heap.size + 1 + 1 ≤ wr.drew.heap.size := by show w.heap.size + 1 + 1 ≤ wr.heap.size; omega
          refine region_hand 9 (fun W => Below (w.heap.size + 1 + 1) wr W) (by kernel_rfl) ?_
          refine' wpEnd_take 0 rfl (by kernel_rfl) hS0 (Or.inl ⟨by rfl, fun wq hSq => _⟩) _
          rotate_left
          · (have q0 := hk _ hSq; go_simp; (try with_reducible rfl))
          simp only [Act.put, List.setIfInBounds_toArray, List.set_cons_zero, List.set_cons_succ]
          refine' wpEnd_take 1 rfl (by kernel_rfl) hS0 (Or.inl ⟨by rfl, fun wq hSq => _⟩) _
          rotate_left
          · (have q0 := hk _ hSq; go_simp; (try with_reducible rfl))
          simp only [Act.put, List.setIfInBounds_toArray, List.set_cons_zero, List.set_cons_succ]
          refine' wpEnd_take 2 rfl (by kernel_rfl) hS0 (Or.inl ⟨by rfl, fun wq hSq => _⟩) _
          rotate_left
          · (have q0 := hk _ hSq; go_simp; (try with_reducible rfl))
          simp only [Act.put, List.setIfInBounds_toArray, List.set_cons_zero, List.set_cons_succ]
          refine' wpEnd_take 3 rfl (by kernel_rfl) hS0 (Or.inl ⟨by rfl, fun wq hSq => _⟩) _
          rotate_left
          · (have q0 := hk _ hSq; go_simp; (try with_reducible rfl))
          simp only [Act.put, List.setIfInBounds_toArray, List.set_cons_zero, List.set_cons_succ]
          refine' wpEnd_take 4 rfl (by kernel_rfl) hS0 (Or.inl ⟨by rfl, fun wq hSq => _⟩) _
          rotate_left
          · (have q0 := hk _ hSq; go_simp; (try with_reducible rfl))
          simp only [Act.put, List.setIfInBounds_toArray, List.set_cons_zero, List.set_cons_succ]
          generalize wr.drew = wd at hS0 HO0 hs0 ⊢
          refine wpEnd_ready [5] (by kernel_rfl) rfl (AllE.cons rfl (fun K hK => ?_) AllE.nil)
          go_simp
          go_at_call 116
          refine (HC2.out wd hS0).mono ?_
          rintro e_ w2 ⟨x, y, z, rfl, hR, hB2⟩
          have HR := Frame.hid hR
          have hS1 := hS0.trans (hB2.mono hs0)
          have HO1 := Frame.hid (ownsRow_past HO0.out hB2)
          have hs1 : w.heap.size + 1 + 1 ≤ w2.heap.size := Nat.le_trans hs0 hB2.size
          clear hR hB2
          refine hK.out _ _ (.inr hS1) ?_
          clear hK K
          (try simp only [Act.put, List.setIfInBounds_toArray, List.set_cons_zero, List.set_cons_succ])
          refine wpEnd_ready [6] (by kernel_rfl) rfl (AllE.cons rfl (fun K hK => ?_) AllE.nil)
          go_simp
          have hS2 := hS1.alloc hs1 (.cells #[.float .f32 x, .float .f32 y, .float .f32 z] 57)
          refine hK.out _ _ (.inr hS2) ?_
          clear hK K
          (try simp only [Act.put, List.setIfInBounds_toArray, List.set_cons_zero, List.set_cons_succ])
          refine wpEnd_ready [7] (by kernel_rfl) rfl (AllE.cons rfl (fun K hK => ?_) AllE.nil)
          refine step_append_any rfl _ _ 27 rfl (w.heap.size + 1 + 1) 57 i0 (.agg #[.float .f32 0, .float .f32 0, .float .f32 0]) 3 12 Try.underlying27 hi hz0 hz1 hz2 rfl (by decide) v' L (cellsS zs') rfl ?_ ⟨w2.heap.size, 0, none⟩ 1 1 (cellsS [(x, y, z)]) rfl rfl (news3' _ _ _ _ _) (cellsS_one _) (by unfold maxLen; omega) (by omega) (by simp; omega) ?_
          · exact World.ownsRow.alloc HO1.out _
          intro v3 w3 hown3 hgrow3 hnil3
          have hS3 : Below (w.heap.size + 1 + 1) wr w3 := Below.grown hS2 hgrow3 (by simp; omega) (fun k' hk' => (World.ownsRow.lt HO.out k' hk').1)
          obtain ⟨A3, c3, rfl⟩ := OwS.form (OwS.of hown3)
          have HOX := Frame.hid hown3
          have f2 := (hS3.cell (p := ⟨w.heap.size + 1, 1, none⟩) (by simp)).trans f1
          have f3 : w3.frozen? ⟨w.heap.size + 1, 1, none⟩ = false := (hS3.frozen (p := ⟨w.heap.size + 1, 1, none⟩) (by simp)).trans (f6 1)
          clear hgrow3 hnil3 hown3
          refine hK.out _ _ (.inr hS3) ?_
          clear hK K
          (try simp only [Act.put, List.setIfInBounds_toArray, List.set_cons_zero, List.set_cons_succ])
          refine wpEnd_ready [8] (by kernel_rfl) rfl (AllE.cons rfl (fun K hK => ?_) AllE.nil)
          go_simp
          refine hK.out _ _ (.inr hS3) ?_
          clear hK K
          (try simp only [Act.put, List.setIfInBounds_toArray, List.set_cons_zero, List.set_cons_succ])
          refine wpEnd_ready [9] (by kernel_rfl) rfl (AllE.cons rfl (fun K hK => ?_) AllE.nil)
          go_simp
          refine hK.out _ _ (.inl rfl) ?_
          clear hK K
          refine wpEnd_done (by kernel_rfl) ?_
          have HS3 := Frame.hid hS3
          clear hS0 hS1 hS2 hS3 hk
          go_wp2_with fail
          go_roundw
          case rel => exact ⟨i + 1, _, _, by omega, by go_num, by rw [List.length_append, HZL2.out]; rfl, PL.snoc HP2.out hd HIJ.out HZL2.out HR.out, FillP.next HF2.out HS3.out HOX.out HL.out⟩
          case measure => simp [intOf]; omega
        · obtain rfl : i = F := by omega
          have hzn : zs'.length = plO d (j + 1) := by
            rw [HZL2.out, HFF.out, HE.out]
            rfl
          have HZN := Frame.hid hzn
          clear hzn f1 f5 f6
          go_wp2_with fail
          go_roundw
          case rel => exact ⟨j + 1, v', zs', by omega, by go_num, HZN.out, HP2.out, HF2.out⟩
          case measure => simp [intOf]; omega
    · obtain rfl : j = E := by omega
      have hO := HF.out.own
      obtain ⟨A', c', rfl, -⟩ := hO.rd
      have HO := Frame.hid hO
      clear hO
      obtain ⟨e0, e1⟩ := set2_readD (w := wr) (v0 := .int .i64 d) (v1 := .slice A' zs.length c') f2 f3
      obtain ⟨L, hL⟩ : ∃ L, L = zs.length := ⟨_, rfl⟩
      rw [← hL] at f1 e0 e1
      have HL := Frame.hid hL
      rw [← hL] at HO
      clear hL
      go_wp2_with fail
      refine bodyPost_ret (v := .agg #[.int .i64 d, .slice A' L c']) (by simp [results, Try.results115, go_sem, e0, e1]) rfl ⟨_, zs, rfl, by rw [HZL.out, HE.out], HP.out, ?_, ?_⟩
      · exact ((HO.out.setO (by omega)).setO (by omega)).mono' (by omega)
      · exact (HF.out.bel.setCell (p := ⟨w.heap.size, 0, none⟩) (Nat.le_refl _) _).setCell (p := ⟨w.heap.size, 1, none⟩) (Nat.le_refl _) _

end Go.Proofs.Ytnbgnaenlbphcaa
