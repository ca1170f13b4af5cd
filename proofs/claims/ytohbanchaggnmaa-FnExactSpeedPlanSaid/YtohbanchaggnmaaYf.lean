/-
  SpeedPlan, the specification's side.
-/
import Derived.Test.YtohbanchaggnmaaYe
import Derived.Test.YtohbanchaggnmaaRy
import Derived.Test.YtohbanchaggnmaaJa
import Derived.Maps.AppendAt
namespace Go.Proofs.Ytohbanchaggnmaa
open Go.RowKit Go.Shelf Fl Ieee Go.WideShapes Go.Deep
attribute [local go_sem] kstore_f kalloc_drewN kset_drewN unary_neg_y

theorem own_appF2 {w3 : World} {B k : Nat} {x : Nat} {v' : Value} {out : List Nat} (hk : k = out.length) (h : w3.ownsRow B 25 1 v' (k + 1) (fl out ++ [.float .f32 x])) :
    ∃ g cap, v' = .slice (some ⟨g, 0, none⟩) (k + 1) cap ∧ OwnF w3 B v' (out ++ [x]) := by
  have h2 : OwnF w3 B v' (out ++ [x]) := by
    unfold OwnF
    rw [List.length_append, show fl (out ++ [x]) = fl out ++ [.float .f32 x] from by unfold fl; rw [List.map_append]; rfl, ← hk]
    exact h
  rcases h.2 with ⟨_, h0⟩ | ⟨g, cap, cur, hv, _⟩
  · omega
  · exact ⟨g, cap, hv, h2⟩

/-- The speeds while they are appended. -/
def appV (n most k : Nat) : List Nat := (List.range (k + 1)).map (fun i => if i = 0 ∨ i = n then 0 else most)
theorem app_len (n most k : Nat) : (appV n most k).length = k + 1 := by simp [appV]
theorem app_step (n most k : Nat) : appV n most k ++ [if k + 1 = n then 0 else most] = appV n most (k + 1) := by
  unfold appV
  rw [List.range_succ (n := k + 1), List.map_append]
  simp
theorem app_last (n most : Nat) : appV n most n = v0 n most := rfl
theorem set_self (vs : List Nat) (j : Nat) : vs.set j (vs.getD j 0) = vs := by
  by_cases hj : j < vs.length
  · refine finV_eq (by rw [List.length_set]) fun i hi => ?_
    rw [getD_set _ _ _ _ hj]
    split
    · rename_i h; rw [h]
    · rfl
  · exact List.set_eq_of_length_le (by omega)

/-- The speeds in memory. -/
structure SpT (w : World) (n g cap : Nat) (vs : List Nat) (W : World) : Prop where
  own : OwnF W w.heap.size (.slice (some ⟨g, 0, none⟩) (n + 1) cap) vs
  len : vs.length = n + 1
  bel : Below w.heap.size w W
theorem SpT.drewN {w W : World} {n g cap : Nat} {vs : List Nat} (h : SpT w n g cap vs W) (k : Nat) : SpT w n g cap vs (W.drewN k) := ⟨h.own, h.len, below_drewN h.bel k⟩
theorem SpT.cell {w W : World} {n g cap : Nat} {vs : List Nat} (h : SpT w n g cap vs W) {j : Nat} (hj : j < n + 1) : W.cell? ⟨g, j, none⟩ = some (.float .f32 (vs.getD j 0)) := h.own.cell h.len.symm (by rw [h.len]; exact hj)
theorem SpT.froz {w W : World} {n g cap : Nat} {vs : List Nat} (h : SpT w n g cap vs W) (j : Nat) : W.frozen? ⟨g, j, none⟩ = false := h.own.froz h.len.symm j
theorem SpT.put {w W : World} {n g cap : Nat} {vs : List Nat} (h : SpT w n g cap vs W) (j r : Nat) (hg : w.heap.size ≤ g) : SpT w n g cap (vs.set j r) (W.setCell ⟨g, j, none⟩ (.float .f32 r)) :=
  ⟨h.own.put h.len.symm j r, by rw [List.length_set]; exact h.len, h.bel.setCell (p := ⟨g, j, none⟩) hg _⟩
def RelRo (f : FuncId) (args : Array Value) (v : Value) : Prop := f = 110 ∧ ∃ t r, args = #[.float .f32 t] ∧ v = .float .f32 r ∧ RootR t r

set_option maxRecDepth 100000 in
set_option maxHeartbeats 4000000 in
theorem specSpeed_yes (b off c : Nat) (xs : List Nat) (n : Nat) (hxn : n = xs.length) (most rise : Nat) (w : World) (h1 : 1 ≤ n) (h2 : n ≤ 64) (hr : RdF w (some ⟨b, off, none⟩) xs) (ha : aboveB most = true) (hb : aboveB rise = true) :
    Calls Try.prog 44 #[.slice (some ⟨b, off, none⟩) n c, .float .f32 most, .float .f32 rise] w fun e w' => ∃ v vs t ok, e = .returned (.tuple #[v, .float .f32 t, .bool ok]) ∧ SpO xs most rise vs t ok ∧ (ok = false → v = .slice none 0 0) ∧ (ok = true → OwnF w' w.heap.size v vs) ∧ Below w.heap.size w w' := by
  obtain ⟨i0, hi, hz0, hz1, hz2⟩ : ∃ i, Try.prog.info? 25 = some i ∧ i.zero = some (.float .f32 0) ∧ i.size = 1 ∧ i.bytes = 4 := by
    have h := Try.infoF
    cases hi : Try.prog.info? 25 with
    | none => rw [hi] at h; cases h
    | some i =>
      rw [hi] at h
      injection h with h
      injection h with h1 h2
      injection h2 with h2 h3
      exact ⟨i, rfl, h1, h2, h3⟩
  obtain ⟨b_, off_, hbo, hbl, hxc⟩ := hr (by omega)
  injection hbo with hbo
  injection hbo with hbo1 hbo2
  subst hbo1 hbo2
  have HXC := Frame.hid (fun W (hW : Below w.heap.size w W) (j : Nat) (hj : j < n) => (hW.cell (p := ⟨b, off + j, none⟩) hbl).trans (hxc j (by omega)))
  have HX := Frame.hid hxn
  have HA := Frame.hid ha
  have HB := Frame.hid hb
  clear hxn hr ha hb hbl hxc
  have hz1' : decide ((n : Int) < 1) = false := by rw [decide_eq_false_iff_not]; omega
  have hz2' : decide (64 < (n : Int)) = false := by rw [decide_eq_false_iff_not]; omega
  go_enter Try.func44, Try.ntmps44
  go_wp2_with (first | (go_at_call 109; refine (l02Above_calls _ _).mono ?_; rintro e w' ⟨rfl, m, rfl⟩; first | rw [HA.out] | rw [HB.out]))
  clear hz1' hz2'
  go_loopw [10, 41] (fun v i W => ∃ k g cap : Nat, k ≤ n ∧ i = .int .i64 k ∧ v = .slice (some ⟨g, 0, none⟩) (k + 1) cap ∧ OwnF W w.heap.size v (appV n most k) ∧ Below w.heap.size w W ∧ ∀ j, j < k → aboveB (xs.getD j 0) = true) (fun _ i _ => n - (intOf i).toNat)
  case atStart =>
    refine ⟨0, w.heap.size, 1, Nat.zero_le _, rfl, rfl, ?_, ?_, fun j hj => absurd hj (by omega)⟩
    · have h : ∀ q, OwnF ((w.drewN q).alloc (.cells #[.float .f32 0] 25)) w.heap.size (.slice (some ⟨w.heap.size, 0, none⟩) 1 1) (appV n most 0) := fun q => by
        have h := made_own 1 (by omega) (w.drewN q) w.heap.size (Nat.le_refl _)
        have e : madeCells #[Value.float .f32 0] 1 = #[.float .f32 0] := Array.toList_inj.1 (by rw [toList_madeCells_one]; rfl)
        rw [e] at h
        exact h
      exact h _
    · (apply jbel_of; (repeat (first | apply jbelow_dn | apply jbelow_al | (refine jbelow_sc (by first | (simp; done) | (simp; omega) | omega) ?_ _))); exact jbelow_st _)
  case round =>
    obtain ⟨k, g, cap, hk, rfl, rfl, hO, hBl, hP⟩ := hrel
    have HO := Frame.hid hO
    have HBL := Frame.hid hBl
    have HP := Frame.hid hP
    clear hO hBl hP
    by_cases hlt : k < n
    · have c0 := HXC.out _ HBL.out k hlt
      have b0 : (k : Int) < (n : Int) := by omega
      have b1 : (0 : Int) ≤ (k : Int) := by omega
      cases hab : aboveB (xs.getD k 0)
      · have HAB := Frame.hid hab
        have hbad : posL xs = false := posL_bad (by have := HX.out; omega) hab
        have hsp : spB xs most rise = false := by unfold spB; rw [hbad]; simp
        have HSP := Frame.hid hsp
        clear hab hbad hsp
        generalize xs.getD k 0 = x at c0 HAB
        go_wp2_with (go_at_call 109; refine (l02Above_calls _ _).mono ?_; rintro e w' ⟨rfl, m, rfl⟩; rw [HAB.out])
        refine bodyPost_ret (v := .tuple #[.slice none 0 0, .float .f32 0, .bool false]) (by simp [results, Try.results44, go_sem]) rfl ?_
        exact ⟨_, [], 0, false, rfl, .inr ⟨HSP.out, rfl, rfl, rfl⟩, fun _ => rfl, (fun h => by cases h), below_drewN HBL.out _⟩
      · have HAB := Frame.hid hab
        have HP2 : Hid (∀ j, j < k + 1 → aboveB (xs.getD j 0) = true) := Frame.hid (fun j hj => by
          by_cases h : j = k
          · rw [h]; exact HAB.out
          · exact HP.out j (by omega))
        clear hab
        generalize xs.getD k 0 = x at c0 HAB
        have a5 : IntKind.i64.wrap ((k : Int) + 1) = (k : Int) + 1 := by rw [IntKind.wrap_i64]; omega
        have hO1 : ∀ m, (wr.drewN m).ownsRow w.heap.size 25 1 (.slice (some ⟨g, 0, none⟩) (k + 1) cap) (k + 1) (fl (appV n most k)) := fun m => by have h := HO.out; unfold OwnF at h; rwa [app_len] at h
        have HO1 := Frame.hid hO1
        clear hO1
        have hsz : w.heap.size ≤ wr.heap.size := HBL.out.size
        by_cases hkn : k + 1 = n
        · have a6 : ((k : Int) + 1 == (n : Int)) = true := by rw [beq_iff_eq]; omega
          have HKN := Frame.hid (app_step n most k)
          rw [if_pos hkn] at HKN
          clear hkn
          go_wp2_with (first | (go_at_call 109; refine (l02Above_calls _ _).mono ?_; rintro e w' ⟨rfl, m, rfl⟩; rw [HAB.out]) | (at_builtin; go_loud (refine wpList_append_own _ rfl _ _ 64 rfl w.heap.size 25 i0 (.float .f32 0) 1 4 Try.underlying64 hi hz0 hz1 hz2 rfl (by decide) _ _ _ rfl ((HO1.out m).alloc _) ⟨wr.heap.size, 0, none⟩ 1 1 [.float .f32 0] rfl rfl (cell_one_new _ _ _) (fun x hx => by simp at hx; subst hx; rfl) (by unfold maxLen; omega) (by omega) (by simp; omega) ?_); intro v' w3 hown' hgrow3 hnil3; obtain ⟨g', cap', rfl, hO2⟩ := own_appF2 (app_len n most k).symm hown'))
          rw [HKN.out] at hO2
          have HO2 := Frame.hid hO2
          have hB3 : Below w.heap.size w w3 := Below.grown (B := w.heap.size) ((below_drewN HBL.out m).alloc hsz _) hgrow3 (by simp; omega) (fun k' hk' => (World.ownsRow.lt (HO1.out m) k' hk').1)
          have HB3 := Frame.hid hB3
          clear hO2 hown' hgrow3 hnil3 hB3
          go_roundw
          case rel => exact ⟨k + 1, g', cap', by omega, by go_num, rfl, HO2.out, HB3.out, HP2.out⟩
          case measure => simp [intOf]; omega
        · have a6 : ((k : Int) + 1 == (n : Int)) = false := by rw [beq_eq_false_iff_ne]; omega
          have HKN := Frame.hid (app_step n most k)
          rw [if_neg hkn] at HKN
          clear hkn
          go_wp2_with (first | (go_at_call 109; refine (l02Above_calls _ _).mono ?_; rintro e w' ⟨rfl, m, rfl⟩; rw [HAB.out]) | (at_builtin; go_loud (refine wpList_append_own _ rfl _ _ 64 rfl w.heap.size 25 i0 (.float .f32 0) 1 4 Try.underlying64 hi hz0 hz1 hz2 rfl (by decide) _ _ _ rfl ((HO1.out m).alloc _) ⟨wr.heap.size, 0, none⟩ 1 1 [.float .f32 most] rfl rfl (cell_one_new _ _ _) (fun x hx => by simp at hx; subst hx; rfl) (by unfold maxLen; omega) (by omega) (by simp; omega) ?_); intro v' w3 hown' hgrow3 hnil3; obtain ⟨g', cap', rfl, hO2⟩ := own_appF2 (app_len n most k).symm hown'))
          rw [HKN.out] at hO2
          have HO2 := Frame.hid hO2
          have hB3 : Below w.heap.size w w3 := Below.grown (B := w.heap.size) ((below_drewN HBL.out m).alloc hsz _) hgrow3 (by simp; omega) (fun k' hk' => (World.ownsRow.lt (HO1.out m) k' hk').1)
          have HB3 := Frame.hid hB3
          clear hO2 hown' hgrow3 hnil3 hB3
          go_roundw
          case rel => exact ⟨k + 1, g', cap', by omega, by go_num, rfl, HO2.out, HB3.out, HP2.out⟩
          case measure => simp [intOf]; omega
    · have hkn : n = k := by omega
      subst hkn
      have hS : SpT w n g cap (v0 n most) wr := ⟨by have h := HO.out; rwa [app_last] at h, v0_len _ _, HBL.out⟩
      have hps : posL xs = true := posL_upto (fun j hj => HP.out j (by have := HX.out; omega))
      have hsp : spB xs most rise = true := by
        unfold spB
        rw [decide_eq_true (by have := HX.out; omega : 1 ≤ xs.length), decide_eq_true (by have := HX.out; omega : xs.length ≤ 64), hps, HA.out, HB.out]
        rfl
      have HSP := Frame.hid hsp
      have hg : w.heap.size ≤ g := (World.ownsRow.lt HO.out g rfl).1
      have hS0 : ∃ vs, FW xs most rise 0 vs ∧ SpT w n g cap vs wr := ⟨_, by show _ = v0 xs.length most; rw [← HX.out], hS⟩
      have HS0 := Frame.hid hS0
      have HG := Frame.hid hg
      clear hS hps hsp hg hS0 HO HP HBL hk hlt
      have a0 : ¬ ((n : Int) < (n : Int)) := by omega
      go_wp2_with fail
      clear a0
      generalize wr = Wa at HS0 ⊢
      go_loopw [13] (fun i W => ∃ (k : Nat) (vs : List Nat), k ≤ n ∧ i = .int .i64 k ∧ FW xs most rise k vs ∧ SpT w n g cap vs W) (fun i _ => n - (intOf i).toNat)
      case atStart =>
        obtain ⟨vs, hF, hS⟩ := HS0.out
        exact ⟨0, vs, Nat.zero_le _, rfl, hF, hS⟩
      case round =>
        obtain ⟨k, vs, hk, rfl, hF, hS⟩ := hrel
        by_cases hlt : k < n
        · have HSI := Frame.hid (fun r (h : AfterR rise (vs.getD k 0) (xs.getD k 0) r) => (show FW xs most rise (k + 1) (vs.set (k + 1) (selW (vs.getD (k + 1) 0) r)) from ⟨vs, r, hF, h, rfl⟩))
          have hV1 : ∀ W, SpT w n g cap vs W → W.cell? ⟨g, k + 1, none⟩ = some (.float .f32 (vs.getD (k + 1) 0)) := fun W h => h.cell (by omega)
          have hV2 : ∀ W, SpT w n g cap vs W → W.cell? ⟨g, k, none⟩ = some (.float .f32 (vs.getD k 0)) := fun W h => h.cell (by omega)
          have hV3 : ∀ W, SpT w n g cap vs W → W.cell? ⟨b, off + k, none⟩ = some (.float .f32 (xs.getD k 0)) := fun W h => HXC.out W h.bel k hlt
          have HV := Frame.hid (And.intro hV1 (And.intro hV2 hV3))
          clear hV1 hV2 hV3 hF
          generalize xs.getD k 0 = x at HV HSI
          obtain ⟨z, hz⟩ : ∃ z, z = vs.getD (k + 1) 0 := ⟨_, rfl⟩
          obtain ⟨y, hy⟩ : ∃ y, y = vs.getD k 0 := ⟨_, rfl⟩
          rw [← hz, ← hy] at HV
          rw [← hz, ← hy] at HSI
          have HZY := Frame.hid (And.intro hz hy)
          clear hz hy
          have b0 : (k : Int) < (n : Int) := by omega
          have b1 : (0 : Int) ≤ (k : Int) := by omega
          have b2 : (k : Int) < (n : Int) + 1 := by omega
          have a1 : ¬ ((k : Int) + 1 < 0) := by omega
          have a2 : (0 : Int) ≤ (k : Int) + 1 := by omega
          have a3 : ((k : Int) + 1).toNat = k + 1 := by omega
          have a4 : (k : Int) + 1 < (n : Int) + 1 := by omega
          have a5 : IntKind.i64.wrap ((k : Int) + 1) = (k : Int) + 1 := by rw [IntKind.wrap_i64]; omega
          go_wp2_with fail
          have hCe : ∃ W, SpT w n g cap vs W := ⟨wr, hS⟩
          have hCd : ∀ W nn, SpT w n g cap vs W → SpT w n g cap vs (W.drewN nn) := fun W nn h => h.drewN nn
          refine region_may_n 18 (fun W => SpT w n g cap vs W) RelRo rfl (by kernel_rfl) (by kernel_rfl) (hS.drewN 1) ?_
          refine' rC_read hCe (Or.inl ⟨by rfl, fun wq hSq => _⟩) _
          rotate_left
          · have q1 := HV.out.1 wq hSq
            have q2 := HV.out.2.1 wq hSq
            have q3 := HV.out.2.2 wq hSq
            go_simp
            try with_reducible rfl
          simp only [Act.put, List.setIfInBounds_toArray, List.set_cons_zero, List.set_cons_succ]
          refine' rC_read hCe (Or.inl ⟨by rfl, fun wq hSq => _⟩) _
          rotate_left
          · have q1 := HV.out.1 wq hSq
            have q2 := HV.out.2.1 wq hSq
            have q3 := HV.out.2.2 wq hSq
            go_simp
            try with_reducible rfl
          simp only [Act.put, List.setIfInBounds_toArray, List.set_cons_zero, List.set_cons_succ]
          refine' rC_read hCe (Or.inl ⟨by rfl, fun wq hSq => _⟩) _
          rotate_left
          · have q1 := HV.out.1 wq hSq
            have q2 := HV.out.2.1 wq hSq
            have q3 := HV.out.2.2 wq hSq
            go_simp
            try with_reducible rfl
          simp only [Act.put, List.setIfInBounds_toArray, List.set_cons_zero, List.set_cons_succ]
          refine' rC_read hCe (Or.inl ⟨by rfl, fun wq hSq => _⟩) _
          rotate_left
          · have q1 := HV.out.1 wq hSq
            have q2 := HV.out.2.1 wq hSq
            have q3 := HV.out.2.2 wq hSq
            go_simp
            try with_reducible rfl
          simp only [Act.put, List.setIfInBounds_toArray, List.set_cons_zero, List.set_cons_succ]
          refine' rC_read hCe (Or.inl ⟨by rfl, fun wq hSq => _⟩) _
          rotate_left
          · have q1 := HV.out.1 wq hSq
            have q2 := HV.out.2.1 wq hSq
            have q3 := HV.out.2.2 wq hSq
            go_simp
            try with_reducible rfl
          simp only [Act.put, List.setIfInBounds_toArray, List.set_cons_zero, List.set_cons_succ]
          refine' rC_read hCe (Or.inl ⟨by rfl, fun wq hSq => _⟩) _
          rotate_left
          · have q1 := HV.out.1 wq hSq
            have q2 := HV.out.2.1 wq hSq
            have q3 := HV.out.2.2 wq hSq
            go_simp
            try with_reducible rfl
          simp only [Act.put, List.setIfInBounds_toArray, List.set_cons_zero, List.set_cons_succ]
          refine' rC_read hCe (Or.inl ⟨by rfl, fun wq hSq => _⟩) _
          rotate_left
          · have q1 := HV.out.1 wq hSq
            have q2 := HV.out.2.1 wq hSq
            have q3 := HV.out.2.2 wq hSq
            go_simp
            try with_reducible rfl
          simp only [Act.put, List.setIfInBounds_toArray, List.set_cons_zero, List.set_cons_succ]
          refine' rC_read hCe (Or.inl ⟨by rfl, fun wq hSq => _⟩) _
          rotate_left
          · have q1 := HV.out.1 wq hSq
            have q2 := HV.out.2.1 wq hSq
            have q3 := HV.out.2.2 wq hSq
            go_simp
            try with_reducible rfl
          simp only [Act.put, List.setIfInBounds_toArray, List.set_cons_zero, List.set_cons_succ]
          refine rC_arith hCe hCd rfl _ _ _ _ _ rfl rfl _ _ _ rfl rfl ?_
          intro p kp
          simp only [Act.put, List.setIfInBounds_toArray, List.set_cons_zero, List.set_cons_succ]
          refine' rC_read hCe (Or.inl ⟨by rfl, fun wq hSq => _⟩) _
          rotate_left
          · have q1 := HV.out.1 wq hSq
            have q2 := HV.out.2.1 wq hSq
            have q3 := HV.out.2.2 wq hSq
            go_simp
            try with_reducible rfl
          simp only [Act.put, List.setIfInBounds_toArray, List.set_cons_zero, List.set_cons_succ]
          refine rC_arith hCe hCd rfl _ _ _ _ _ rfl rfl _ _ _ rfl rfl ?_
          intro q kq
          simp only [Act.put, List.setIfInBounds_toArray, List.set_cons_zero, List.set_cons_succ]
          refine' rC_read hCe (Or.inl ⟨by rfl, fun wq hSq => _⟩) _
          rotate_left
          · have q1 := HV.out.1 wq hSq
            have q2 := HV.out.2.1 wq hSq
            have q3 := HV.out.2.2 wq hSq
            go_simp
            try with_reducible rfl
          simp only [Act.put, List.setIfInBounds_toArray, List.set_cons_zero, List.set_cons_succ]
          refine' rC_read hCe (Or.inl ⟨by rfl, fun wq hSq => _⟩) _
          rotate_left
          · have q1 := HV.out.1 wq hSq
            have q2 := HV.out.2.1 wq hSq
            have q3 := HV.out.2.2 wq hSq
            go_simp
            try with_reducible rfl
          simp only [Act.put, List.setIfInBounds_toArray, List.set_cons_zero, List.set_cons_succ]
          refine' rC_read hCe (Or.inl ⟨by rfl, fun wq hSq => _⟩) _
          rotate_left
          · have q1 := HV.out.1 wq hSq
            have q2 := HV.out.2.1 wq hSq
            have q3 := HV.out.2.2 wq hSq
            go_simp
            try with_reducible rfl
          simp only [Act.put, List.setIfInBounds_toArray, List.set_cons_zero, List.set_cons_succ]
          refine' rC_read hCe (Or.inl ⟨by rfl, fun wq hSq => _⟩) _
          rotate_left
          · have q1 := HV.out.1 wq hSq
            have q2 := HV.out.2.1 wq hSq
            have q3 := HV.out.2.2 wq hSq
            go_simp
            try with_reducible rfl
          simp only [Act.put, List.setIfInBounds_toArray, List.set_cons_zero, List.set_cons_succ]
          refine rC_arith hCe hCd rfl _ _ _ _ _ rfl rfl _ _ _ rfl rfl ?_
          intro s ks
          simp only [Act.put, List.setIfInBounds_toArray, List.set_cons_zero, List.set_cons_succ]
          refine rC_arith hCe hCd rfl _ _ _ _ _ rfl rfl _ _ _ rfl rfl ?_
          intro t kt
          simp only [Act.put, List.setIfInBounds_toArray, List.set_cons_zero, List.set_cons_succ]
          refine rC_call hCe (by rfl) 110 #[.float .f32 t] (fun wq hSq => ?_) (fun wq hSq => ?_) (fun u hu => ?_)
          · go_simp
          · refine (l01Sqrt_calls _ _).mono ?_
            rintro e w' ⟨r, nn, rfl, hr, hrl, rfl⟩
            exact ⟨_, rfl, ⟨rfl, _, _, rfl, rfl, hr⟩, hSq.drewN _⟩
          obtain ⟨-, t', r, he, rfl, hroot⟩ := hu
          simp at he
          obtain rfl := he
          simp only [Act.put, List.setIfInBounds_toArray, List.set_cons_zero, List.set_cons_succ]
          refine rC_nil (fun w3 hw3 => ?_)
          have q1 := HV.out.1 w3 hw3
          have q2 := HV.out.2.1 w3 hw3
          have hA := HSI.out r ⟨p, q, s, t, kp, kq, ks, kt, hroot⟩
          refine wpTail_cons (fun K hK => ?_)
          go_simp
          refine hK.out _ _ (.inl rfl) ?_
          clear hK K
          refine wpTail_done ?_
          have f1 := hw3.froz (k + 1)
          have HW3 := Frame.hid hw3
          clear hw3 hCe hCd kp kq ks kt hroot
          cases hsel : ltW r z
          · have hs' : (FloatKind.f32.format.order r z == some Ordering.lt) = false := hsel
            unfold selW at hA
            rw [hsel] at hA
            simp only [Bool.false_eq_true, if_false] at hA
            rw [HZY.out.1, set_self] at hA
            have HAF := Frame.hid hA
            clear hA hsel
            go_wp2_with fail
            go_roundw
            case rel => exact ⟨k + 1, vs, by omega, by go_num, HAF.out, HW3.out⟩
            case measure => simp [intOf]; omega
          · have hs' : (FloatKind.f32.format.order r z == some Ordering.lt) = true := hsel
            unfold selW at hA
            rw [hsel, if_pos rfl] at hA
            have HAF := Frame.hid hA
            clear hA hsel
            go_wp2_with fail
            go_roundw
            case rel => exact ⟨k + 1, _, by omega, by go_num, HAF.out, HW3.out.put _ _ HG.out⟩
            case measure => simp [intOf]; omega
        · have hkn : n = k := by omega
          subst hkn
          have hB0 : BW xs most rise 0 vs := by show FW xs most rise xs.length vs; rw [← HX.out]; exact hF
          have HB0 := Frame.hid (And.intro hB0 hS)
          clear hF hS hB0 hk hlt HS0
          have a0 : ¬ ((n : Int) < (n : Int)) := by omega
          have a5 : IntKind.i64.wrap ((n : Int) - 1) = (n : Int) - 1 := by rw [IntKind.wrap_i64]; omega
          go_wp2_with fail
          clear a0 a5
          generalize wr = Wb at HB0 ⊢
          go_loopw [15] (fun i W => ∃ (j k : Nat) (vs : List Nat), j + k = n ∧ i = .int .i64 ((j : Int) - 1) ∧ BW xs most rise k vs ∧ SpT w n g cap vs W) (fun i _ => (intOf i + 1).toNat)
          case atStart => exact ⟨n, 0, vs, rfl, rfl, HB0.out.1, HB0.out.2⟩
          case round =>
            clear HB0
            obtain ⟨j, k, us, hk, rfl, hF, hS⟩ := hrel
            by_cases hj : j = 0
            · have hk0 : n = k := by omega
              subst hk0
              have ej : ((j : Int) - 1) = -1 := by omega
              rw [ej]
              have hmost : fin .f32 most = true := by
                have h := HA.out
                unfold aboveB at h
                rw [Bool.and_eq_true] at h
                exact h.1
              have HFV := Frame.hid (BW.facts hmost hF)
              have HFB := Frame.hid hF
              have HS := Frame.hid hS
              clear hmost hF hS hk hj ej
              go_wp2_with fail
              go_loopw [17, 18] (fun s i W => ∃ (k t0 : Nat), k ≤ n ∧ i = .int .i64 k ∧ s = .float .f32 t0 ∧ (∀ j, j < k → gtB (bothV us j) = true) ∧ SM xs us k t0 ∧ SpT w n g cap us W) (fun _ i _ => n - (intOf i).toNat)
              case atStart => exact ⟨0, 0, Nat.zero_le _, rfl, rfl, fun j hj => absurd hj (by omega), rfl, HS.out⟩
              case round =>
                clear HS
                obtain ⟨k, t0, hk, rfl, rfl, hG, hSM, hS⟩ := hrel
                by_cases hlt : k < n
                · skip
                  have HSI := Frame.hid (fun d q t' h1 h2 h3 => (show SM xs us (k + 1) t' from ⟨t0, d, q, hSM, h1, h2, h3⟩))
                  have HGG := Frame.hid hG
                  have HBT := Frame.hid (fun r h => bothV_of (k := k) (r := r) HFV.out.2 h)
                  have HS := Frame.hid hS
                  clear hG hSM hS
                  obtain ⟨x, hx⟩ : ∃ x, x = xs.getD k 0 := ⟨_, rfl⟩
                  obtain ⟨y, hy⟩ : ∃ y, y = us.getD k 0 := ⟨_, rfl⟩
                  obtain ⟨z, hz⟩ : ∃ z, z = us.getD (k + 1) 0 := ⟨_, rfl⟩
                  rw [← hx] at HSI
                  rw [← hy, ← hz] at HBT
                  have HYZ := Frame.hid (And.intro hy (And.intro hz hx))
                  clear hy hz hx
                  obtain ⟨bv, hbv⟩ : ∃ bv, bv = bothV us k := ⟨_, rfl⟩
                  rw [← hbv] at HSI HBT
                  have HBV := Frame.hid hbv
                  clear hbv
                  have b0 : (k : Int) < (n : Int) := by omega
                  have b1 : (0 : Int) ≤ (k : Int) := by omega
                  have b2 : (k : Int) < (n : Int) + 1 := by omega
                  have a1 : ¬ ((k : Int) + 1 < 0) := by omega
                  have a2 : (0 : Int) ≤ (k : Int) + 1 := by omega
                  have a3 : ((k : Int) + 1).toNat = k + 1 := by omega
                  have a4 : (k : Int) + 1 < (n : Int) + 1 := by omega
                  have a5 : IntKind.i64.wrap ((k : Int) + 1) = (k : Int) + 1 := by rw [IntKind.wrap_i64]; omega
                  have hV3 : ∀ W, SpT w n g cap us W → W.cell? ⟨g, k, none⟩ = some (.float .f32 y) := fun W h => by rw [h.cell (by omega), HYZ.out.1]
                  have hV4 : ∀ W, SpT w n g cap us W → W.cell? ⟨g, k + 1, none⟩ = some (.float .f32 z) := fun W h => by rw [h.cell (by omega), HYZ.out.2.1]
                  have hV5 : ∀ W, SpT w n g cap us W → W.cell? ⟨b, off + k, none⟩ = some (.float .f32 x) := fun W h => by rw [HXC.out W h.bel k hlt, HYZ.out.2.2]
                  have HV := Frame.hid (And.intro hV3 (And.intro hV4 hV5))
                  clear hV3 hV4 hV5
                  go_wp2_with fail
                  have hCe : ∃ W, SpT w n g cap us W := ⟨wr, HS.out⟩
                  have hCd : ∀ W nn, SpT w n g cap us W → SpT w n g cap us (W.drewN nn) := fun W nn h => h.drewN nn
                  refine region_may_n 10 (fun W => SpT w n g cap us W) RelRo rfl (by kernel_rfl) (by kernel_rfl) (HS.out.drewN 1) ?_
                  refine' rC_read hCe (Or.inl ⟨by rfl, fun wq hSq => _⟩) _
                  rotate_left
                  · have q1 := HV.out.1 wq hSq
                    have q2 := HV.out.2.1 wq hSq
                    have q3 := HV.out.2.2 wq hSq
                    go_simp
                    try with_reducible rfl
                  simp only [Act.put, List.setIfInBounds_toArray, List.set_cons_zero, List.set_cons_succ]
                  refine' rC_read hCe (Or.inl ⟨by rfl, fun wq hSq => _⟩) _
                  rotate_left
                  · have q1 := HV.out.1 wq hSq
                    have q2 := HV.out.2.1 wq hSq
                    have q3 := HV.out.2.2 wq hSq
                    go_simp
                    try with_reducible rfl
                  simp only [Act.put, List.setIfInBounds_toArray, List.set_cons_zero, List.set_cons_succ]
                  refine' rC_read hCe (Or.inl ⟨by rfl, fun wq hSq => _⟩) _
                  rotate_left
                  · have q1 := HV.out.1 wq hSq
                    have q2 := HV.out.2.1 wq hSq
                    have q3 := HV.out.2.2 wq hSq
                    go_simp
                    try with_reducible rfl
                  simp only [Act.put, List.setIfInBounds_toArray, List.set_cons_zero, List.set_cons_succ]
                  refine' rC_read hCe (Or.inl ⟨by rfl, fun wq hSq => _⟩) _
                  rotate_left
                  · have q1 := HV.out.1 wq hSq
                    have q2 := HV.out.2.1 wq hSq
                    have q3 := HV.out.2.2 wq hSq
                    go_simp
                    try with_reducible rfl
                  simp only [Act.put, List.setIfInBounds_toArray, List.set_cons_zero, List.set_cons_succ]
                  refine' rC_read hCe (Or.inl ⟨by rfl, fun wq hSq => _⟩) _
                  rotate_left
                  · have q1 := HV.out.1 wq hSq
                    have q2 := HV.out.2.1 wq hSq
                    have q3 := HV.out.2.2 wq hSq
                    go_simp
                    try with_reducible rfl
                  simp only [Act.put, List.setIfInBounds_toArray, List.set_cons_zero, List.set_cons_succ]
                  refine' rC_read hCe (Or.inl ⟨by rfl, fun wq hSq => _⟩) _
                  rotate_left
                  · have q1 := HV.out.1 wq hSq
                    have q2 := HV.out.2.1 wq hSq
                    have q3 := HV.out.2.2 wq hSq
                    go_simp
                    try with_reducible rfl
                  simp only [Act.put, List.setIfInBounds_toArray, List.set_cons_zero, List.set_cons_succ]
                  refine' rC_read hCe (Or.inl ⟨by rfl, fun wq hSq => _⟩) _
                  rotate_left
                  · have q1 := HV.out.1 wq hSq
                    have q2 := HV.out.2.1 wq hSq
                    have q3 := HV.out.2.2 wq hSq
                    go_simp
                    try with_reducible rfl
                  simp only [Act.put, List.setIfInBounds_toArray, List.set_cons_zero, List.set_cons_succ]
                  refine' rC_read hCe (Or.inl ⟨by rfl, fun wq hSq => _⟩) _
                  rotate_left
                  · have q1 := HV.out.1 wq hSq
                    have q2 := HV.out.2.1 wq hSq
                    have q3 := HV.out.2.2 wq hSq
                    go_simp
                    try with_reducible rfl
                  simp only [Act.put, List.setIfInBounds_toArray, List.set_cons_zero, List.set_cons_succ]
                  refine' rC_read hCe (Or.inl ⟨by rfl, fun wq hSq => _⟩) _
                  rotate_left
                  · have q1 := HV.out.1 wq hSq
                    have q2 := HV.out.2.1 wq hSq
                    have q3 := HV.out.2.2 wq hSq
                    go_simp
                    try with_reducible rfl
                  simp only [Act.put, List.setIfInBounds_toArray, List.set_cons_zero, List.set_cons_succ]
                  refine rC_arith hCe hCd rfl _ _ _ _ _ rfl rfl _ _ _ rfl rfl ?_
                  intro s ks
                  simp only [Act.put, List.setIfInBounds_toArray, List.set_cons_zero, List.set_cons_succ]
                  refine rC_nil (fun w3 hw3 => ?_)
                  have hrb := HBT.out s ks
                  subst hrb
                  have q3 := HV.out.2.2 w3 hw3
                  refine wpTail_cons (fun K hK => ?_)
                  go_simp
                  refine hK.out _ _ (.inl rfl) ?_
                  clear hK K
                  refine wpTail_done ?_
                  have HW3 := Frame.hid hw3
                  clear hw3 hCe hCd ks
                  cases hgt : gtB s
                  · have hg' : (FloatKind.f32.format.order s 0 == some Ordering.gt) = false := hgt
                    have HGT := Frame.hid hgt
                    clear hgt
                    go_wp2_with fail
                    refine bodyPost_ret (v := .tuple #[.slice none 0 0, .float .f32 0, .bool false]) (by simp [results, Try.results44, go_sem]) rfl ?_
                    exact ⟨_, [], 0, false, rfl, .inl ⟨HSP.out, us, by rw [← HX.out]; exact HFB.out, .inr ⟨⟨k, by rw [← HX.out]; exact hlt, by rw [← HBV.out]; exact HGT.out⟩, rfl, rfl, rfl⟩⟩, fun _ => rfl, (fun h => by cases h), below_drewN HW3.out.bel 0⟩
                  · have hg' : (FloatKind.f32.format.order s 0 == some Ordering.gt) = true := hgt
                    have HGT := Frame.hid hgt
                    clear hgt
                    go_wp2_with (refine wpList_arith rfl _ _ _ _ _ rfl rfl _ _ _ rfl rfl ?_; intro r' n' hr' hl')
                    go_roundw
                    case rel =>
                      refine ⟨k + 1, _, by omega, by go_num, rfl, fun j hj => ?_, HSI.out _ _ _ (by assumption) (by assumption) (by assumption), by first | exact HW3.out.drewN _ | exact (HW3.out.drewN _).drewN _ | exact ((HW3.out.drewN _).drewN _).drewN _⟩
                      by_cases h : j = k
                      · rw [h, ← HBV.out]; exact HGT.out
                      · exact HGG.out j (by omega)
                    case measure => simp [intOf]; omega
                · have hkn : n = k := by omega
                  subst hkn
                  have a0 : ¬ ((n : Int) < (n : Int)) := by omega
                  have HGG := Frame.hid hG
                  have HSM := Frame.hid hSM
                  have HS := Frame.hid hS
                  have HFI := Frame.hid (finL_upto (xs := us) (fun j _ => HFV.out.2 j))
                  have hc := fun q => l02Fin_calls (some ⟨g, 0, none⟩) us cap (wr.drewN q) (by rw [HS.out.len]; omega) ((HS.out.drewN q).own.rd HS.out.len.symm)
                  rw [HS.out.len] at hc
                  have HC := Frame.hid hc
                  clear hG hSM hS hk hlt hc
                  cases hfn : fin .f32 t0
                  · have HFN := Frame.hid hfn
                    clear hfn
                    go_wp2_with (first | (go_at_call 111; refine (HC.out 0).mono ?_; rintro e w' ⟨rfl, m, rfl⟩; rw [HFI.out]) | (go_at_call 94; refine (l01Finite_calls _ _).mono ?_; rintro e w' ⟨rfl, mm, rfl⟩; rw [HFN.out]))
                    refine bodyPost_ret (v := .tuple #[.slice none 0 0, .float .f32 0, .bool false]) (by simp [results, Try.results44, go_sem]) rfl ?_
                    exact ⟨_, [], 0, false, rfl, .inl ⟨HSP.out, us, by rw [← HX.out]; exact HFB.out, .inl ⟨by rw [← HX.out]; exact HGG.out, t0, by rw [← HX.out]; exact HSM.out, .inr ⟨HFN.out, rfl, rfl, rfl⟩⟩⟩, fun _ => rfl, (fun h => by cases h), (HS.out.drewN _).bel⟩
                  · have HFN := Frame.hid hfn
                    clear hfn
                    go_wp2_with (first | (go_at_call 111; refine (HC.out 0).mono ?_; rintro e w' ⟨rfl, m, rfl⟩; rw [HFI.out]) | (go_at_call 94; refine (l01Finite_calls _ _).mono ?_; rintro e w' ⟨rfl, mm, rfl⟩; rw [HFN.out]))
                    refine bodyPost_ret (v := .tuple #[.slice (some ⟨g, 0, none⟩) (n + 1) cap, .float .f32 t0, .bool true]) (by simp [results, Try.results44, go_sem]) rfl ?_
                    exact ⟨_, us, t0, true, rfl, .inl ⟨HSP.out, us, by rw [← HX.out]; exact HFB.out, .inl ⟨by rw [← HX.out]; exact HGG.out, t0, by rw [← HX.out]; exact HSM.out, .inl ⟨HFN.out, rfl, rfl, rfl⟩⟩⟩, (fun h => by cases h), fun _ => (HS.out.drewN _).own, (HS.out.drewN _).bel⟩
            · obtain ⟨j, rfl⟩ : ∃ i, j = i + 1 := ⟨j - 1, by omega⟩
              have ej : (((j + 1 : Nat) : Int) - 1) = (j : Int) := by omega
              rw [ej]
              have ek : xs.length - 1 - k = j := by have := HX.out; omega
              have HSI := Frame.hid (fun r (h : AfterR rise (us.getD (j + 1) 0) (xs.getD j 0) r) => (show BW xs most rise (k + 1) (us.set j (selW (us.getD j 0) r)) from ⟨us, r, hF, by rw [ek]; exact h, by rw [ek]⟩))
              have hV1 : ∀ W, SpT w n g cap us W → W.cell? ⟨g, j, none⟩ = some (.float .f32 (us.getD j 0)) := fun W h => h.cell (by omega)
              have hV2 : ∀ W, SpT w n g cap us W → W.cell? ⟨g, j + 1, none⟩ = some (.float .f32 (us.getD (j + 1) 0)) := fun W h => h.cell (by omega)
              have hV3 : ∀ W, SpT w n g cap us W → W.cell? ⟨b, off + j, none⟩ = some (.float .f32 (xs.getD j 0)) := fun W h => HXC.out W h.bel j (by omega)
              have HV := Frame.hid (And.intro hV1 (And.intro hV2 hV3))
              clear hV1 hV2 hV3 hF ek hj ej
              generalize xs.getD j 0 = x at HV HSI
              obtain ⟨z, hz⟩ : ∃ z, z = us.getD j 0 := ⟨_, rfl⟩
              obtain ⟨y, hy⟩ : ∃ y, y = us.getD (j + 1) 0 := ⟨_, rfl⟩
              rw [← hz, ← hy] at HV
              rw [← hz, ← hy] at HSI
              have HZY := Frame.hid (And.intro hz hy)
              clear hz hy
              have b0 : (j : Int) < (n : Int) := by omega
              have b1 : (0 : Int) ≤ (j : Int) := by omega
              have b2 : (j : Int) < (n : Int) + 1 := by omega
              have a1 : ¬ ((j : Int) + 1 < 0) := by omega
              have a2 : (0 : Int) ≤ (j : Int) + 1 := by omega
              have a3 : ((j : Int) + 1).toNat = j + 1 := by omega
              have a4 : (j : Int) + 1 < (n : Int) + 1 := by omega
              have a5 : IntKind.i64.wrap ((j : Int) + 1) = (j : Int) + 1 := by rw [IntKind.wrap_i64]; omega
              have a6 : IntKind.i64.wrap ((j : Int) - 1) = (j : Int) - 1 := by rw [IntKind.wrap_i64]; omega
              have HK := Frame.hid hk
              clear hk
              go_wp2_with fail
              have hCe : ∃ W, SpT w n g cap us W := ⟨wr, hS⟩
              have hCd : ∀ W nn, SpT w n g cap us W → SpT w n g cap us (W.drewN nn) := fun W nn h => h.drewN nn
              refine region_may_n 20 (fun W => SpT w n g cap us W) RelRo rfl (by kernel_rfl) (by kernel_rfl) (hS.drewN 1) ?_
              refine' rC_read hCe (Or.inl ⟨by rfl, fun wq hSq => _⟩) _
              rotate_left
              · have q1 := HV.out.1 wq hSq
                have q2 := HV.out.2.1 wq hSq
                have q3 := HV.out.2.2 wq hSq
                go_simp
                try with_reducible rfl
              simp only [Act.put, List.setIfInBounds_toArray, List.set_cons_zero, List.set_cons_succ]
              refine' rC_read hCe (Or.inl ⟨by rfl, fun wq hSq => _⟩) _
              rotate_left
              · have q1 := HV.out.1 wq hSq
                have q2 := HV.out.2.1 wq hSq
                have q3 := HV.out.2.2 wq hSq
                go_simp
                try with_reducible rfl
              simp only [Act.put, List.setIfInBounds_toArray, List.set_cons_zero, List.set_cons_succ]
              refine' rC_read hCe (Or.inl ⟨by rfl, fun wq hSq => _⟩) _
              rotate_left
              · have q1 := HV.out.1 wq hSq
                have q2 := HV.out.2.1 wq hSq
                have q3 := HV.out.2.2 wq hSq
                go_simp
                try with_reducible rfl
              simp only [Act.put, List.setIfInBounds_toArray, List.set_cons_zero, List.set_cons_succ]
              refine' rC_read hCe (Or.inl ⟨by rfl, fun wq hSq => _⟩) _
              rotate_left
              · have q1 := HV.out.1 wq hSq
                have q2 := HV.out.2.1 wq hSq
                have q3 := HV.out.2.2 wq hSq
                go_simp
                try with_reducible rfl
              simp only [Act.put, List.setIfInBounds_toArray, List.set_cons_zero, List.set_cons_succ]
              refine' rC_read hCe (Or.inl ⟨by rfl, fun wq hSq => _⟩) _
              rotate_left
              · have q1 := HV.out.1 wq hSq
                have q2 := HV.out.2.1 wq hSq
                have q3 := HV.out.2.2 wq hSq
                go_simp
                try with_reducible rfl
              simp only [Act.put, List.setIfInBounds_toArray, List.set_cons_zero, List.set_cons_succ]
              refine' rC_read hCe (Or.inl ⟨by rfl, fun wq hSq => _⟩) _
              rotate_left
              · have q1 := HV.out.1 wq hSq
                have q2 := HV.out.2.1 wq hSq
                have q3 := HV.out.2.2 wq hSq
                go_simp
                try with_reducible rfl
              simp only [Act.put, List.setIfInBounds_toArray, List.set_cons_zero, List.set_cons_succ]
              refine' rC_read hCe (Or.inl ⟨by rfl, fun wq hSq => _⟩) _
              rotate_left
              · have q1 := HV.out.1 wq hSq
                have q2 := HV.out.2.1 wq hSq
                have q3 := HV.out.2.2 wq hSq
                go_simp
                try with_reducible rfl
              simp only [Act.put, List.setIfInBounds_toArray, List.set_cons_zero, List.set_cons_succ]
              refine' rC_read hCe (Or.inl ⟨by rfl, fun wq hSq => _⟩) _
              rotate_left
              · have q1 := HV.out.1 wq hSq
                have q2 := HV.out.2.1 wq hSq
                have q3 := HV.out.2.2 wq hSq
                go_simp
                try with_reducible rfl
              simp only [Act.put, List.setIfInBounds_toArray, List.set_cons_zero, List.set_cons_succ]
              refine' rC_read hCe (Or.inl ⟨by rfl, fun wq hSq => _⟩) _
              rotate_left
              · have q1 := HV.out.1 wq hSq
                have q2 := HV.out.2.1 wq hSq
                have q3 := HV.out.2.2 wq hSq
                go_simp
                try with_reducible rfl
              simp only [Act.put, List.setIfInBounds_toArray, List.set_cons_zero, List.set_cons_succ]
              refine' rC_read hCe (Or.inl ⟨by rfl, fun wq hSq => _⟩) _
              rotate_left
              · have q1 := HV.out.1 wq hSq
                have q2 := HV.out.2.1 wq hSq
                have q3 := HV.out.2.2 wq hSq
                go_simp
                try with_reducible rfl
              simp only [Act.put, List.setIfInBounds_toArray, List.set_cons_zero, List.set_cons_succ]
              refine rC_arith hCe hCd rfl _ _ _ _ _ rfl rfl _ _ _ rfl rfl ?_
              intro p kp
              simp only [Act.put, List.setIfInBounds_toArray, List.set_cons_zero, List.set_cons_succ]
              refine' rC_read hCe (Or.inl ⟨by rfl, fun wq hSq => _⟩) _
              rotate_left
              · have q1 := HV.out.1 wq hSq
                have q2 := HV.out.2.1 wq hSq
                have q3 := HV.out.2.2 wq hSq
                go_simp
                try with_reducible rfl
              simp only [Act.put, List.setIfInBounds_toArray, List.set_cons_zero, List.set_cons_succ]
              refine rC_arith hCe hCd rfl _ _ _ _ _ rfl rfl _ _ _ rfl rfl ?_
              intro q kq
              simp only [Act.put, List.setIfInBounds_toArray, List.set_cons_zero, List.set_cons_succ]
              refine' rC_read hCe (Or.inl ⟨by rfl, fun wq hSq => _⟩) _
              rotate_left
              · have q1 := HV.out.1 wq hSq
                have q2 := HV.out.2.1 wq hSq
                have q3 := HV.out.2.2 wq hSq
                go_simp
                try with_reducible rfl
              simp only [Act.put, List.setIfInBounds_toArray, List.set_cons_zero, List.set_cons_succ]
              refine' rC_read hCe (Or.inl ⟨by rfl, fun wq hSq => _⟩) _
              rotate_left
              · have q1 := HV.out.1 wq hSq
                have q2 := HV.out.2.1 wq hSq
                have q3 := HV.out.2.2 wq hSq
                go_simp
                try with_reducible rfl
              simp only [Act.put, List.setIfInBounds_toArray, List.set_cons_zero, List.set_cons_succ]
              refine' rC_read hCe (Or.inl ⟨by rfl, fun wq hSq => _⟩) _
              rotate_left
              · have q1 := HV.out.1 wq hSq
                have q2 := HV.out.2.1 wq hSq
                have q3 := HV.out.2.2 wq hSq
                go_simp
                try with_reducible rfl
              simp only [Act.put, List.setIfInBounds_toArray, List.set_cons_zero, List.set_cons_succ]
              refine' rC_read hCe (Or.inl ⟨by rfl, fun wq hSq => _⟩) _
              rotate_left
              · have q1 := HV.out.1 wq hSq
                have q2 := HV.out.2.1 wq hSq
                have q3 := HV.out.2.2 wq hSq
                go_simp
                try with_reducible rfl
              simp only [Act.put, List.setIfInBounds_toArray, List.set_cons_zero, List.set_cons_succ]
              refine rC_arith hCe hCd rfl _ _ _ _ _ rfl rfl _ _ _ rfl rfl ?_
              intro s ks
              simp only [Act.put, List.setIfInBounds_toArray, List.set_cons_zero, List.set_cons_succ]
              refine rC_arith hCe hCd rfl _ _ _ _ _ rfl rfl _ _ _ rfl rfl ?_
              intro t kt
              simp only [Act.put, List.setIfInBounds_toArray, List.set_cons_zero, List.set_cons_succ]
              refine rC_call hCe (by rfl) 110 #[.float .f32 t] (fun wq hSq => ?_) (fun wq hSq => ?_) (fun u hu => ?_)
              · go_simp
              · refine (l01Sqrt_calls _ _).mono ?_
                rintro e w' ⟨r, nn, rfl, hr, hrl, rfl⟩
                exact ⟨_, rfl, ⟨rfl, _, _, rfl, rfl, hr⟩, hSq.drewN _⟩
              obtain ⟨-, t', r, he, rfl, hroot⟩ := hu
              simp at he
              obtain rfl := he
              simp only [Act.put, List.setIfInBounds_toArray, List.set_cons_zero, List.set_cons_succ]
              refine rC_nil (fun w3 hw3 => ?_)
              have q1 := HV.out.1 w3 hw3
              have q2 := HV.out.2.1 w3 hw3
              have hA := HSI.out r ⟨p, q, s, t, kp, kq, ks, kt, hroot⟩
              refine wpTail_cons (fun K hK => ?_)
              go_simp
              refine hK.out _ _ (.inl rfl) ?_
              clear hK K
              refine wpTail_done ?_
              have f1 := hw3.froz j
              have HW3 := Frame.hid hw3
              clear hw3 hCe hCd kp kq ks kt hroot
              cases hsel : ltW r z
              · have hs' : (FloatKind.f32.format.order r z == some Ordering.lt) = false := hsel
                unfold selW at hA
                rw [hsel] at hA
                simp only [Bool.false_eq_true, if_false] at hA
                rw [HZY.out.1, set_self] at hA
                have HAF := Frame.hid hA
                clear hA hsel
                go_wp2_with fail
                go_roundw
                case rel => exact ⟨j, k + 1, us, by have := HK.out; omega, by go_num, HAF.out, HW3.out⟩
                case measure => simp [intOf]
              · have hs' : (FloatKind.f32.format.order r z == some Ordering.lt) = true := hsel
                unfold selW at hA
                rw [hsel, if_pos rfl] at hA
                have HAF := Frame.hid hA
                clear hA hsel
                go_wp2_with fail
                go_roundw
                case rel => exact ⟨j, k + 1, _, by have := HK.out; omega, by go_num, HAF.out, HW3.out.put _ _ HG.out⟩
                case measure => simp [intOf]

set_option maxRecDepth 100000 in
set_option maxHeartbeats 2000000 in
theorem specSpeedPlan_calls (A : Option Addr) (c : Nat) (xs : List Nat) (most rise : Nat) (w : World) (hn : xs.length ≤ 1048576) (hr : RdF w A xs) :
    Calls Try.prog 44 #[.slice A xs.length c, .float .f32 most, .float .f32 rise] w fun e w' => ∃ v vs t ok, e = .returned (.tuple #[v, .float .f32 t, .bool ok]) ∧ SpO xs most rise vs t ok ∧ (ok = false → v = .slice none 0 0) ∧ (ok = true → OwnF w' w.heap.size v vs) ∧ Below w.heap.size w w' := by
  obtain ⟨n, hxn⟩ : ∃ n, n = xs.length := ⟨_, rfl⟩
  have hB0 : ∀ m, Below w.heap.size w (w.drewN m) := fun m => below_drewN (Below.refl _ _) m
  by_cases h1 : n < 1
  · have hs : spB xs most rise = false := by unfold spB; rw [decide_eq_false (by omega : ¬ 1 ≤ xs.length)]; rfl
    have HS := Frame.hid hs
    rw [← hxn]
    clear hs hr hn
    go_enter Try.func44, Try.ntmps44
    go_wp2_with fail
    refine bodyPost_ret (v := .tuple #[.slice none 0 0, .float .f32 0, .bool false]) (by simp [results, Try.results44, go_sem]) rfl ?_
    first | exact ⟨_, [], 0, false, rfl, .inr ⟨HS.out, rfl, rfl, rfl⟩, fun _ => rfl, (fun h => by cases h), hB0 0⟩ | exact ⟨_, [], 0, .inl ⟨rfl, .inr ⟨HS.out, rfl, rfl, rfl⟩, rfl, hB0 0⟩⟩
  by_cases h2 : 64 < n
  · have hs : spB xs most rise = false := by unfold spB; rw [decide_eq_false (by omega : ¬ xs.length ≤ 64)]; simp
    have HS := Frame.hid hs
    rw [← hxn]
    clear hs hr hn
    go_enter Try.func44, Try.ntmps44
    go_wp2_with fail
    refine bodyPost_ret (v := .tuple #[.slice none 0 0, .float .f32 0, .bool false]) (by simp [results, Try.results44, go_sem]) rfl ?_
    first | exact ⟨_, [], 0, false, rfl, .inr ⟨HS.out, rfl, rfl, rfl⟩, fun _ => rfl, (fun h => by cases h), hB0 0⟩ | exact ⟨_, [], 0, .inl ⟨rfl, .inr ⟨HS.out, rfl, rfl, rfl⟩, rfl, hB0 0⟩⟩
  have hz1 : decide ((n : Int) < 1) = false := by rw [decide_eq_false_iff_not]; omega
  have hz2 : decide (64 < (n : Int)) = false := by rw [decide_eq_false_iff_not]; omega
  cases ha : aboveB most
  · have hs : spB xs most rise = false := by unfold spB; rw [ha]; simp
    have HS := Frame.hid hs
    have HA := Frame.hid ha
    rw [← hxn]
    clear hs hr hn ha
    go_enter Try.func44, Try.ntmps44
    go_wp2_with (go_at_call 109; refine (l02Above_calls _ _).mono ?_; rintro e w' ⟨rfl, m, rfl⟩; rw [HA.out])
    refine bodyPost_ret (v := .tuple #[.slice none 0 0, .float .f32 0, .bool false]) (by simp [results, Try.results44, go_sem]) rfl ?_
    first | exact ⟨_, [], 0, false, rfl, .inr ⟨HS.out, rfl, rfl, rfl⟩, fun _ => rfl, (fun h => by cases h), hB0 _⟩ | exact ⟨_, [], 0, .inl ⟨rfl, .inr ⟨HS.out, rfl, rfl, rfl⟩, rfl, hB0 _⟩⟩
  cases hb : aboveB rise
  · have hs : spB xs most rise = false := by unfold spB; rw [hb]; simp
    have HS := Frame.hid hs
    have HA := Frame.hid ha
    have HB := Frame.hid hb
    rw [← hxn]
    clear hs hr hn ha hb
    go_enter Try.func44, Try.ntmps44
    go_wp2_with (go_at_call 109; refine (l02Above_calls _ _).mono ?_; rintro e w' ⟨rfl, m, rfl⟩; first | rw [HA.out] | rw [HB.out])
    refine bodyPost_ret (v := .tuple #[.slice none 0 0, .float .f32 0, .bool false]) (by simp [results, Try.results44, go_sem]) rfl ?_
    first | exact ⟨_, [], 0, false, rfl, .inr ⟨HS.out, rfl, rfl, rfl⟩, fun _ => rfl, (fun h => by cases h), hB0 _⟩ | exact ⟨_, [], 0, .inl ⟨rfl, .inr ⟨HS.out, rfl, rfl, rfl⟩, rfl, hB0 _⟩⟩
  rw [← hxn]
  obtain ⟨b, off, rfl, hbl, hxc⟩ := hr (by omega)
  exact specSpeed_yes b off c xs n hxn most rise w (by omega) (by omega) hr ha hb

end Go.Proofs.Ytohbanchaggnmaa
