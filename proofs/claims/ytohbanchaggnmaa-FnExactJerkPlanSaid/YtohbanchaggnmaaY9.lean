/-
  JerkPlan, the specification's side.
-/
import Derived.Test.YtohbanchaggnmaaY8
namespace Go.Proofs.Ytohbanchaggnmaa
open Go.RowKit Fl Ieee Go.WideShapes Go.Deep
attribute [local go_sem] kstore_f kalloc_drewN kset_drewN unary_neg_y

theorem posL_four (a b c d : Nat) : posL [a, b, c, d] = (aboveB a && (aboveB b && (aboveB c && aboveB d))) := by
  unfold posL
  simp [List.all_cons]

set_option maxRecDepth 100000 in
set_option maxHeartbeats 1000000 in
theorem l07Peak_calls (j s h : Nat) (w : World) : Calls Try.prog 117 #[.float .f32 j, .float .f32 s, .float .f32 h] w fun e w' => ∃ p n, e = .returned (.float .f32 p) ∧ PeakR j s h p ∧ w' = w.drewN n := by
  go_enter Try.func117, Try.ntmps117
  go_wp2_with (refine wpList_arith rfl _ _ _ _ _ rfl rfl _ _ _ rfl rfl ?_; intro r n hr hl)
  go_ret
  rename_i r1 n1 k1 l1 r2 n2 k2 l2
  exact ⟨_, _, rfl, ⟨_, _, k1, k2, hr⟩, rfl⟩

set_option maxRecDepth 100000 in
set_option maxHeartbeats 1000000 in
theorem l07Way_calls (j s h : Nat) (w : World) : Calls Try.prog 116 #[.float .f32 j, .float .f32 s, .float .f32 h] w fun e w' => ∃ q n, e = .returned (.float .f32 q) ∧ LeastR j s h q ∧ w' = w.drewN n := by
  go_enter Try.func116, Try.ntmps116
  go_wp2_with (first | (refine wpList_arith rfl _ _ _ _ _ rfl rfl _ _ _ rfl rfl ?_; intro r n hr hl) | (go_at_call 117; refine (l07Peak_calls _ _ _ _).mono ?_; rintro e w' ⟨p, n, rfl, kp, rfl⟩))
  go_ret
  rename_i m1 r1 n1 k1 l1 r2 n2 k2 l2
  exact ⟨_, _, rfl, ⟨_, _, _, kp, k1, k2, hr⟩, rfl⟩

set_option maxRecDepth 100000 in
set_option maxHeartbeats 4000000 in
theorem specJerkPlan_calls (long most rise jerk : Nat) (w : World) : Calls Try.prog 50 #[.float .f32 long, .float .f32 most, .float .f32 rise, .float .f32 jerk] w fun e w' => ∃ j r h c ok, e = .returned (.tuple #[.agg #[.float .f32 j, .float .f32 r, .float .f32 h, .float .f32 c], .bool ok]) ∧ JerkO long most rise jerk j r h c ok ∧ Below w.heap.size w w' := by
  cases ha1 : aboveB long
  · have hp : posL [long, most, rise, jerk] = false := by rw [posL_four]; simp [*]
    have HP := Frame.hid hp
    clear hp
    go_enter Try.func50, Try.ntmps50
    go_wp2_with (go_at_call 109; refine (l02Above_calls _ _).mono ?_; rintro e w' ⟨rfl, n, rfl⟩; first | rw [ha1])
    refine bodyPost_ret (v := .tuple #[.agg #[.float .f32 0, .float .f32 0, .float .f32 0, .float .f32 0], .bool false]) (by simp [results, Try.results50, go_sem]) rfl ⟨_, _, _, _, _, rfl, .inr ⟨HP.out, rfl, rfl, rfl, rfl, rfl⟩, by (apply bel_of; (repeat (first | apply below_dn | apply below_al)); exact below_st _)⟩
  cases ha2 : aboveB most
  · have hp : posL [long, most, rise, jerk] = false := by rw [posL_four]; simp [*]
    have HP := Frame.hid hp
    clear hp
    go_enter Try.func50, Try.ntmps50
    go_wp2_with (go_at_call 109; refine (l02Above_calls _ _).mono ?_; rintro e w' ⟨rfl, n, rfl⟩; first | rw [ha1] | rw [ha2])
    refine bodyPost_ret (v := .tuple #[.agg #[.float .f32 0, .float .f32 0, .float .f32 0, .float .f32 0], .bool false]) (by simp [results, Try.results50, go_sem]) rfl ⟨_, _, _, _, _, rfl, .inr ⟨HP.out, rfl, rfl, rfl, rfl, rfl⟩, by (apply bel_of; (repeat (first | apply below_dn | apply below_al)); exact below_st _)⟩
  cases ha3 : aboveB rise
  · have hp : posL [long, most, rise, jerk] = false := by rw [posL_four]; simp [*]
    have HP := Frame.hid hp
    clear hp
    go_enter Try.func50, Try.ntmps50
    go_wp2_with (go_at_call 109; refine (l02Above_calls _ _).mono ?_; rintro e w' ⟨rfl, n, rfl⟩; first | rw [ha1] | rw [ha2] | rw [ha3])
    refine bodyPost_ret (v := .tuple #[.agg #[.float .f32 0, .float .f32 0, .float .f32 0, .float .f32 0], .bool false]) (by simp [results, Try.results50, go_sem]) rfl ⟨_, _, _, _, _, rfl, .inr ⟨HP.out, rfl, rfl, rfl, rfl, rfl⟩, by (apply bel_of; (repeat (first | apply below_dn | apply below_al)); exact below_st _)⟩
  cases ha4 : aboveB jerk
  · have hp : posL [long, most, rise, jerk] = false := by rw [posL_four]; simp [*]
    have HP := Frame.hid hp
    clear hp
    go_enter Try.func50, Try.ntmps50
    go_wp2_with (go_at_call 109; refine (l02Above_calls _ _).mono ?_; rintro e w' ⟨rfl, n, rfl⟩; first | rw [ha1] | rw [ha2] | rw [ha3] | rw [ha4])
    refine bodyPost_ret (v := .tuple #[.agg #[.float .f32 0, .float .f32 0, .float .f32 0, .float .f32 0], .bool false]) (by simp [results, Try.results50, go_sem]) rfl ⟨_, _, _, _, _, rfl, .inr ⟨HP.out, rfl, rfl, rfl, rfl, rfl⟩, by (apply bel_of; (repeat (first | apply below_dn | apply below_al)); exact below_st _)⟩
  · have hp : posL [long, most, rise, jerk] = true := by rw [posL_four]; simp [*]
    have HP := Frame.hid hp
    clear hp
    go_enter Try.func50, Try.ntmps50
    go_wp2_with (first | (refine wpList_arith rfl _ _ _ _ _ rfl rfl _ _ _ rfl rfl ?_; intro r n hr hl) | (go_at_call 109; refine (l02Above_calls _ _).mono ?_; rintro e w' ⟨rfl, n, rfl⟩; first | rw [ha1] | rw [ha2] | rw [ha3] | rw [ha4]) | (go_at_call 110; refine (l01Sqrt_calls _ _).mono ?_; rintro e w' ⟨q, n, rfl, hq, hql, rfl⟩))
    · rename_i b1 b2 b3 b4 xp m1 kp lp xa m2 ka la hcond m3 K1 a1 K2 a2
      have HRAW := Frame.hid (show RawR most rise jerk q 0 from ⟨xp, xa, kp, ka, .inl ⟨hcond, rfl, r, hr, hq⟩⟩)
      obtain ⟨w3, hw3⟩ : ∃ w3, w3 = ((w.alloc (.cells #[.float .f32 0, .float .f32 0, .float .f32 0, .float .f32 0] 72)).alloc (.cells #[.float .f32 jerk, .float .f32 q, .float .f32 0, .float .f32 0] 72)).drewN (b1 + b2 + b3 + b4 + m1 + m2 + m3 + n) := ⟨_, rfl⟩
      obtain ⟨gp, hgp⟩ : ∃ gp, gp = w.heap.size + 1 := ⟨_, rfl⟩
      rw [← hw3, ← hgp]
      have hPf : At4 w3 gp jerk q 0 0 := by rw [hw3, hgp]; exact ⟨by simp [go_sem], by simp [go_sem], by simp [go_sem], by simp [go_sem]⟩
      have hfp : ∀ i, w3.frozen? ⟨gp, i, none⟩ = false := fun i => by rw [hw3, hgp]; simp [go_sem]
      have hO3 : At4 w3 w.heap.size 0 0 0 0 := by rw [hw3]; exact ⟨by simp [go_sem], by simp [go_sem], by simp [go_sem], by simp [go_sem]⟩
      have hfo : ∀ i, w3.frozen? ⟨w.heap.size, i, none⟩ = false := fun i => by rw [hw3]; simp [go_sem]
      have hB3 : Below w.heap.size w w3 := by rw [hw3]; (apply bel_of; (repeat (first | apply below_dn | apply below_al)); exact below_st _)
      have hgp3 : gp < w3.heap.size := by rw [hw3, hgp]; simp
      have hgo : w.heap.size < gp := by omega
      have hgo3 : w.heap.size < w3.heap.size := Nat.lt_trans hgo hgp3
      have HB3 := Frame.hid hB3
      have hne : gp ≠ w.heap.size := Nat.ne_of_gt hgo
      have HPF := Frame.hid (And.intro hPf hfp)
      have HOF := Frame.hid (And.intro hO3 hfo)
      clear hPf hfp hO3 hfo hB3 hw3 hgp
      refine (l07Way_calls _ _ _ _).mono ?_
      rintro e w4 ⟨q1, n4, rfl, kq, rfl⟩
      have HKQ := Frame.hid kq
      obtain ⟨⟨p0, p1, p2, p3⟩, pf⟩ := HPF.out
      obtain ⟨-, of⟩ := HOF.out
      clear kq
      cases hb : leqW q1 long
      · have hb' : (FloatKind.f32.format.order q1 long == some Ordering.lt || FloatKind.f32.format.order q1 long == some Ordering.eq) = false := hb
        have HBB := Frame.hid hb
        clear hb
        go_wp2_with fail
        clear hb'
        go_loopw [12, 13, 14] (fun l u i wr => ∃ (k lo hi m : Nat), k ≤ 30 ∧ i = .int .i64 k ∧ l = .float .f32 lo ∧ u = .float .f32 hi ∧ ShareK jerk q 0 long k lo hi ∧ wr = w3.drewN m) (fun _ _ i _ => 30 - (intOf i).toNat)
        case atStart => exact ⟨0, 0, 1065353216, n4, by omega, rfl, rfl, rfl, ⟨rfl, rfl⟩, rfl⟩
        case round =>
          obtain ⟨k, lo, hi, m, hk, rfl, rfl, rfl, hK, rfl⟩ := hrel
          by_cases h30 : k = 30
          · subst h30
            have HK := Frame.hid hK
            clear hK
            go_wp2_with (refine wpList_arith rfl _ _ _ _ _ rfl rfl _ _ _ rfl rfl ?_; intro r n hr hl)
            rename_i xr1 nr1 kr1 lr1 K1' a1' K2' a2' K3' a3'
            obtain ⟨h1, hh1⟩ : ∃ h1, h1 = r := ⟨_, rfl⟩
            obtain ⟨r1, hr1⟩ : ∃ r1, r1 = xr1 := ⟨_, rfl⟩
            have HFIT := Frame.hid (show FitR long jerk q 0 r1 h1 0 from ⟨_, HKQ.out, .inr ⟨HBB.out, rfl, _, _, HK.out, by rw [hr1]; exact kr1, by rw [hh1]; exact hr⟩⟩)
            rw [← hr1, ← hh1]
            obtain ⟨w6, hw6⟩ : ∃ w6, w6 = ((w3.setCell ⟨gp, 1, none⟩ (.float .f32 r1)).setCell ⟨gp, 2, none⟩ (.float .f32 h1)).drewN (m + nr1 + n) := ⟨_, rfl⟩
            rw [← hw6]
            clear hr1 hh1 kr1 hr
            have hP6 : At4 w6 gp jerk r1 h1 0 := by
              rw [hw6]
              refine (At4.drewN ⟨?_, ?_, ?_, ?_⟩ _)
              · rw [World.cell?_setCell_other _ _ _ _ (by simp), World.cell?_setCell_other _ _ _ _ (by simp)]; exact p0
              · rw [World.cell?_setCell_other _ _ _ _ (by simp)]; exact World.cell?_setCell_same' _ _ _ (by rw [p1]; rfl)
              · exact World.cell?_setCell_same' _ _ _ (by rw [World.cell?_setCell_other _ _ _ _ (by simp), p2]; rfl)
              · rw [World.cell?_setCell_other _ _ _ _ (by simp), World.cell?_setCell_other _ _ _ _ (by simp)]; exact p3
            have hO6 : At4 w6 w.heap.size 0 0 0 0 := by rw [hw6]; exact ((HOF.out.1.putOther hne).putOther hne).drewN _
            have hf6 : ∀ i, w6.frozen? ⟨w.heap.size, i, none⟩ = false := fun i => by rw [hw6]; show (World.setCell _ _ _).frozen? _ = false; simp only [World.frozen?_setCell]; exact HOF.out.2 i
            have hB6 : Below w.heap.size w w6 := by
              rw [hw6]
              exact below_drewN ((HB3.out.setCell (p := ⟨gp, 1, none⟩) (Nat.le_of_lt hgo) _).setCell (p := ⟨gp, 2, none⟩) (Nat.le_of_lt hgo) _) _
            have hs6 : gp < w6.heap.size := by rw [hw6]; simpa using hgp3
            have hso6 : w.heap.size < w6.heap.size := Nat.lt_trans hgo hs6
            have hx6 := hP6
            have HB6 := Frame.hid hB6
            clear p0 p1 p2 p3 pf hB6 hw6
            refine (l07Plan_calls gp jerk r1 h1 0 _ ⟨hx6.c0, hx6.c1, hx6.c2, hx6.c3⟩).mono ?_
            rintro e w7 ⟨rfl, n7, rfl⟩
            obtain ⟨p0, p1, p2, p3⟩ := hP6
            obtain ⟨o0, o1, o2, o3⟩ := hO6
            clear hx6
            cases hpl : planB jerk r1 h1 0
            · obtain ⟨e0, e1, e2, e3⟩ := set4_read (w := w6) (v0 := .float .f32 0) (v1 := .float .f32 0) (v2 := .float .f32 0) (v3 := .float .f32 0) o0 o1 o2 o3
              have HPL := Frame.hid hpl
              clear hpl
              go_wp2_with fail
              refine bodyPost_ret (v := .tuple #[.agg #[.float .f32 0, .float .f32 0, .float .f32 0, .float .f32 0], .bool false]) (by simp [results, Try.results50, go_sem, e0, e1, e2, e3]) rfl ⟨_, _, _, _, _, rfl, .inl ⟨HP.out, _, _, _, _, _, HRAW.out, HFIT.out, HPL.out.symm, (fun h => by cases h), fun _ => ⟨rfl, rfl, rfl, rfl⟩⟩, ?_⟩
              exact below_drewN ((((HB6.out.setCell (p := ⟨w.heap.size, 0, none⟩) (Nat.le_refl _) _).setCell (p := ⟨w.heap.size, 1, none⟩) (Nat.le_refl _) _).setCell (p := ⟨w.heap.size, 2, none⟩) (Nat.le_refl _) _).setCell (p := ⟨w.heap.size, 3, none⟩) (Nat.le_refl _) _) _
            · obtain ⟨e0, e1, e2, e3⟩ := set4_read (w := w6) (v0 := .float .f32 jerk) (v1 := .float .f32 r1) (v2 := .float .f32 h1) (v3 := .float .f32 0) o0 o1 o2 o3
              have HPL := Frame.hid hpl
              clear hpl
              go_wp2_with fail
              refine bodyPost_ret (v := .tuple #[.agg #[.float .f32 jerk, .float .f32 r1, .float .f32 h1, .float .f32 0], .bool true]) (by simp [results, Try.results50, go_sem, e0, e1, e2, e3]) rfl ⟨_, _, _, _, _, rfl, .inl ⟨HP.out, _, _, _, _, _, HRAW.out, HFIT.out, HPL.out.symm, (fun _ => ⟨rfl, rfl, rfl, rfl⟩), fun h => by cases h⟩, ?_⟩
              exact below_drewN ((((HB6.out.setCell (p := ⟨w.heap.size, 0, none⟩) (Nat.le_refl _) _).setCell (p := ⟨w.heap.size, 1, none⟩) (Nat.le_refl _) _).setCell (p := ⟨w.heap.size, 2, none⟩) (Nat.le_refl _) _).setCell (p := ⟨w.heap.size, 3, none⟩) (Nat.le_refl _) _) _
          · have hlt : k < 30 := by omega
            have HSI := Frame.hid (fun s' m' mr mh qq lo' hi' h1 h2 h3 h4 h5 h6 => (show ShareK jerk q 0 long (k + 1) lo' hi' from ⟨lo, hi, s', m', mr, mh, qq, hK, h1, h2, h3, h4, h5, h6⟩))
            clear hK h30 hk
            go_wp2_with (refine wpList_arith rfl _ _ _ _ _ rfl rfl _ _ _ rfl rfl ?_; intro r n hr hl)
            rename_i xs ns ks ls xm nm km lm K1' a1' xr' nr' kr' lr' K2' a2'
            refine (l07Way_calls _ _ _ _).mono ?_
            rintro e w5 ⟨q2, n5, rfl, kq2, rfl⟩
            cases hb : leqW q2 long
            · have hb' : (FloatKind.f32.format.order q2 long == some Ordering.lt || FloatKind.f32.format.order q2 long == some Ordering.eq) = false := hb
              go_wp2_with fail
              go_roundw
              case rel => exact ⟨k + 1, _, _, _, by omega, by go_num, rfl, rfl, HSI.out _ _ _ _ _ _ _ ks (.inr km) kr' hr kq2 (.inr ⟨hb, rfl, rfl⟩), rfl⟩
              case measure => simp [intOf]; omega
            · have hb' : (FloatKind.f32.format.order q2 long == some Ordering.lt || FloatKind.f32.format.order q2 long == some Ordering.eq) = true := hb
              go_wp2_with fail
              go_roundw
              case rel => exact ⟨k + 1, _, _, _, by omega, by go_num, rfl, rfl, HSI.out _ _ _ _ _ _ _ ks (.inr km) kr' hr kq2 (.inl ⟨hb, rfl, rfl⟩), rfl⟩
              case measure => simp [intOf]; omega
      · have hb' : (FloatKind.f32.format.order q1 long == some Ordering.lt || FloatKind.f32.format.order q1 long == some Ordering.eq) = true := hb
        have HBB := Frame.hid hb
        clear hb
        go_wp2_with (refine wpList_arith rfl _ _ _ _ _ rfl rfl _ _ _ rfl rfl ?_; intro r n hr hl)
        clear hb'
        have HKS := Frame.hid hr
        clear hr
        refine (l07Peak_calls _ _ _ _).mono ?_
        rintro e w5 ⟨pk, n5, rfl, kpk, rfl⟩
        have HKP := Frame.hid kpk
        clear kpk
        go_wp2_with (refine wpList_arith rfl _ _ _ _ _ rfl rfl _ _ _ rfl rfl ?_; intro r n hr hl)
        rename_i rS nS lS K1' a1' K2' a2' K3' a3'
        obtain ⟨c1, hc1⟩ : ∃ c1, c1 = r := ⟨_, rfl⟩
        have HFIT := Frame.hid (show FitR long jerk q 0 q 0 c1 from ⟨_, HKQ.out, .inl ⟨HBB.out, rfl, rfl, _, _, HKS.out, HKP.out, by rw [hc1]; exact hr⟩⟩)
        rw [← hc1]
        obtain ⟨w6, hw6⟩ : ∃ w6, w6 = (w3.setCell ⟨gp, 3, none⟩ (.float .f32 c1)).drewN (n4 + nS + n5 + n) := ⟨_, rfl⟩
        rw [← hw6]
        clear hc1 hr
        have hP6 : At4 w6 gp jerk q 0 c1 := by
          rw [hw6]
          refine (At4.drewN ⟨?_, ?_, ?_, ?_⟩ _)
          · rw [World.cell?_setCell_other _ _ _ _ (by simp)]; exact p0
          · rw [World.cell?_setCell_other _ _ _ _ (by simp)]; exact p1
          · rw [World.cell?_setCell_other _ _ _ _ (by simp)]; exact p2
          · exact World.cell?_setCell_same' _ _ _ (by rw [p3]; rfl)
        have hO6 : At4 w6 w.heap.size 0 0 0 0 := by rw [hw6]; exact (HOF.out.1.putOther hne).drewN _
        have hf6 : ∀ i, w6.frozen? ⟨w.heap.size, i, none⟩ = false := fun i => by rw [hw6]; show (World.setCell _ _ _).frozen? _ = false; rw [World.frozen?_setCell]; exact HOF.out.2 i
        have hB6 : Below w.heap.size w w6 := by
          rw [hw6]
          exact below_drewN (HB3.out.setCell (p := ⟨gp, 3, none⟩) (Nat.le_of_lt hgo) _) _
        have hs6 : gp < w6.heap.size := by rw [hw6]; simpa using hgp3
        have hso6 : w.heap.size < w6.heap.size := Nat.lt_trans hgo hs6
        have hx6 := hP6
        have HB6 := Frame.hid hB6
        clear p0 p1 p2 p3 pf hB6 hw6
        refine (l07Plan_calls gp jerk q 0 c1 _ ⟨hx6.c0, hx6.c1, hx6.c2, hx6.c3⟩).mono ?_
        rintro e w7 ⟨rfl, n7, rfl⟩
        obtain ⟨p0, p1, p2, p3⟩ := hP6
        obtain ⟨o0, o1, o2, o3⟩ := hO6
        clear hx6
        cases hpl : planB jerk q 0 c1
        · obtain ⟨e0, e1, e2, e3⟩ := set4_read (w := w6) (v0 := .float .f32 0) (v1 := .float .f32 0) (v2 := .float .f32 0) (v3 := .float .f32 0) o0 o1 o2 o3
          have HPL := Frame.hid hpl
          clear hpl
          go_wp2_with fail
          refine bodyPost_ret (v := .tuple #[.agg #[.float .f32 0, .float .f32 0, .float .f32 0, .float .f32 0], .bool false]) (by simp [results, Try.results50, go_sem, e0, e1, e2, e3]) rfl ⟨_, _, _, _, _, rfl, .inl ⟨HP.out, _, _, _, _, _, HRAW.out, HFIT.out, HPL.out.symm, (fun h => by cases h), fun _ => ⟨rfl, rfl, rfl, rfl⟩⟩, ?_⟩
          exact below_drewN ((((HB6.out.setCell (p := ⟨w.heap.size, 0, none⟩) (Nat.le_refl _) _).setCell (p := ⟨w.heap.size, 1, none⟩) (Nat.le_refl _) _).setCell (p := ⟨w.heap.size, 2, none⟩) (Nat.le_refl _) _).setCell (p := ⟨w.heap.size, 3, none⟩) (Nat.le_refl _) _) _
        · obtain ⟨e0, e1, e2, e3⟩ := set4_read (w := w6) (v0 := .float .f32 jerk) (v1 := .float .f32 q) (v2 := .float .f32 0) (v3 := .float .f32 c1) o0 o1 o2 o3
          have HPL := Frame.hid hpl
          clear hpl
          go_wp2_with fail
          refine bodyPost_ret (v := .tuple #[.agg #[.float .f32 jerk, .float .f32 q, .float .f32 0, .float .f32 c1], .bool true]) (by simp [results, Try.results50, go_sem, e0, e1, e2, e3]) rfl ⟨_, _, _, _, _, rfl, .inl ⟨HP.out, _, _, _, _, _, HRAW.out, HFIT.out, HPL.out.symm, (fun _ => ⟨rfl, rfl, rfl, rfl⟩), fun h => by cases h⟩, ?_⟩
          exact below_drewN ((((HB6.out.setCell (p := ⟨w.heap.size, 0, none⟩) (Nat.le_refl _) _).setCell (p := ⟨w.heap.size, 1, none⟩) (Nat.le_refl _) _).setCell (p := ⟨w.heap.size, 2, none⟩) (Nat.le_refl _) _).setCell (p := ⟨w.heap.size, 3, none⟩) (Nat.le_refl _) _) _
    · rename_i b1 b2 b3 b4 xp m1 kp lp xa m2 ka la hcond xr m3 kr lr xd m4 kd ld K1 a1 K2 a2
      obtain ⟨xh, hxh⟩ : ∃ xh, xh = r := ⟨_, rfl⟩
      subst hxh
      have HRAW := Frame.hid (show RawR most rise jerk xr xh from ⟨xp, xa, kp, ka, .inr ⟨by simpa [grW] using hcond, kr, xd, kd, hr⟩⟩)
      obtain ⟨w3, hw3⟩ : ∃ w3, w3 = ((w.alloc (.cells #[.float .f32 0, .float .f32 0, .float .f32 0, .float .f32 0] 72)).alloc (.cells #[.float .f32 jerk, .float .f32 xr, .float .f32 xh, .float .f32 0] 72)).drewN (b1 + b2 + b3 + b4 + m1 + m2 + m3 + m4 + n) := ⟨_, rfl⟩
      obtain ⟨gp, hgp⟩ : ∃ gp, gp = w.heap.size + 1 := ⟨_, rfl⟩
      rw [← hw3, ← hgp]
      have hPf : At4 w3 gp jerk xr xh 0 := by rw [hw3, hgp]; exact ⟨by simp [go_sem], by simp [go_sem], by simp [go_sem], by simp [go_sem]⟩
      have hfp : ∀ i, w3.frozen? ⟨gp, i, none⟩ = false := fun i => by rw [hw3, hgp]; simp [go_sem]
      have hO3 : At4 w3 w.heap.size 0 0 0 0 := by rw [hw3]; exact ⟨by simp [go_sem], by simp [go_sem], by simp [go_sem], by simp [go_sem]⟩
      have hfo : ∀ i, w3.frozen? ⟨w.heap.size, i, none⟩ = false := fun i => by rw [hw3]; simp [go_sem]
      have hB3 : Below w.heap.size w w3 := by rw [hw3]; (apply bel_of; (repeat (first | apply below_dn | apply below_al)); exact below_st _)
      have hgp3 : gp < w3.heap.size := by rw [hw3, hgp]; simp
      have hgo : w.heap.size < gp := by omega
      have hgo3 : w.heap.size < w3.heap.size := Nat.lt_trans hgo hgp3
      have HB3 := Frame.hid hB3
      have hne : gp ≠ w.heap.size := Nat.ne_of_gt hgo
      have HPF := Frame.hid (And.intro hPf hfp)
      have HOF := Frame.hid (And.intro hO3 hfo)
      clear hPf hfp hO3 hfo hB3 hw3 hgp
      refine (l07Way_calls _ _ _ _).mono ?_
      rintro e w4 ⟨q1, n4, rfl, kq, rfl⟩
      have HKQ := Frame.hid kq
      obtain ⟨⟨p0, p1, p2, p3⟩, pf⟩ := HPF.out
      obtain ⟨-, of⟩ := HOF.out
      clear kq
      cases hb : leqW q1 long
      · have hb' : (FloatKind.f32.format.order q1 long == some Ordering.lt || FloatKind.f32.format.order q1 long == some Ordering.eq) = false := hb
        have HBB := Frame.hid hb
        clear hb
        go_wp2_with fail
        clear hb'
        go_loopw [12, 13, 14] (fun l u i wr => ∃ (k lo hi m : Nat), k ≤ 30 ∧ i = .int .i64 k ∧ l = .float .f32 lo ∧ u = .float .f32 hi ∧ ShareK jerk xr xh long k lo hi ∧ wr = w3.drewN m) (fun _ _ i _ => 30 - (intOf i).toNat)
        case atStart => exact ⟨0, 0, 1065353216, n4, by omega, rfl, rfl, rfl, ⟨rfl, rfl⟩, rfl⟩
        case round =>
          obtain ⟨k, lo, hi, m, hk, rfl, rfl, rfl, hK, rfl⟩ := hrel
          by_cases h30 : k = 30
          · subst h30
            have HK := Frame.hid hK
            clear hK
            go_wp2_with (refine wpList_arith rfl _ _ _ _ _ rfl rfl _ _ _ rfl rfl ?_; intro r n hr hl)
            rename_i xr1 nr1 kr1 lr1 K1' a1' K2' a2' K3' a3'
            obtain ⟨h1, hh1⟩ : ∃ h1, h1 = r := ⟨_, rfl⟩
            obtain ⟨r1, hr1⟩ : ∃ r1, r1 = xr1 := ⟨_, rfl⟩
            have HFIT := Frame.hid (show FitR long jerk xr xh r1 h1 0 from ⟨_, HKQ.out, .inr ⟨HBB.out, rfl, _, _, HK.out, by rw [hr1]; exact kr1, by rw [hh1]; exact hr⟩⟩)
            rw [← hr1, ← hh1]
            obtain ⟨w6, hw6⟩ : ∃ w6, w6 = ((w3.setCell ⟨gp, 1, none⟩ (.float .f32 r1)).setCell ⟨gp, 2, none⟩ (.float .f32 h1)).drewN (m + nr1 + n) := ⟨_, rfl⟩
            rw [← hw6]
            clear hr1 hh1 kr1 hr
            have hP6 : At4 w6 gp jerk r1 h1 0 := by
              rw [hw6]
              refine (At4.drewN ⟨?_, ?_, ?_, ?_⟩ _)
              · rw [World.cell?_setCell_other _ _ _ _ (by simp), World.cell?_setCell_other _ _ _ _ (by simp)]; exact p0
              · rw [World.cell?_setCell_other _ _ _ _ (by simp)]; exact World.cell?_setCell_same' _ _ _ (by rw [p1]; rfl)
              · exact World.cell?_setCell_same' _ _ _ (by rw [World.cell?_setCell_other _ _ _ _ (by simp), p2]; rfl)
              · rw [World.cell?_setCell_other _ _ _ _ (by simp), World.cell?_setCell_other _ _ _ _ (by simp)]; exact p3
            have hO6 : At4 w6 w.heap.size 0 0 0 0 := by rw [hw6]; exact ((HOF.out.1.putOther hne).putOther hne).drewN _
            have hf6 : ∀ i, w6.frozen? ⟨w.heap.size, i, none⟩ = false := fun i => by rw [hw6]; show (World.setCell _ _ _).frozen? _ = false; simp only [World.frozen?_setCell]; exact HOF.out.2 i
            have hB6 : Below w.heap.size w w6 := by
              rw [hw6]
              exact below_drewN ((HB3.out.setCell (p := ⟨gp, 1, none⟩) (Nat.le_of_lt hgo) _).setCell (p := ⟨gp, 2, none⟩) (Nat.le_of_lt hgo) _) _
            have hs6 : gp < w6.heap.size := by rw [hw6]; simpa using hgp3
            have hso6 : w.heap.size < w6.heap.size := Nat.lt_trans hgo hs6
            have hx6 := hP6
            have HB6 := Frame.hid hB6
            clear p0 p1 p2 p3 pf hB6 hw6
            refine (l07Plan_calls gp jerk r1 h1 0 _ ⟨hx6.c0, hx6.c1, hx6.c2, hx6.c3⟩).mono ?_
            rintro e w7 ⟨rfl, n7, rfl⟩
            obtain ⟨p0, p1, p2, p3⟩ := hP6
            obtain ⟨o0, o1, o2, o3⟩ := hO6
            clear hx6
            cases hpl : planB jerk r1 h1 0
            · obtain ⟨e0, e1, e2, e3⟩ := set4_read (w := w6) (v0 := .float .f32 0) (v1 := .float .f32 0) (v2 := .float .f32 0) (v3 := .float .f32 0) o0 o1 o2 o3
              have HPL := Frame.hid hpl
              clear hpl
              go_wp2_with fail
              refine bodyPost_ret (v := .tuple #[.agg #[.float .f32 0, .float .f32 0, .float .f32 0, .float .f32 0], .bool false]) (by simp [results, Try.results50, go_sem, e0, e1, e2, e3]) rfl ⟨_, _, _, _, _, rfl, .inl ⟨HP.out, _, _, _, _, _, HRAW.out, HFIT.out, HPL.out.symm, (fun h => by cases h), fun _ => ⟨rfl, rfl, rfl, rfl⟩⟩, ?_⟩
              exact below_drewN ((((HB6.out.setCell (p := ⟨w.heap.size, 0, none⟩) (Nat.le_refl _) _).setCell (p := ⟨w.heap.size, 1, none⟩) (Nat.le_refl _) _).setCell (p := ⟨w.heap.size, 2, none⟩) (Nat.le_refl _) _).setCell (p := ⟨w.heap.size, 3, none⟩) (Nat.le_refl _) _) _
            · obtain ⟨e0, e1, e2, e3⟩ := set4_read (w := w6) (v0 := .float .f32 jerk) (v1 := .float .f32 r1) (v2 := .float .f32 h1) (v3 := .float .f32 0) o0 o1 o2 o3
              have HPL := Frame.hid hpl
              clear hpl
              go_wp2_with fail
              refine bodyPost_ret (v := .tuple #[.agg #[.float .f32 jerk, .float .f32 r1, .float .f32 h1, .float .f32 0], .bool true]) (by simp [results, Try.results50, go_sem, e0, e1, e2, e3]) rfl ⟨_, _, _, _, _, rfl, .inl ⟨HP.out, _, _, _, _, _, HRAW.out, HFIT.out, HPL.out.symm, (fun _ => ⟨rfl, rfl, rfl, rfl⟩), fun h => by cases h⟩, ?_⟩
              exact below_drewN ((((HB6.out.setCell (p := ⟨w.heap.size, 0, none⟩) (Nat.le_refl _) _).setCell (p := ⟨w.heap.size, 1, none⟩) (Nat.le_refl _) _).setCell (p := ⟨w.heap.size, 2, none⟩) (Nat.le_refl _) _).setCell (p := ⟨w.heap.size, 3, none⟩) (Nat.le_refl _) _) _
          · have hlt : k < 30 := by omega
            have HSI := Frame.hid (fun s' m' mr mh qq lo' hi' h1 h2 h3 h4 h5 h6 => (show ShareK jerk xr xh long (k + 1) lo' hi' from ⟨lo, hi, s', m', mr, mh, qq, hK, h1, h2, h3, h4, h5, h6⟩))
            clear hK h30 hk
            go_wp2_with (refine wpList_arith rfl _ _ _ _ _ rfl rfl _ _ _ rfl rfl ?_; intro r n hr hl)
            rename_i xs ns ks ls xm nm km lm K1' a1' xr' nr' kr' lr' K2' a2'
            refine (l07Way_calls _ _ _ _).mono ?_
            rintro e w5 ⟨q2, n5, rfl, kq2, rfl⟩
            cases hb : leqW q2 long
            · have hb' : (FloatKind.f32.format.order q2 long == some Ordering.lt || FloatKind.f32.format.order q2 long == some Ordering.eq) = false := hb
              go_wp2_with fail
              go_roundw
              case rel => exact ⟨k + 1, _, _, _, by omega, by go_num, rfl, rfl, HSI.out _ _ _ _ _ _ _ ks (.inr km) kr' hr kq2 (.inr ⟨hb, rfl, rfl⟩), rfl⟩
              case measure => simp [intOf]; omega
            · have hb' : (FloatKind.f32.format.order q2 long == some Ordering.lt || FloatKind.f32.format.order q2 long == some Ordering.eq) = true := hb
              go_wp2_with fail
              go_roundw
              case rel => exact ⟨k + 1, _, _, _, by omega, by go_num, rfl, rfl, HSI.out _ _ _ _ _ _ _ ks (.inr km) kr' hr kq2 (.inl ⟨hb, rfl, rfl⟩), rfl⟩
              case measure => simp [intOf]; omega
      · have hb' : (FloatKind.f32.format.order q1 long == some Ordering.lt || FloatKind.f32.format.order q1 long == some Ordering.eq) = true := hb
        have HBB := Frame.hid hb
        clear hb
        go_wp2_with (refine wpList_arith rfl _ _ _ _ _ rfl rfl _ _ _ rfl rfl ?_; intro r n hr hl)
        clear hb'
        have HKS := Frame.hid hr
        clear hr
        refine (l07Peak_calls _ _ _ _).mono ?_
        rintro e w5 ⟨pk, n5, rfl, kpk, rfl⟩
        have HKP := Frame.hid kpk
        clear kpk
        go_wp2_with (refine wpList_arith rfl _ _ _ _ _ rfl rfl _ _ _ rfl rfl ?_; intro r n hr hl)
        rename_i rS nS lS K1' a1' K2' a2' K3' a3'
        obtain ⟨c1, hc1⟩ : ∃ c1, c1 = r := ⟨_, rfl⟩
        have HFIT := Frame.hid (show FitR long jerk xr xh xr xh c1 from ⟨_, HKQ.out, .inl ⟨HBB.out, rfl, rfl, _, _, HKS.out, HKP.out, by rw [hc1]; exact hr⟩⟩)
        rw [← hc1]
        obtain ⟨w6, hw6⟩ : ∃ w6, w6 = (w3.setCell ⟨gp, 3, none⟩ (.float .f32 c1)).drewN (n4 + nS + n5 + n) := ⟨_, rfl⟩
        rw [← hw6]
        clear hc1 hr
        have hP6 : At4 w6 gp jerk xr xh c1 := by
          rw [hw6]
          refine (At4.drewN ⟨?_, ?_, ?_, ?_⟩ _)
          · rw [World.cell?_setCell_other _ _ _ _ (by simp)]; exact p0
          · rw [World.cell?_setCell_other _ _ _ _ (by simp)]; exact p1
          · rw [World.cell?_setCell_other _ _ _ _ (by simp)]; exact p2
          · exact World.cell?_setCell_same' _ _ _ (by rw [p3]; rfl)
        have hO6 : At4 w6 w.heap.size 0 0 0 0 := by rw [hw6]; exact (HOF.out.1.putOther hne).drewN _
        have hf6 : ∀ i, w6.frozen? ⟨w.heap.size, i, none⟩ = false := fun i => by rw [hw6]; show (World.setCell _ _ _).frozen? _ = false; rw [World.frozen?_setCell]; exact HOF.out.2 i
        have hB6 : Below w.heap.size w w6 := by
          rw [hw6]
          exact below_drewN (HB3.out.setCell (p := ⟨gp, 3, none⟩) (Nat.le_of_lt hgo) _) _
        have hs6 : gp < w6.heap.size := by rw [hw6]; simpa using hgp3
        have hso6 : w.heap.size < w6.heap.size := Nat.lt_trans hgo hs6
        have hx6 := hP6
        have HB6 := Frame.hid hB6
        clear p0 p1 p2 p3 pf hB6 hw6
        refine (l07Plan_calls gp jerk xr xh c1 _ ⟨hx6.c0, hx6.c1, hx6.c2, hx6.c3⟩).mono ?_
        rintro e w7 ⟨rfl, n7, rfl⟩
        obtain ⟨p0, p1, p2, p3⟩ := hP6
        obtain ⟨o0, o1, o2, o3⟩ := hO6
        clear hx6
        cases hpl : planB jerk xr xh c1
        · obtain ⟨e0, e1, e2, e3⟩ := set4_read (w := w6) (v0 := .float .f32 0) (v1 := .float .f32 0) (v2 := .float .f32 0) (v3 := .float .f32 0) o0 o1 o2 o3
          have HPL := Frame.hid hpl
          clear hpl
          go_wp2_with fail
          refine bodyPost_ret (v := .tuple #[.agg #[.float .f32 0, .float .f32 0, .float .f32 0, .float .f32 0], .bool false]) (by simp [results, Try.results50, go_sem, e0, e1, e2, e3]) rfl ⟨_, _, _, _, _, rfl, .inl ⟨HP.out, _, _, _, _, _, HRAW.out, HFIT.out, HPL.out.symm, (fun h => by cases h), fun _ => ⟨rfl, rfl, rfl, rfl⟩⟩, ?_⟩
          exact below_drewN ((((HB6.out.setCell (p := ⟨w.heap.size, 0, none⟩) (Nat.le_refl _) _).setCell (p := ⟨w.heap.size, 1, none⟩) (Nat.le_refl _) _).setCell (p := ⟨w.heap.size, 2, none⟩) (Nat.le_refl _) _).setCell (p := ⟨w.heap.size, 3, none⟩) (Nat.le_refl _) _) _
        · obtain ⟨e0, e1, e2, e3⟩ := set4_read (w := w6) (v0 := .float .f32 jerk) (v1 := .float .f32 xr) (v2 := .float .f32 xh) (v3 := .float .f32 c1) o0 o1 o2 o3
          have HPL := Frame.hid hpl
          clear hpl
          go_wp2_with fail
          refine bodyPost_ret (v := .tuple #[.agg #[.float .f32 jerk, .float .f32 xr, .float .f32 xh, .float .f32 c1], .bool true]) (by simp [results, Try.results50, go_sem, e0, e1, e2, e3]) rfl ⟨_, _, _, _, _, rfl, .inl ⟨HP.out, _, _, _, _, _, HRAW.out, HFIT.out, HPL.out.symm, (fun _ => ⟨rfl, rfl, rfl, rfl⟩), fun h => by cases h⟩, ?_⟩
          exact below_drewN ((((HB6.out.setCell (p := ⟨w.heap.size, 0, none⟩) (Nat.le_refl _) _).setCell (p := ⟨w.heap.size, 1, none⟩) (Nat.le_refl _) _).setCell (p := ⟨w.heap.size, 2, none⟩) (Nat.le_refl _) _).setCell (p := ⟨w.heap.size, 3, none⟩) (Nat.le_refl _) _) _

end Go.Proofs.Ytohbanchaggnmaa
