/-
  JerkPlan, the program's side.
-/
import Derived.Test.YtohbanchaggnmaaY7
namespace Go.Proofs.Ytohbanchaggnmaa
open Go.RowKit Fl Ieee Go.WideShapes Go.Deep
attribute [local go_sem] kstore_f kalloc_drewN kset_drewN unary_neg_y

def posL (xs : List Nat) : Bool := xs.all aboveB
theorem posL_bad {xs : List Nat} {k : Nat} (hk : k < xs.length) (h : aboveB (xs.getD k 0) = false) : posL xs = false := by
  unfold posL
  rw [List.all_eq_false]
  refine ⟨xs[k], List.getElem_mem hk, ?_⟩
  rw [List.getD_eq_getElem?_getD, List.getElem?_eq_getElem hk] at h
  simpa using h
theorem posL_upto {xs : List Nat} (h : ∀ j, j < xs.length → aboveB (xs.getD j 0) = true) : posL xs = true := by
  unfold posL
  rw [List.all_eq_true]
  intro x hx
  obtain ⟨j, hj, rfl⟩ := List.getElem_of_mem hx
  have := h j hj
  rw [List.getD_eq_getElem?_getD, List.getElem?_eq_getElem hj] at this
  simpa using this
theorem above_of_fin {x : Nat} (h : fin .f32 x = true) : aboveB x = !(leqW x 0) := by
  unfold aboveB leqW
  rw [h]
  obtain ⟨o, ho⟩ : ∃ o, FloatKind.f32.format.order x 0 = some o := order_some h (by decide +kernel)
  rw [ho]
  cases o <;> rfl

set_option maxRecDepth 100000 in
set_option maxHeartbeats 1000000 in
theorem arePos_calls (A : Option Addr) (xs : List Nat) (c : Nat) (w : World) (hn : xs.length ≤ 1048576) (hr : RdF w A xs) :
    Calls Try.prog 112 #[.slice A xs.length c] w fun e w' => e = .returned (.bool (posL xs)) ∧ ∃ m, w' = w.drewN m := by
  have HR := Frame.hid hr
  clear hr
  obtain ⟨n, hxn⟩ : ∃ n, n = xs.length := ⟨_, rfl⟩
  rw [← hxn] at hn ⊢
  have HX := Frame.hid hxn
  clear hxn
  go_enter Try.func112, Try.ntmps112
  go_wp2
  go_loopw [7] (fun i wr => ∃ k : Nat, k ≤ n ∧ i = .int .i64 k ∧ (∀ j, j < k → aboveB (xs.getD j 0) = true) ∧ ∃ m, wr = w.drewN m) (fun i _ => n - (intOf i).toNat)
  case atStart => exact ⟨0, Nat.zero_le _, rfl, fun j hj => absurd hj (by omega), 0, rfl⟩
  case round =>
    obtain ⟨k, hk, rfl, hF, m, rfl⟩ := hrel
    by_cases hlt : k < n
    · obtain ⟨b, off, rfl, hb, hc⟩ := HR.out (by have := HX.out; omega)
      have hc1 := hc k (by have := HX.out; omega)
      obtain ⟨x, hx⟩ : ∃ x, x = xs.getD k 0 := ⟨_, rfl⟩
      rw [← hx] at hc1
      have HXX := Frame.hid hx
      have HF := Frame.hid hF
      clear hc hx hF HR
      cases h1 : fin .f32 x
      · have HH1 := Frame.hid h1
        go_wp2_with (go_at_call 98; refine (isFinite_calls _ _).mono ?_; rintro e w' ⟨rfl, m2, rfl⟩; rw [HH1.out])
        go_ret
        refine ⟨ret_bool ?_, _, rfl⟩
        rw [posL_bad (k := k) (by have := HX.out; omega) (by rw [← HXX.out]; unfold aboveB; rw [HH1.out]; rfl)]
      · have HH1 := Frame.hid h1
        have ha := above_of_fin h1
        cases h2 : leqW x 0
        · have h2' : (FloatKind.f32.format.order x 0 == some Ordering.lt || FloatKind.f32.format.order x 0 == some Ordering.eq) = false := h2
          rw [h2] at ha
          have HA := Frame.hid ha
          clear ha h1 h2
          go_wp2_with (go_at_call 98; refine (isFinite_calls _ _).mono ?_; rintro e w' ⟨rfl, m2, rfl⟩; rw [HH1.out])
          go_roundw
          case rel =>
            refine ⟨k + 1, by omega, by go_num, fun j hj => ?_, _, rfl⟩
            by_cases he : j = k
            · subst he
              rw [← HXX.out]
              exact HA.out
            · exact HF.out j (by omega)
          case measure => simp [intOf]; omega
        · have h2' : (FloatKind.f32.format.order x 0 == some Ordering.lt || FloatKind.f32.format.order x 0 == some Ordering.eq) = true := h2
          rw [h2] at ha
          have HA := Frame.hid ha
          clear ha h1 h2
          go_wp2_with (go_at_call 98; refine (isFinite_calls _ _).mono ?_; rintro e w' ⟨rfl, m2, rfl⟩; rw [HH1.out])
          go_ret
          refine ⟨ret_bool ?_, _, rfl⟩
          rw [posL_bad (k := k) (by have := HX.out; omega) (by rw [← HXX.out]; exact HA.out)]
    · have hkn : k = n := by omega
      subst hkn
      have HFA := Frame.hid (posL_upto (xs := xs) (fun j hj => hF j (by have := HX.out; omega)))
      clear hF
      go_wp2
      go_ret
      exact ⟨ret_bool HFA.out.symm, _, rfl⟩

theorem arePos_four (g a b c d : Nat) (W : World) (hr : RdF W (some ⟨g, 0, none⟩) [a, b, c, d]) : Calls Try.prog 112 #[.slice (some ⟨g, 0, none⟩) 4 4] W fun e w' => e = .returned (.bool (posL [a, b, c, d])) ∧ ∃ m, w' = W.drewN m := by
  have e : [a, b, c, d].length = 4 := rfl
  have h := arePos_calls (some ⟨g, 0, none⟩) [a, b, c, d] 4 W (by rw [e]; decide) hr
  rw [e] at h
  exact h

def grW (x y : Nat) : Bool := FloatKind.f32.format.order x y == some Ordering.gt
theorem grW_same {x y X : Nat} (h : FSame .f32 x X) : grW x y = grW X y := by unfold grW; rw [order_same h (FSame.refl _ y)]
/-- How long a plan rises and holds if it goes far enough. -/
def RawR (most rise jerk r h : Nat) : Prop := ∃ p a, FOp .mul .f32 rise rise p ∧ FOp .quo .f32 p jerk a ∧
  ((grW a most = true ∧ h = 0 ∧ ∃ d, FOp .quo .f32 most jerk d ∧ RootR d r) ∨ (grW a most = false ∧ FOp .quo .f32 rise jerk r ∧ ∃ d, FOp .quo .f32 most rise d ∧ FOp .sub .f32 d r h))
theorem RawR.same {most rise jerk r h R H : Nat} (k : RawR most rise jerk r h) (g : RawR most rise jerk R H) : FSame .f32 r R ∧ FSame .f32 h H := by
  obtain ⟨p, a, k1, k2, k3⟩ := k
  obtain ⟨P, A, g1, g2, g3⟩ := g
  have rf : ∀ x, FSame .f32 x x := FSame.refl .f32
  have ea := FOp.same (FOp.same (rf _) (rf _) k1 g1) (rf _) k2 g2
  have el : grW a most = grW A most := grW_same ea
  rcases k3 with ⟨a1, rfl, d, a2, a3⟩ | ⟨a1, a2, d, a3, a4⟩ <;> rcases g3 with ⟨b1, rfl, D, b2, b3⟩ | ⟨b1, b2, D, b3, b4⟩
  · exact ⟨rootR_same (FOp.same (rf _) (rf _) a2 b2) a3 b3, rf _⟩
  · rw [a1, b1] at el; cases el
  · rw [a1, b1] at el; cases el
  · have er := FOp.same (rf _) (rf _) a2 b2
    exact ⟨er, FOp.same (FOp.same (rf _) (rf _) a3 b3) er a4 b4⟩
/-- What a plan becomes so that it goes as far as told. -/
def FitR (long j r0 h0 r h c : Nat) : Prop := ∃ w, LeastR j r0 h0 w ∧
  ((leqW w long = true ∧ r = r0 ∧ h = h0 ∧ ∃ s p, FOp .sub .f32 long w s ∧ PeakR j r0 h0 p ∧ FOp .quo .f32 s p c) ∨ (leqW w long = false ∧ c = 0 ∧ ∃ lo hi, ShareK j r0 h0 long 30 lo hi ∧ FOp .mul .f32 lo r0 r ∧ FOp .mul .f32 lo h0 h))
theorem FitR.same {long j r0 h0 r h c R0 H0 R H C : Nat} (hr : FSame .f32 r0 R0) (hh : FSame .f32 h0 H0) (k : FitR long j r0 h0 r h c) (g : FitR long j R0 H0 R H C) : FSame .f32 r R ∧ FSame .f32 h H ∧ FSame .f32 c C := by
  obtain ⟨w, k1, k2⟩ := k
  obtain ⟨W, g1, g2⟩ := g
  have rf : ∀ x, FSame .f32 x x := FSame.refl .f32
  have ew := LeastR.same hr hh k1 g1
  have el : leqW w long = leqW W long := leqW_same ew
  rcases k2 with ⟨a1, rfl, rfl, s, p, a2, a3, a4⟩ | ⟨a1, rfl, lo, hi, a2, a3, a4⟩ <;> rcases g2 with ⟨b1, rfl, rfl, S, P, b2, b3, b4⟩ | ⟨b1, rfl, LO, HI, b2, b3, b4⟩
  · exact ⟨hr, hh, FOp.same (FOp.same (rf _) ew a2 b2) (PeakR.same hr hh a3 b3) a4 b4⟩
  · rw [a1, b1] at el; cases el
  · rw [a1, b1] at el; cases el
  · have es := (ShareK.same hr hh a2 b2).1
    exact ⟨FOp.same es hr a3 b3, FOp.same es hh a4 b4, rf _⟩
theorem leastB_same {x X : Nat} (h : FSame .f32 x X) : leastB x = leastB X := by unfold leastB; rw [jfin_same h, order_same h (FSame.refl _ 0)]
theorem planB_same {j r h c R H C : Nat} (hr : FSame .f32 r R) (hh : FSame .f32 h H) (hc : FSame .f32 c C) : planB j r h c = planB j R H C := by
  unfold planB; rw [leastB_same hr, leastB_same hh, leastB_same hc]
/-- What is handed out of a plan. -/
def PlanG (J R H C j r h c : Nat) (ok : Bool) : Prop := ok = planB J R H C ∧ (ok = true → j = J ∧ r = R ∧ h = H ∧ c = C) ∧ (ok = false → j = 0 ∧ r = 0 ∧ h = 0 ∧ c = 0)
def JerkO (long most rise jerk j r h c : Nat) (ok : Bool) : Prop :=
  (posL [long, most, rise, jerk] = true ∧ ∃ r0 h0 r1 h1 c1, RawR most rise jerk r0 h0 ∧ FitR long jerk r0 h0 r1 h1 c1 ∧ PlanG jerk r1 h1 c1 j r h c ok) ∨
  (posL [long, most, rise, jerk] = false ∧ j = 0 ∧ r = 0 ∧ h = 0 ∧ c = 0 ∧ ok = false)
theorem JerkO.same {long most rise jerk j r h c J R H C : Nat} {ok ok' : Bool} (k : JerkO long most rise jerk j r h c ok) (g : JerkO long most rise jerk J R H C ok') : j = J ∧ FSame .f32 r R ∧ FSame .f32 h H ∧ FSame .f32 c C ∧ ok = ok' := by
  have rf : ∀ x, FSame .f32 x x := FSame.refl .f32
  rcases k with ⟨k1, r0, h0, r1, h1, c1, k2, k3, k4, k5, k6⟩ | ⟨k1, rfl, rfl, rfl, rfl, rfl⟩ <;> rcases g with ⟨g1, R0, H0, R1, H1, C1, g2, g3, g4, g5, g6⟩ | ⟨g1, rfl, rfl, rfl, rfl, rfl⟩
  · obtain ⟨e1, e2⟩ := RawR.same k2 g2
    obtain ⟨d1, d2, d3⟩ := FitR.same e1 e2 k3 g3
    have ek : ok = ok' := by rw [k4, g4, planB_same d1 d2 d3]
    subst ek
    cases ok
    · obtain ⟨rfl, rfl, rfl, rfl⟩ := k6 rfl
      obtain ⟨rfl, rfl, rfl, rfl⟩ := g6 rfl
      exact ⟨rfl, rf _, rf _, rf _, rfl⟩
    · obtain ⟨rfl, rfl, rfl, rfl⟩ := k5 rfl
      obtain ⟨rfl, rfl, rfl, rfl⟩ := g5 rfl
      exact ⟨rfl, d1, d2, d3, rfl⟩
  · rw [k1] at g1; cases g1
  · rw [k1] at g1; cases g1
  · exact ⟨rfl, rf _, rf _, rf _, rfl⟩

set_option maxRecDepth 100000 in
set_option maxHeartbeats 4000000 in
theorem jerkPlan_calls (long most rise jerk : Nat) (w : World) : Calls Try.prog 51 #[.float .f32 long, .float .f32 most, .float .f32 rise, .float .f32 jerk] w fun e w' => ∃ j r h c ok, e = .returned (.tuple #[.agg #[.float .f32 j, .float .f32 r, .float .f32 h, .float .f32 c], .bool ok]) ∧ JerkO long most rise jerk j r h c ok ∧ Below w.heap.size w w' := by
  have hO0 : At4 ((w.alloc (.cells #[.float .f32 0, .float .f32 0, .float .f32 0, .float .f32 0] 72)).alloc (.cells #[.float .f32 long, .float .f32 most, .float .f32 rise, .float .f32 jerk] 25)) w.heap.size 0 0 0 0 := ⟨by simp [go_sem], by simp [go_sem], by simp [go_sem], by simp [go_sem]⟩
  have hf0 : ∀ i, ((w.alloc (.cells #[.float .f32 0, .float .f32 0, .float .f32 0, .float .f32 0] 72)).alloc (.cells #[.float .f32 long, .float .f32 most, .float .f32 rise, .float .f32 jerk] 25)).frozen? ⟨w.heap.size, i, none⟩ = false := fun i => by simp [go_sem]
  have hL : RdF ((w.alloc (.cells #[.float .f32 0, .float .f32 0, .float .f32 0, .float .f32 0] 72)).alloc (.cells #[.float .f32 long, .float .f32 most, .float .f32 rise, .float .f32 jerk] 25)) (some ⟨w.heap.size + 1, 0, none⟩) [long, most, rise, jerk] := by
    have e : w.heap.size + 1 = (w.alloc (.cells #[.float .f32 0, .float .f32 0, .float .f32 0, .float .f32 0] 72)).heap.size := by simp
    rw [e]
    exact RdF.four _ long most rise jerk 25
  have hB1 : Below w.heap.size w ((w.alloc (.cells #[.float .f32 0, .float .f32 0, .float .f32 0, .float .f32 0] 72)).alloc (.cells #[.float .f32 long, .float .f32 most, .float .f32 rise, .float .f32 jerk] 25)) := ((Below.refl _ _).alloc (Nat.le_refl _) _).alloc (by simp) _
  have hg1 : w.heap.size < ((w.alloc (.cells #[.float .f32 0, .float .f32 0, .float .f32 0, .float .f32 0] 72)).alloc (.cells #[.float .f32 long, .float .f32 most, .float .f32 rise, .float .f32 jerk] 25)).heap.size := by simp; omega
  have HL := Frame.hid hL
  have HST := Frame.hid (And.intro hO0 (And.intro hf0 (And.intro hB1 hg1)))
  clear hO0 hf0 hB1 hg1 hL
  go_enter Try.func51, Try.ntmps51
  go_wp2_with fail
  refine (arePos_four _ _ _ _ _ _ HL.out).mono ?_
  clear HL
  generalize (w.alloc (.cells #[.float .f32 0, .float .f32 0, .float .f32 0, .float .f32 0] 72)).alloc (.cells #[.float .f32 long, .float .f32 most, .float .f32 rise, .float .f32 jerk] 25) = w1 at HST ⊢
  rintro e w2 ⟨rfl, n1, rfl⟩
  cases hp : posL [long, most, rise, jerk]
  · have HP := Frame.hid hp
    obtain ⟨⟨o0, o1, o2, o3⟩, hf, hB, hg⟩ := HST.out
    obtain ⟨e0, e1, e2, e3⟩ := set4_read (w := w1) (v0 := .float .f32 0) (v1 := .float .f32 0) (v2 := .float .f32 0) (v3 := .float .f32 0) o0 o1 o2 o3
    clear hp
    go_wp2_with fail
    refine bodyPost_ret (v := .tuple #[.agg #[.float .f32 0, .float .f32 0, .float .f32 0, .float .f32 0], .bool false]) (by simp [results, Try.results51, go_sem, e0, e1, e2, e3]) rfl ⟨_, _, _, _, _, rfl, .inr ⟨HP.out, rfl, rfl, rfl, rfl, rfl⟩, ?_⟩
    exact below_drewN ((((HST.out.2.2.1.setCell (p := ⟨w.heap.size, 0, none⟩) (Nat.le_refl _) _).setCell (p := ⟨w.heap.size, 1, none⟩) (Nat.le_refl _) _).setCell (p := ⟨w.heap.size, 2, none⟩) (Nat.le_refl _) _).setCell (p := ⟨w.heap.size, 3, none⟩) (Nat.le_refl _) _) _
  · have HP := Frame.hid hp
    clear hp
    go_wp2_with (first | (refine wpList_arith rfl _ _ _ _ _ rfl rfl _ _ _ rfl rfl ?_; intro r n hr hl) | (go_at_call 119; refine (rootNumber_calls _ _).mono ?_; rintro e w' ⟨q, n, rfl, hq, hql, rfl⟩))
    · rename_i xp m1 kp lp xa m2 ka la hcond m3 K1 a1 K2 a2 K3 a3
      have HRAW := Frame.hid (show RawR most rise jerk q 0 from ⟨xp, xa, kp, ka, .inl ⟨hcond, rfl, r, hr, hq⟩⟩)
      obtain ⟨w3, hw3⟩ : ∃ w3, w3 = (w1.alloc (.cells #[.float .f32 jerk, .float .f32 q, .float .f32 0, .float .f32 0] 72)).drewN (n1 + m1 + m2 + m3 + n) := ⟨_, rfl⟩
      obtain ⟨gp, hgp⟩ : ∃ gp, gp = w1.heap.size := ⟨_, rfl⟩
      rw [← hw3, ← hgp]
      have hPf : At4 w3 gp jerk q 0 0 := by rw [hw3, hgp]; exact ⟨by simp [go_sem], by simp [go_sem], by simp [go_sem], by simp [go_sem]⟩
      have hfp : ∀ i, w3.frozen? ⟨gp, i, none⟩ = false := fun i => by rw [hw3, hgp]; simp [go_sem]
      have h13 : Below w1.heap.size w1 w3 := by rw [hw3]; exact below_drewN ((Below.refl _ _).alloc (Nat.le_refl _) _) _
      have hO3 : At4 w3 w.heap.size 0 0 0 0 := HST.out.1.keep h13 HST.out.2.2.2
      have hfo : ∀ i, w3.frozen? ⟨w.heap.size, i, none⟩ = false := fun i => (h13.frozen (p := ⟨w.heap.size, i, none⟩) HST.out.2.2.2).trans (HST.out.2.1 i)
      have hB3 : Below w.heap.size w w3 := HST.out.2.2.1.trans (h13.mono (Nat.le_of_lt HST.out.2.2.2))
      have hgp3 : gp < w3.heap.size := by rw [hw3, hgp]; simp
      have hgo : w.heap.size < gp := by rw [hgp]; exact HST.out.2.2.2
      have hgo3 : w.heap.size < w3.heap.size := Nat.lt_trans hgo hgp3
      have HPK := Frame.hid (fun W (hW : Below w3.heap.size w3 W) => And.intro (hPf.keep hW hgp3) (fun i => (hW.frozen (p := ⟨gp, i, none⟩) hgp3).trans (hfp i)))
      have HOK := Frame.hid (fun W (hW : Below w3.heap.size w3 W) => And.intro (hO3.keep hW hgo3) (fun i => (hW.frozen (p := ⟨w.heap.size, i, none⟩) hgo3).trans (hfo i)))
      have HB3 := Frame.hid hB3
      have hne : gp ≠ w.heap.size := Nat.ne_of_gt hgo
      clear hPf hfp h13 hO3 hfo hB3 hw3 hgp
      refine (leastWay_calls _ _ _ _ _).mono ?_
      rintro e w4 ⟨q1, rfl, kq, hB4⟩
      have HB4 := Frame.hid hB4
      have HKQ := Frame.hid kq
      obtain ⟨⟨p0, p1, p2, p3⟩, pf⟩ := HPK.out w4 hB4
      clear hB4 kq
      cases hb : leqW q1 long
      · have hb' : (FloatKind.f32.format.order q1 long == some Ordering.lt || FloatKind.f32.format.order q1 long == some Ordering.eq) = false := hb
        have HBB := Frame.hid hb
        clear hb
        go_wp2_with fail
        clear hb'
        refine (fitting_calls _ _ _ _ _ _).mono ?_
        rintro e w5 ⟨lo, hi, r1, h1, rfl, kS, k1, k2, hB5⟩
        have HFIT := Frame.hid (show FitR long jerk q 0 r1 h1 0 from ⟨_, HKQ.out, .inr ⟨HBB.out, rfl, _, _, kS, k1, k2⟩⟩)
        have hB35 := HB4.out.trans (hB5.mono HB4.out.size)
        have HB35 := Frame.hid hB35
        clear p0 p1 p2 p3 pf kS k1 k2 hB5
        obtain ⟨⟨p0, p1, p2, p3⟩, pf⟩ := HPK.out w5 hB35
        clear hB35
        go_wp2_with fail
        obtain ⟨w6, hw6⟩ : ∃ w6, w6 = (((w5.setCell ⟨gp, 0, none⟩ (.float .f32 jerk)).setCell ⟨gp, 1, none⟩ (.float .f32 r1)).setCell ⟨gp, 2, none⟩ (.float .f32 h1)).setCell ⟨gp, 3, none⟩ (.float .f32 0) := ⟨_, rfl⟩
        rw [← hw6]
        have hP6 : At4 w6 gp jerk r1 h1 0 := by
          obtain ⟨e0, e1, e2, e3⟩ := set4_read (w := w5) (v0 := .float .f32 jerk) (v1 := .float .f32 r1) (v2 := .float .f32 h1) (v3 := .float .f32 0) p0 p1 p2 p3
          rw [hw6]
          exact ⟨e0, e1, e2, e3⟩
        have hO6 : At4 w6 w.heap.size 0 0 0 0 := by rw [hw6]; exact ((((HOK.out w5 HB35.out).1.putOther hne).putOther hne).putOther hne).putOther hne
        have hf6 : ∀ i, w6.frozen? ⟨w.heap.size, i, none⟩ = false := fun i => by rw [hw6]; simp only [World.frozen?_setCell]; exact (HOK.out w5 HB35.out).2 i
        have hB6 : Below w.heap.size w w6 := by
          rw [hw6]
          exact ((((HB3.out.trans (HB35.out.mono HB3.out.size)).setCell (p := ⟨gp, 0, none⟩) (Nat.le_of_lt hgo) _).setCell (p := ⟨gp, 1, none⟩) (Nat.le_of_lt hgo) _).setCell (p := ⟨gp, 2, none⟩) (Nat.le_of_lt hgo) _).setCell (p := ⟨gp, 3, none⟩) (Nat.le_of_lt hgo) _
        have hs6 : gp < w6.heap.size := by rw [hw6]; have := Nat.lt_of_lt_of_le hgp3 HB35.out.size; simpa using this
        have hso6 : w.heap.size < w6.heap.size := Nat.lt_trans hgo hs6
        have HPK6 := Frame.hid (fun W (hW : Below w6.heap.size w6 W) => And.intro (hP6.keep hW hs6) (And.intro (hO6.keep hW hso6) (fun i => (hW.frozen (p := ⟨w.heap.size, i, none⟩) hso6).trans (hf6 i))))
        have HB6 := Frame.hid hB6
        clear p0 p1 p2 p3 pf hP6 hO6 hf6 hw6 hB6
        refine (isPlan_calls _ _ _ _ _).mono ?_
        rintro e w7 ⟨rfl, hB7⟩
        obtain ⟨⟨p0, p1, p2, p3⟩, ⟨o0, o1, o2, o3⟩, kf⟩ := HPK6.out w7 hB7
        have HB7 := Frame.hid (HB6.out.trans (hB7.mono HB6.out.size))
        clear hB7
        cases hpl : planB jerk r1 h1 0
        · obtain ⟨e0, e1, e2, e3⟩ := set4_read (w := w7) (v0 := .float .f32 0) (v1 := .float .f32 0) (v2 := .float .f32 0) (v3 := .float .f32 0) o0 o1 o2 o3
          have HPL := Frame.hid hpl
          clear hpl
          go_wp2_with fail
          refine bodyPost_ret (v := .tuple #[.agg #[.float .f32 0, .float .f32 0, .float .f32 0, .float .f32 0], .bool false]) (by simp [results, Try.results51, go_sem, e0, e1, e2, e3]) rfl ⟨_, _, _, _, _, rfl, .inl ⟨HP.out, _, _, _, _, _, HRAW.out, HFIT.out, HPL.out.symm, (fun h => by cases h), fun _ => ⟨rfl, rfl, rfl, rfl⟩⟩, ?_⟩
          exact (((HB7.out.setCell (p := ⟨w.heap.size, 0, none⟩) (Nat.le_refl _) _).setCell (p := ⟨w.heap.size, 1, none⟩) (Nat.le_refl _) _).setCell (p := ⟨w.heap.size, 2, none⟩) (Nat.le_refl _) _).setCell (p := ⟨w.heap.size, 3, none⟩) (Nat.le_refl _) _
        · obtain ⟨e0, e1, e2, e3⟩ := set4_read (w := w7) (v0 := .float .f32 jerk) (v1 := .float .f32 r1) (v2 := .float .f32 h1) (v3 := .float .f32 0) o0 o1 o2 o3
          have HPL := Frame.hid hpl
          clear hpl
          go_wp2_with fail
          refine bodyPost_ret (v := .tuple #[.agg #[.float .f32 jerk, .float .f32 r1, .float .f32 h1, .float .f32 0], .bool true]) (by simp [results, Try.results51, go_sem, e0, e1, e2, e3]) rfl ⟨_, _, _, _, _, rfl, .inl ⟨HP.out, _, _, _, _, _, HRAW.out, HFIT.out, HPL.out.symm, (fun _ => ⟨rfl, rfl, rfl, rfl⟩), fun h => by cases h⟩, ?_⟩
          exact (((HB7.out.setCell (p := ⟨w.heap.size, 0, none⟩) (Nat.le_refl _) _).setCell (p := ⟨w.heap.size, 1, none⟩) (Nat.le_refl _) _).setCell (p := ⟨w.heap.size, 2, none⟩) (Nat.le_refl _) _).setCell (p := ⟨w.heap.size, 3, none⟩) (Nat.le_refl _) _
      · have hb' : (FloatKind.f32.format.order q1 long == some Ordering.lt || FloatKind.f32.format.order q1 long == some Ordering.eq) = true := hb
        have HBB := Frame.hid hb
        clear hb
        go_wp2_with (refine wpList_arith rfl _ _ _ _ _ rfl rfl _ _ _ rfl rfl ?_; intro r n hr hl)
        clear hb'
        refine (mostSpeed_calls _ _ _ _ _).mono ?_
        rintro e w5 ⟨pk, rfl, kpk, hB5⟩
        have hB4d := below_drewN HB4.out n
        have hB35 := hB4d.trans (hB5.mono hB4d.size)
        have HB35 := Frame.hid hB35
        have HKP := Frame.hid kpk
        have HKS := Frame.hid hr
        clear p0 p1 p2 p3 pf kpk hB5 hB4d hr
        obtain ⟨⟨p0, p1, p2, p3⟩, pf⟩ := HPK.out w5 hB35
        clear hB35
        go_wp2_with (refine wpList_arith rfl _ _ _ _ _ rfl rfl _ _ _ rfl rfl ?_; intro r n hr hl)
        obtain ⟨c1, hc1⟩ : ∃ c1, c1 = r := ⟨_, rfl⟩
        have HFIT := Frame.hid (show FitR long jerk q 0 q 0 c1 from ⟨_, HKQ.out, .inl ⟨HBB.out, rfl, rfl, _, _, HKS.out, HKP.out, by rw [hc1]; exact hr⟩⟩)
        rw [← hc1]
        obtain ⟨w6, hw6⟩ : ∃ w6, w6 = (w5.setCell ⟨gp, 3, none⟩ (.float .f32 c1)).drewN n := ⟨_, rfl⟩
        rw [← hw6]
        clear hc1 hr
        have hP6 : At4 w6 gp jerk q 0 c1 := by
          rw [hw6]
          refine (At4.drewN ⟨?_, ?_, ?_, ?_⟩ _)
          · rw [World.cell?_setCell_other _ _ _ _ (by simp)]; exact p0
          · rw [World.cell?_setCell_other _ _ _ _ (by simp)]; exact p1
          · rw [World.cell?_setCell_other _ _ _ _ (by simp)]; exact p2
          · exact World.cell?_setCell_same' _ _ _ (by rw [p3]; rfl)
        have hO6 : At4 w6 w.heap.size 0 0 0 0 := by rw [hw6]; exact ((HOK.out w5 HB35.out).1.putOther hne).drewN _
        have hf6 : ∀ i, w6.frozen? ⟨w.heap.size, i, none⟩ = false := fun i => by rw [hw6]; show (World.setCell _ _ _).frozen? _ = false; rw [World.frozen?_setCell]; exact (HOK.out w5 HB35.out).2 i
        have hB6 : Below w.heap.size w w6 := by
          rw [hw6]
          exact below_drewN ((HB3.out.trans (HB35.out.mono HB3.out.size)).setCell (p := ⟨gp, 3, none⟩) (Nat.le_of_lt hgo) _) _
        have hs6 : gp < w6.heap.size := by rw [hw6]; have := Nat.lt_of_lt_of_le hgp3 HB35.out.size; simpa using this
        have hso6 : w.heap.size < w6.heap.size := Nat.lt_trans hgo hs6
        have HPK6 := Frame.hid (fun W (hW : Below w6.heap.size w6 W) => And.intro (hP6.keep hW hs6) (And.intro (hO6.keep hW hso6) (fun i => (hW.frozen (p := ⟨w.heap.size, i, none⟩) hso6).trans (hf6 i))))
        have HB6 := Frame.hid hB6
        clear p0 p1 p2 p3 pf hP6 hO6 hf6 hw6 hB6
        refine (isPlan_calls _ _ _ _ _).mono ?_
        rintro e w7 ⟨rfl, hB7⟩
        obtain ⟨⟨p0, p1, p2, p3⟩, ⟨o0, o1, o2, o3⟩, kf⟩ := HPK6.out w7 hB7
        have HB7 := Frame.hid (HB6.out.trans (hB7.mono HB6.out.size))
        clear hB7
        cases hpl : planB jerk q 0 c1
        · obtain ⟨e0, e1, e2, e3⟩ := set4_read (w := w7) (v0 := .float .f32 0) (v1 := .float .f32 0) (v2 := .float .f32 0) (v3 := .float .f32 0) o0 o1 o2 o3
          have HPL := Frame.hid hpl
          clear hpl
          go_wp2_with fail
          refine bodyPost_ret (v := .tuple #[.agg #[.float .f32 0, .float .f32 0, .float .f32 0, .float .f32 0], .bool false]) (by simp [results, Try.results51, go_sem, e0, e1, e2, e3]) rfl ⟨_, _, _, _, _, rfl, .inl ⟨HP.out, _, _, _, _, _, HRAW.out, HFIT.out, HPL.out.symm, (fun h => by cases h), fun _ => ⟨rfl, rfl, rfl, rfl⟩⟩, ?_⟩
          exact (((HB7.out.setCell (p := ⟨w.heap.size, 0, none⟩) (Nat.le_refl _) _).setCell (p := ⟨w.heap.size, 1, none⟩) (Nat.le_refl _) _).setCell (p := ⟨w.heap.size, 2, none⟩) (Nat.le_refl _) _).setCell (p := ⟨w.heap.size, 3, none⟩) (Nat.le_refl _) _
        · obtain ⟨e0, e1, e2, e3⟩ := set4_read (w := w7) (v0 := .float .f32 jerk) (v1 := .float .f32 q) (v2 := .float .f32 0) (v3 := .float .f32 c1) o0 o1 o2 o3
          have HPL := Frame.hid hpl
          clear hpl
          go_wp2_with fail
          refine bodyPost_ret (v := .tuple #[.agg #[.float .f32 jerk, .float .f32 q, .float .f32 0, .float .f32 c1], .bool true]) (by simp [results, Try.results51, go_sem, e0, e1, e2, e3]) rfl ⟨_, _, _, _, _, rfl, .inl ⟨HP.out, _, _, _, _, _, HRAW.out, HFIT.out, HPL.out.symm, (fun _ => ⟨rfl, rfl, rfl, rfl⟩), fun h => by cases h⟩, ?_⟩
          exact (((HB7.out.setCell (p := ⟨w.heap.size, 0, none⟩) (Nat.le_refl _) _).setCell (p := ⟨w.heap.size, 1, none⟩) (Nat.le_refl _) _).setCell (p := ⟨w.heap.size, 2, none⟩) (Nat.le_refl _) _).setCell (p := ⟨w.heap.size, 3, none⟩) (Nat.le_refl _) _
    · rename_i xp m1 kp lp xa m2 ka la hcond xr m3 kr lr xd m4 kd ld K1 a1 K2 a2 K3 a3
      obtain ⟨xh, hxh⟩ : ∃ xh, xh = r := ⟨_, rfl⟩
      subst hxh
      have HRAW := Frame.hid (show RawR most rise jerk xr xh from ⟨xp, xa, kp, ka, .inr ⟨by simpa [grW] using hcond, kr, xd, kd, hr⟩⟩)
      obtain ⟨w3, hw3⟩ : ∃ w3, w3 = (w1.alloc (.cells #[.float .f32 jerk, .float .f32 xr, .float .f32 xh, .float .f32 0] 72)).drewN (n1 + m1 + m2 + m3 + m4 + n) := ⟨_, rfl⟩
      obtain ⟨gp, hgp⟩ : ∃ gp, gp = w1.heap.size := ⟨_, rfl⟩
      rw [← hw3, ← hgp]
      have hPf : At4 w3 gp jerk xr xh 0 := by rw [hw3, hgp]; exact ⟨by simp [go_sem], by simp [go_sem], by simp [go_sem], by simp [go_sem]⟩
      have hfp : ∀ i, w3.frozen? ⟨gp, i, none⟩ = false := fun i => by rw [hw3, hgp]; simp [go_sem]
      have h13 : Below w1.heap.size w1 w3 := by rw [hw3]; exact below_drewN ((Below.refl _ _).alloc (Nat.le_refl _) _) _
      have hO3 : At4 w3 w.heap.size 0 0 0 0 := HST.out.1.keep h13 HST.out.2.2.2
      have hfo : ∀ i, w3.frozen? ⟨w.heap.size, i, none⟩ = false := fun i => (h13.frozen (p := ⟨w.heap.size, i, none⟩) HST.out.2.2.2).trans (HST.out.2.1 i)
      have hB3 : Below w.heap.size w w3 := HST.out.2.2.1.trans (h13.mono (Nat.le_of_lt HST.out.2.2.2))
      have hgp3 : gp < w3.heap.size := by rw [hw3, hgp]; simp
      have hgo : w.heap.size < gp := by rw [hgp]; exact HST.out.2.2.2
      have hgo3 : w.heap.size < w3.heap.size := Nat.lt_trans hgo hgp3
      have HPK := Frame.hid (fun W (hW : Below w3.heap.size w3 W) => And.intro (hPf.keep hW hgp3) (fun i => (hW.frozen (p := ⟨gp, i, none⟩) hgp3).trans (hfp i)))
      have HOK := Frame.hid (fun W (hW : Below w3.heap.size w3 W) => And.intro (hO3.keep hW hgo3) (fun i => (hW.frozen (p := ⟨w.heap.size, i, none⟩) hgo3).trans (hfo i)))
      have HB3 := Frame.hid hB3
      have hne : gp ≠ w.heap.size := Nat.ne_of_gt hgo
      clear hPf hfp h13 hO3 hfo hB3 hw3 hgp
      refine (leastWay_calls _ _ _ _ _).mono ?_
      rintro e w4 ⟨q1, rfl, kq, hB4⟩
      have HB4 := Frame.hid hB4
      have HKQ := Frame.hid kq
      obtain ⟨⟨p0, p1, p2, p3⟩, pf⟩ := HPK.out w4 hB4
      clear hB4 kq
      cases hb : leqW q1 long
      · have hb' : (FloatKind.f32.format.order q1 long == some Ordering.lt || FloatKind.f32.format.order q1 long == some Ordering.eq) = false := hb
        have HBB := Frame.hid hb
        clear hb
        go_wp2_with fail
        clear hb'
        refine (fitting_calls _ _ _ _ _ _).mono ?_
        rintro e w5 ⟨lo, hi, r1, h1, rfl, kS, k1, k2, hB5⟩
        have HFIT := Frame.hid (show FitR long jerk xr xh r1 h1 0 from ⟨_, HKQ.out, .inr ⟨HBB.out, rfl, _, _, kS, k1, k2⟩⟩)
        have hB35 := HB4.out.trans (hB5.mono HB4.out.size)
        have HB35 := Frame.hid hB35
        clear p0 p1 p2 p3 pf kS k1 k2 hB5
        obtain ⟨⟨p0, p1, p2, p3⟩, pf⟩ := HPK.out w5 hB35
        clear hB35
        go_wp2_with fail
        obtain ⟨w6, hw6⟩ : ∃ w6, w6 = (((w5.setCell ⟨gp, 0, none⟩ (.float .f32 jerk)).setCell ⟨gp, 1, none⟩ (.float .f32 r1)).setCell ⟨gp, 2, none⟩ (.float .f32 h1)).setCell ⟨gp, 3, none⟩ (.float .f32 0) := ⟨_, rfl⟩
        rw [← hw6]
        have hP6 : At4 w6 gp jerk r1 h1 0 := by
          obtain ⟨e0, e1, e2, e3⟩ := set4_read (w := w5) (v0 := .float .f32 jerk) (v1 := .float .f32 r1) (v2 := .float .f32 h1) (v3 := .float .f32 0) p0 p1 p2 p3
          rw [hw6]
          exact ⟨e0, e1, e2, e3⟩
        have hO6 : At4 w6 w.heap.size 0 0 0 0 := by rw [hw6]; exact ((((HOK.out w5 HB35.out).1.putOther hne).putOther hne).putOther hne).putOther hne
        have hf6 : ∀ i, w6.frozen? ⟨w.heap.size, i, none⟩ = false := fun i => by rw [hw6]; simp only [World.frozen?_setCell]; exact (HOK.out w5 HB35.out).2 i
        have hB6 : Below w.heap.size w w6 := by
          rw [hw6]
          exact ((((HB3.out.trans (HB35.out.mono HB3.out.size)).setCell (p := ⟨gp, 0, none⟩) (Nat.le_of_lt hgo) _).setCell (p := ⟨gp, 1, none⟩) (Nat.le_of_lt hgo) _).setCell (p := ⟨gp, 2, none⟩) (Nat.le_of_lt hgo) _).setCell (p := ⟨gp, 3, none⟩) (Nat.le_of_lt hgo) _
        have hs6 : gp < w6.heap.size := by rw [hw6]; have := Nat.lt_of_lt_of_le hgp3 HB35.out.size; simpa using this
        have hso6 : w.heap.size < w6.heap.size := Nat.lt_trans hgo hs6
        have HPK6 := Frame.hid (fun W (hW : Below w6.heap.size w6 W) => And.intro (hP6.keep hW hs6) (And.intro (hO6.keep hW hso6) (fun i => (hW.frozen (p := ⟨w.heap.size, i, none⟩) hso6).trans (hf6 i))))
        have HB6 := Frame.hid hB6
        clear p0 p1 p2 p3 pf hP6 hO6 hf6 hw6 hB6
        refine (isPlan_calls _ _ _ _ _).mono ?_
        rintro e w7 ⟨rfl, hB7⟩
        obtain ⟨⟨p0, p1, p2, p3⟩, ⟨o0, o1, o2, o3⟩, kf⟩ := HPK6.out w7 hB7
        have HB7 := Frame.hid (HB6.out.trans (hB7.mono HB6.out.size))
        clear hB7
        cases hpl : planB jerk r1 h1 0
        · obtain ⟨e0, e1, e2, e3⟩ := set4_read (w := w7) (v0 := .float .f32 0) (v1 := .float .f32 0) (v2 := .float .f32 0) (v3 := .float .f32 0) o0 o1 o2 o3
          have HPL := Frame.hid hpl
          clear hpl
          go_wp2_with fail
          refine bodyPost_ret (v := .tuple #[.agg #[.float .f32 0, .float .f32 0, .float .f32 0, .float .f32 0], .bool false]) (by simp [results, Try.results51, go_sem, e0, e1, e2, e3]) rfl ⟨_, _, _, _, _, rfl, .inl ⟨HP.out, _, _, _, _, _, HRAW.out, HFIT.out, HPL.out.symm, (fun h => by cases h), fun _ => ⟨rfl, rfl, rfl, rfl⟩⟩, ?_⟩
          exact (((HB7.out.setCell (p := ⟨w.heap.size, 0, none⟩) (Nat.le_refl _) _).setCell (p := ⟨w.heap.size, 1, none⟩) (Nat.le_refl _) _).setCell (p := ⟨w.heap.size, 2, none⟩) (Nat.le_refl _) _).setCell (p := ⟨w.heap.size, 3, none⟩) (Nat.le_refl _) _
        · obtain ⟨e0, e1, e2, e3⟩ := set4_read (w := w7) (v0 := .float .f32 jerk) (v1 := .float .f32 r1) (v2 := .float .f32 h1) (v3 := .float .f32 0) o0 o1 o2 o3
          have HPL := Frame.hid hpl
          clear hpl
          go_wp2_with fail
          refine bodyPost_ret (v := .tuple #[.agg #[.float .f32 jerk, .float .f32 r1, .float .f32 h1, .float .f32 0], .bool true]) (by simp [results, Try.results51, go_sem, e0, e1, e2, e3]) rfl ⟨_, _, _, _, _, rfl, .inl ⟨HP.out, _, _, _, _, _, HRAW.out, HFIT.out, HPL.out.symm, (fun _ => ⟨rfl, rfl, rfl, rfl⟩), fun h => by cases h⟩, ?_⟩
          exact (((HB7.out.setCell (p := ⟨w.heap.size, 0, none⟩) (Nat.le_refl _) _).setCell (p := ⟨w.heap.size, 1, none⟩) (Nat.le_refl _) _).setCell (p := ⟨w.heap.size, 2, none⟩) (Nat.le_refl _) _).setCell (p := ⟨w.heap.size, 3, none⟩) (Nat.le_refl _) _
      · have hb' : (FloatKind.f32.format.order q1 long == some Ordering.lt || FloatKind.f32.format.order q1 long == some Ordering.eq) = true := hb
        have HBB := Frame.hid hb
        clear hb
        go_wp2_with (refine wpList_arith rfl _ _ _ _ _ rfl rfl _ _ _ rfl rfl ?_; intro r n hr hl)
        clear hb'
        refine (mostSpeed_calls _ _ _ _ _).mono ?_
        rintro e w5 ⟨pk, rfl, kpk, hB5⟩
        have hB4d := below_drewN HB4.out n
        have hB35 := hB4d.trans (hB5.mono hB4d.size)
        have HB35 := Frame.hid hB35
        have HKP := Frame.hid kpk
        have HKS := Frame.hid hr
        clear p0 p1 p2 p3 pf kpk hB5 hB4d hr
        obtain ⟨⟨p0, p1, p2, p3⟩, pf⟩ := HPK.out w5 hB35
        clear hB35
        go_wp2_with (refine wpList_arith rfl _ _ _ _ _ rfl rfl _ _ _ rfl rfl ?_; intro r n hr hl)
        obtain ⟨c1, hc1⟩ : ∃ c1, c1 = r := ⟨_, rfl⟩
        have HFIT := Frame.hid (show FitR long jerk xr xh xr xh c1 from ⟨_, HKQ.out, .inl ⟨HBB.out, rfl, rfl, _, _, HKS.out, HKP.out, by rw [hc1]; exact hr⟩⟩)
        rw [← hc1]
        obtain ⟨w6, hw6⟩ : ∃ w6, w6 = (w5.setCell ⟨gp, 3, none⟩ (.float .f32 c1)).drewN n := ⟨_, rfl⟩
        rw [← hw6]
        clear hc1 hr
        have hP6 : At4 w6 gp jerk xr xh c1 := by
          rw [hw6]
          refine (At4.drewN ⟨?_, ?_, ?_, ?_⟩ _)
          · rw [World.cell?_setCell_other _ _ _ _ (by simp)]; exact p0
          · rw [World.cell?_setCell_other _ _ _ _ (by simp)]; exact p1
          · rw [World.cell?_setCell_other _ _ _ _ (by simp)]; exact p2
          · exact World.cell?_setCell_same' _ _ _ (by rw [p3]; rfl)
        have hO6 : At4 w6 w.heap.size 0 0 0 0 := by rw [hw6]; exact ((HOK.out w5 HB35.out).1.putOther hne).drewN _
        have hf6 : ∀ i, w6.frozen? ⟨w.heap.size, i, none⟩ = false := fun i => by rw [hw6]; show (World.setCell _ _ _).frozen? _ = false; rw [World.frozen?_setCell]; exact (HOK.out w5 HB35.out).2 i
        have hB6 : Below w.heap.size w w6 := by
          rw [hw6]
          exact below_drewN ((HB3.out.trans (HB35.out.mono HB3.out.size)).setCell (p := ⟨gp, 3, none⟩) (Nat.le_of_lt hgo) _) _
        have hs6 : gp < w6.heap.size := by rw [hw6]; have := Nat.lt_of_lt_of_le hgp3 HB35.out.size; simpa using this
        have hso6 : w.heap.size < w6.heap.size := Nat.lt_trans hgo hs6
        have HPK6 := Frame.hid (fun W (hW : Below w6.heap.size w6 W) => And.intro (hP6.keep hW hs6) (And.intro (hO6.keep hW hso6) (fun i => (hW.frozen (p := ⟨w.heap.size, i, none⟩) hso6).trans (hf6 i))))
        have HB6 := Frame.hid hB6
        clear p0 p1 p2 p3 pf hP6 hO6 hf6 hw6 hB6
        refine (isPlan_calls _ _ _ _ _).mono ?_
        rintro e w7 ⟨rfl, hB7⟩
        obtain ⟨⟨p0, p1, p2, p3⟩, ⟨o0, o1, o2, o3⟩, kf⟩ := HPK6.out w7 hB7
        have HB7 := Frame.hid (HB6.out.trans (hB7.mono HB6.out.size))
        clear hB7
        cases hpl : planB jerk xr xh c1
        · obtain ⟨e0, e1, e2, e3⟩ := set4_read (w := w7) (v0 := .float .f32 0) (v1 := .float .f32 0) (v2 := .float .f32 0) (v3 := .float .f32 0) o0 o1 o2 o3
          have HPL := Frame.hid hpl
          clear hpl
          go_wp2_with fail
          refine bodyPost_ret (v := .tuple #[.agg #[.float .f32 0, .float .f32 0, .float .f32 0, .float .f32 0], .bool false]) (by simp [results, Try.results51, go_sem, e0, e1, e2, e3]) rfl ⟨_, _, _, _, _, rfl, .inl ⟨HP.out, _, _, _, _, _, HRAW.out, HFIT.out, HPL.out.symm, (fun h => by cases h), fun _ => ⟨rfl, rfl, rfl, rfl⟩⟩, ?_⟩
          exact (((HB7.out.setCell (p := ⟨w.heap.size, 0, none⟩) (Nat.le_refl _) _).setCell (p := ⟨w.heap.size, 1, none⟩) (Nat.le_refl _) _).setCell (p := ⟨w.heap.size, 2, none⟩) (Nat.le_refl _) _).setCell (p := ⟨w.heap.size, 3, none⟩) (Nat.le_refl _) _
        · obtain ⟨e0, e1, e2, e3⟩ := set4_read (w := w7) (v0 := .float .f32 jerk) (v1 := .float .f32 xr) (v2 := .float .f32 xh) (v3 := .float .f32 c1) o0 o1 o2 o3
          have HPL := Frame.hid hpl
          clear hpl
          go_wp2_with fail
          refine bodyPost_ret (v := .tuple #[.agg #[.float .f32 jerk, .float .f32 xr, .float .f32 xh, .float .f32 c1], .bool true]) (by simp [results, Try.results51, go_sem, e0, e1, e2, e3]) rfl ⟨_, _, _, _, _, rfl, .inl ⟨HP.out, _, _, _, _, _, HRAW.out, HFIT.out, HPL.out.symm, (fun _ => ⟨rfl, rfl, rfl, rfl⟩), fun h => by cases h⟩, ?_⟩
          exact (((HB7.out.setCell (p := ⟨w.heap.size, 0, none⟩) (Nat.le_refl _) _).setCell (p := ⟨w.heap.size, 1, none⟩) (Nat.le_refl _) _).setCell (p := ⟨w.heap.size, 2, none⟩) (Nat.le_refl _) _).setCell (p := ⟨w.heap.size, 3, none⟩) (Nat.le_refl _) _

end Go.Proofs.Ytohbanchaggnmaa
