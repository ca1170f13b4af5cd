/-
  RoughOf, walked on both sides; its law.
-/
import Derived.Test.YtbikiihcbocojabJa
import Derived.Test.YtbikiihcbocojabOp
namespace Go.Proofs.Ytbikiihcbocojab
open Go.RowKit Fl Ieee

theorem below_stepJ {w w1 w2 : World} {n : Nat} (h : Below w.heap.size w w1) (h2 : Below (w1.drewN n).heap.size (w1.drewN n) w2) : Below w.heap.size w w2 :=
  (below_drewN h n).trans (h2.mono h.size)

/-- The sum of the first k squares. -/
def RoughTo (xs : List Nat) : Nat → Nat → Prop
  | 0, r => r = 0
  | k + 1, r => ∃ s d a q p, RoughTo xs k s ∧ FOp .mul .f32 1073741824 (xs.getD (k + 1) 0) d ∧ FOp .sub .f32 (xs.getD k 0) d a ∧ FOp .add .f32 a (xs.getD (k + 1 + 1) 0) q ∧ FOp .mul .f32 q q p ∧ FOp .add .f32 s p r
theorem RoughTo.same {xs : List Nat} : ∀ {k r r' : Nat}, RoughTo xs k r → RoughTo xs k r' → FSame .f32 r r'
  | 0, _, _, h, h' => .inl (Eq.trans h (Eq.symm h'))
  | _ + 1, _, _, ⟨_, _, _, _, _, h1, h2, h3, h4, h5, h6⟩, ⟨_, _, _, _, _, g1, g2, g3, g4, g5, g6⟩ => by
    have e2 := FOp.same (FSame.refl _ _) (FSame.refl _ _) h2 g2
    have e3 := FOp.same (FSame.refl _ _) e2 h3 g3
    have e4 := FOp.same e3 (FSame.refl _ _) h4 g4
    have e5 := FOp.same e4 e4 h5 g5
    exact FOp.same (RoughTo.same h1 g1) e5 h6 g6
def RoughAt (xs : List Nat) (w : World) (n : Nat) (s i : Value) (o : Int) (wr : World) : Prop := ∃ k r : Nat, k ≤ n ∧ i = .int .i64 (k + o) ∧ s = .float .f32 r ∧ RoughTo xs k r ∧ ∃ m, wr = w.drewN m

/-- What is a quiet list. -/
def quietB (xs : List Nat) : Bool := decide (3 ≤ xs.length) && decide (xs.length ≤ 48) && finL xs
/-- What both give. -/
def RoughV (xs : List Nat) (w : World) (e : Ending) (w' : World) : Prop :=
  ∃ r t m, e = .returned (.tuple #[.float .f32 r, .bool t]) ∧ ((quietB xs = true ∧ ∃ s, RoughTo xs (xs.length - 2) s ∧ NumA s r t) ∨ (quietB xs = false ∧ t = false ∧ r = 0)) ∧ w' = w.drewN m

set_option maxRecDepth 100000 in
set_option maxHeartbeats 1000000 in
theorem isQuiet_calls (A : Option Addr) (xs : List Nat) (c : Nat) (w : World) (hn : xs.length ≤ 1048576) (hA : RdF w A xs) :
    Calls Try.prog 58 #[.slice A xs.length c] w fun e w' => e = .returned (.bool (quietB xs)) ∧ ∃ m, w' = w.drewN m := by
  have HC := Frame.hid (areFin_calls A xs c w hn hA)
  obtain ⟨n, hxn⟩ : ∃ n, n = xs.length := ⟨_, rfl⟩
  have hq : quietB xs = (decide (3 ≤ n) && decide (n ≤ 48) && finL xs) := by rw [hxn]; rfl
  rw [← hxn] at hn ⊢
  rw [hq]
  have HC' := Frame.hid (p := Calls Try.prog 54 #[.slice A n c] w fun e w' => e = .returned (.bool (finL xs)) ∧ ∃ m, w' = w.drewN m) (by rw [hxn]; exact HC.out)
  clear HC hxn hA hq
  by_cases h1 : 3 ≤ n <;> by_cases h2 : n ≤ 48
  all_goals
    go_enter Try.func58, Try.ntmps58
    go_wp2_with (go_at_call 54; refine HC'.out.mono ?_; rintro e w' ⟨rfl, m, rfl⟩)
    all_goals go_ret
    all_goals first | exact ⟨ret_bool rfl, 0, rfl⟩ | exact ⟨ret_bool (by simp [h1, h2]), _, rfl⟩ | exact ⟨rfl, _, rfl⟩

set_option maxRecDepth 100000 in
set_option maxHeartbeats 1000000 in
theorem l05List_calls (A : Option Addr) (xs : List Nat) (c : Nat) (w : World) (hn : xs.length ≤ 1048576) (hA : RdF w A xs) :
    Calls Try.prog 56 #[.slice A xs.length c] w fun e w' => e = .returned (.bool (quietB xs)) ∧ ∃ m, w' = w.drewN m := by
  have HC := Frame.hid (l02Fin_calls A xs c w hn hA)
  obtain ⟨n, hxn⟩ : ∃ n, n = xs.length := ⟨_, rfl⟩
  have hq : quietB xs = (decide (3 ≤ n) && decide (n ≤ 48) && finL xs) := by rw [hxn]; rfl
  rw [← hxn] at hn ⊢
  rw [hq]
  have HC' := Frame.hid (p := Calls Try.prog 61 #[.slice A n c] w fun e w' => e = .returned (.bool (finL xs)) ∧ ∃ m, w' = w.drewN m) (by rw [hxn]; exact HC.out)
  clear HC hxn hA hq
  by_cases h1 : 3 ≤ n <;> by_cases h2 : n ≤ 48
  all_goals
    go_enter Try.func56, Try.ntmps56
    go_wp2_with (go_at_call 61; refine HC'.out.mono ?_; rintro e w' ⟨rfl, m, rfl⟩)
    all_goals go_ret
    all_goals first | exact ⟨ret_bool rfl, 0, rfl⟩ | exact ⟨ret_bool (by simp [h1, h2]), _, rfl⟩ | exact ⟨rfl, _, rfl⟩

set_option maxRecDepth 100000 in
set_option maxHeartbeats 1000000 in
theorem roughOf_calls (A : Option Addr) (xs : List Nat) (w : World) (hn : xs.length ≤ 1048576) (hA : RdF w A xs) :
    Calls Try.prog 20 #[.slice A xs.length xs.length] w (RoughV xs w) := by
  have HC := Frame.hid (isQuiet_calls A xs xs.length w hn hA)
  unfold RoughV
  cases hq : quietB xs
  · have HQ := Frame.hid hq
    clear hq
    go_enter Try.func20, Try.ntmps20
    go_wp2_with (go_at_call 58; refine HC.out.mono ?_; rintro e w' ⟨rfl, m, rfl⟩; rw [HQ.out])
    go_ret2
    exact ⟨_, _, _, rfl, .inr ⟨trivial, rfl, rfl⟩, rfl⟩
  · have HQ := Frame.hid hq
    obtain ⟨h3, h48⟩ : 3 ≤ xs.length ∧ xs.length ≤ 48 := by unfold quietB at hq; simp at hq; omega
    obtain ⟨b, off, rfl, hb, hc⟩ := hA (by omega)
    have HCC := Frame.hid hc
    obtain ⟨n, hxn⟩ : ∃ n, n + 2 = xs.length := ⟨xs.length - 2, by omega⟩
    obtain ⟨N, hN⟩ : ∃ N, N = xs.length := ⟨_, rfl⟩
    have hm2 : N - 2 = n := by omega
    rw [← hN, hm2]
    have HX := Frame.hid hxn
    have HN := Frame.hid hN
    rw [← hN] at h3 h48 hn HC
    clear hq hc hxn hN
    go_enter Try.func20, Try.ntmps20
    go_wp2_with (go_at_call 58; refine HC.out.mono ?_; rintro e w' ⟨rfl, m, rfl⟩; rw [HQ.out])
    go_loopw [4, 14] (fun s i wr => RoughAt xs w n s i 0 wr) (fun _ i _ => n - (intOf i).toNat)
    case atStart => exact ⟨0, 0, Nat.zero_le _, by simp, rfl, rfl, m, rfl⟩
    case round =>
      obtain ⟨k, s, hk, rfl, rfl, hs, m, rfl⟩ := hrel
      rw [Int.add_zero]
      by_cases hlt : k < n
      · have d0 := HCC.out k (by have := HX.out; omega)
        have d1 := HCC.out (k + 1) (by have := HX.out; omega)
        have d2 := HCC.out (k + 1 + 1) (by have := HX.out; omega)
        rw [show off + (k + 1 + 1) = off + 2 + k by omega] at d2
        have HST : Hid (∀ d a q p r, FOp .mul .f32 1073741824 (xs.getD (k + 1) 0) d → FOp .sub .f32 (xs.getD k 0) d a → FOp .add .f32 a (xs.getD (k + 1 + 1) 0) q → FOp .mul .f32 q q p → FOp .add .f32 s p r → RoughTo xs (k + 1) r) := Frame.hid (fun d a q p r h1 h2 h3 h4 h5 => ⟨s, d, a, q, p, hs, h1, h2, h3, h4, h5⟩)
        generalize xs.getD k 0 = x0 at d0 HST
        generalize xs.getD (k + 1) 0 = x1 at d1 HST
        generalize xs.getD (k + 1 + 1) 0 = x2 at d2 HST
        have p0 : (0 : Int) ≤ (k : Int) := by omega
        have p1 : (k : Int) < (N : Int) := by omega
        have q0 : ¬ ((k : Int) + 1 < 0) := by omega
        have q1 : (0 : Int) ≤ (k : Int) + 1 := by omega
        have q2 : ((k : Int) + 1).toNat = k + 1 := by omega
        have q3 : IntKind.i64.wrap ((k : Int) + 1) = (k : Int) + 1 := by rw [IntKind.wrap_i64]; omega
        have q4 : (k : Int) + 1 < (N : Int) := by omega
        clear hs HC HCC hA
        go_wp2_with (refine wpList_arith rfl _ _ _ _ _ rfl rfl _ _ _ rfl rfl ?_; intro r n hr hl)
        go_region_with (first | (refine upon_arith _ _ _ _ _ rfl ?_; intro r n hr hl))
        all_goals
          go_wp2_with (refine wpList_arith rfl _ _ _ _ _ rfl rfl _ _ _ rfl rfl ?_; intro r n hr hl)
          rename_i d_ n1_ hd ld a_ n2_ ha la q_ n3_ hq lq p_ n4_ hp lp
          go_roundw
          case rel => exact ⟨k + 1, _, by omega, by rw [Int.add_zero]; go_num, rfl, HST.out _ _ _ _ _ hd ha hq hp hr, _, rfl⟩
          case measure => simp [intOf]; omega
      · have hkn : k = n := by omega
        subst hkn
        have HS := Frame.hid hs
        clear hs HC HCC hA
        go_wp2_with (go_at_call 59; refine (numA_calls _ _).mono ?_; rintro e w' ⟨r, ok, rfl, hn, n, rfl⟩)
        go_ret2
        exact ⟨_, _, _, rfl, .inl ⟨trivial, _, HS.out, hn⟩, rfl⟩

set_option maxRecDepth 100000 in
set_option maxHeartbeats 1000000 in
theorem specRoughOf_calls (A : Option Addr) (xs : List Nat) (w : World) (hn : xs.length ≤ 1048576) (hA : RdF w A xs) :
    Calls Try.prog 19 #[.slice A xs.length xs.length] w (RoughV xs w) := by
  have HC := Frame.hid (l05List_calls A xs xs.length w hn hA)
  unfold RoughV
  cases hq : quietB xs
  · have HQ := Frame.hid hq
    clear hq
    go_enter Try.func19, Try.ntmps19
    go_wp2_with (go_at_call 56; refine HC.out.mono ?_; rintro e w' ⟨rfl, m, rfl⟩; rw [HQ.out])
    go_ret2
    exact ⟨_, _, _, rfl, .inr ⟨trivial, rfl, rfl⟩, rfl⟩
  · have HQ := Frame.hid hq
    obtain ⟨h3, h48⟩ : 3 ≤ xs.length ∧ xs.length ≤ 48 := by unfold quietB at hq; simp at hq; omega
    obtain ⟨b, off, rfl, hb, hc⟩ := hA (by omega)
    have HCC := Frame.hid hc
    obtain ⟨n, hxn⟩ : ∃ n, n + 2 = xs.length := ⟨xs.length - 2, by omega⟩
    obtain ⟨N, hN⟩ : ∃ N, N = xs.length := ⟨_, rfl⟩
    have hm2 : N - 2 = n := by omega
    rw [← hN, hm2]
    have HX := Frame.hid hxn
    have HN := Frame.hid hN
    rw [← hN] at h3 h48 hn HC
    clear hq hc hxn hN
    go_enter Try.func19, Try.ntmps19
    go_wp2_with (go_at_call 56; refine HC.out.mono ?_; rintro e w' ⟨rfl, m, rfl⟩; rw [HQ.out])
    go_loopw [4, 5] (fun s i wr => RoughAt xs w n s i 1 wr) (fun _ i _ => n + 1 - (intOf i).toNat)
    case atStart => exact ⟨0, 0, Nat.zero_le _, rfl, rfl, rfl, m, rfl⟩
    case round =>
      obtain ⟨k, s, hk, rfl, rfl, hs, m, rfl⟩ := hrel
      by_cases hlt : k < n
      · have d0 := HCC.out k (by have := HX.out; omega)
        have d1 := HCC.out (k + 1) (by have := HX.out; omega)
        have d2 := HCC.out (k + 1 + 1) (by have := HX.out; omega)
        have HST : Hid (∀ d a q p r, FOp .mul .f32 1073741824 (xs.getD (k + 1) 0) d → FOp .sub .f32 (xs.getD k 0) d a → FOp .add .f32 a (xs.getD (k + 1 + 1) 0) q → FOp .mul .f32 q q p → FOp .add .f32 s p r → RoughTo xs (k + 1) r) := Frame.hid (fun d a q p r h1 h2 h3 h4 h5 => ⟨s, d, a, q, p, hs, h1, h2, h3, h4, h5⟩)
        generalize xs.getD k 0 = x0 at d0 HST
        generalize xs.getD (k + 1) 0 = x1 at d1 HST
        generalize xs.getD (k + 1 + 1) 0 = x2 at d2 HST
        have p0 : (0 : Int) ≤ (k : Int) := by omega
        have p1 : (k : Int) < (N : Int) := by omega
        have q0 : ¬ ((k : Int) + 1 < 0) := by omega
        have q1 : (0 : Int) ≤ (k : Int) + 1 := by omega
        have q2 : ((k : Int) + 1).toNat = k + 1 := by omega
        have q3 : IntKind.i64.wrap ((k : Int) + 1 + 1) = (k : Int) + 1 + 1 := by rw [IntKind.wrap_i64]; omega
        have q4 : (k : Int) + 1 < (N : Int) := by omega
        have r0 : ¬ ((k : Int) + 1 + 1 < 0) := by omega
        have r1 : (0 : Int) ≤ (k : Int) + 1 + 1 := by omega
        have r2 : ((k : Int) + 1 + 1).toNat = k + 1 + 1 := by omega
        have r4 : (k : Int) + 1 + 1 < (N : Int) := by omega
        have t3 : IntKind.i64.wrap ((k : Int)) = (k : Int) := by rw [IntKind.wrap_i64]; omega
        clear hs HC HCC hA
        go_wp2_with (refine wpList_arith rfl _ _ _ _ _ rfl rfl _ _ _ rfl rfl ?_; intro r n hr hl)
        go_region_with (first | (refine upon_arith _ _ _ _ _ rfl ?_; intro r n hr hl))
        all_goals
          go_wp2_with (refine wpList_arith rfl _ _ _ _ _ rfl rfl _ _ _ rfl rfl ?_; intro r n hr hl)
          rename_i d_ n1_ hd ld a_ n2_ ha la q_ n3_ hq lq p_ n4_ hp lp
          go_roundw
          case rel => exact ⟨k + 1, _, by omega, by go_num, rfl, HST.out _ _ _ _ _ hd ha hq hp hr, _, rfl⟩
          case measure => simp [intOf]; omega
      · have hkn : k = n := by omega
        subst hkn
        have HS := Frame.hid hs
        clear hs HC HCC hA
        go_wp2_with (go_at_call 57; refine (l02NumA_calls _ _).mono ?_; rintro e w' ⟨r, ok, rfl, hn, n, rfl⟩)
        go_ret2
        exact ⟨_, _, _, rfl, .inl ⟨trivial, _, HS.out, hn⟩, rfl⟩

theorem RoughV_same {xs : List Nat} {r r' : Nat} {t t' : Bool} (h : (quietB xs = true ∧ ∃ s, RoughTo xs (xs.length - 2) s ∧ NumA s r t) ∨ (quietB xs = false ∧ t = false ∧ r = 0))
    (h' : (quietB xs = true ∧ ∃ s, RoughTo xs (xs.length - 2) s ∧ NumA s r' t') ∨ (quietB xs = false ∧ t' = false ∧ r' = 0)) : t' = t ∧ FSame .f32 r' r := by
  rcases h with ⟨h1, s, h2, h3⟩ | ⟨h1, h2, h3⟩ <;> rcases h' with ⟨g1, s', g2, g3⟩ | ⟨g1, g2, g3⟩
  · obtain ⟨a, b⟩ := NumA.same (RoughTo.same g2 h2) g3 h3
    exact ⟨b, a⟩
  · rw [h1] at g1; cases g1
  · rw [h1] at g1; cases g1
  · exact ⟨by rw [h2, g2], .inl (by rw [h3, g3])⟩

set_option maxRecDepth 100000 in
set_option maxHeartbeats 1000000 in
theorem fnExactRoughOf_walk (A : Option Addr) (xs : List Nat) (c : Nat) (hmax : xs.length ≤ maxLen) (w : World) (hA : RdF w A xs) :
    Calls Try.prog 4 #[.slice A xs.length c] w fun e w' => e = .returned (.bool true) ∧ Below w.heap.size w w' := by
  unfold maxLen at hmax
  have HA := Frame.hid hA
  clear hA
  by_cases hbig : 1048576 < xs.length
  · go_enter Try.func4, Try.ntmps4
    go_wp2
    go_ret
    exact ⟨rfl, Below.refl _ _⟩
  · have hn : xs.length ≤ 1048576 := by omega
    clear hbig
    go_enter Try.func4, Try.ntmps4
    go_wp2_with fail
    refine (toFloat32S_calls _ xs _ _ hn HA.out).mono ?_
    rintro e w1 ⟨g1, rfl, hr1, hb1⟩
    go_wp2_with fail
    refine (specRoughOf_calls _ xs _ hn hr1).mono ?_
    rintro e w2 ⟨r1, t1, m1, rfl, hv1, rfl⟩
    go_wp2_with fail
    refine (toFloat32S_calls _ xs _ _ hn ((HA.out.below hb1).drewN m1)).mono ?_
    rintro e w2 ⟨g2, rfl, hr2, hb2⟩
    go_wp2_with fail
    refine (roughOf_calls _ xs _ hn hr2).mono ?_
    rintro e w3 ⟨r2, t2, m2, rfl, hv2, rfl⟩
    obtain ⟨ht, hs⟩ := RoughV_same hv1 hv2
    subst ht
    have HS := Frame.hid hs
    have HB := Frame.hid (below_stepJ hb1 hb2)
    clear hv1 hv2 hs hb1 hb2
    have htt : (t2 != t2) = false := by cases t2 <;> rfl
    go_wp2_with (first | (refine wpList_conv rfl _ _ _ rfl .f32 .f64 (by decide) (.inl rfl) _ rfl (by kernel_rfl) (by kernel_rfl) ?_; intro r n hr hl) | (go_at_call 21; refine (sameFloat_calls _ _ (wide_pair HS.out (by with_reducible assumption) (by with_reducible assumption)) _).mono ?_; rintro e w' ⟨rfl, n, rfl⟩))
    refine (toFloat32S_calls _ xs _ _ hn ((HA.out.below HB.out).drewN _)).mono ?_
    rintro e w4 ⟨g3, rfl, hr3, hb3⟩
    go_wp2_with fail
    refine (eqFloat32S_calls _ _ xs _ _ _ hn ((hr2.drewN _).below hb3) hr3).mono ?_
    rintro e w5 ⟨rfl, m5, rfl⟩
    have HC := Frame.hid (below_stepJ HB.out hb3)
    clear HB hb3
    go_wp2
    go_ret
    exact ⟨rfl, below_drewN HC.out _⟩

end Go.Proofs.Ytbikiihcbocojab
