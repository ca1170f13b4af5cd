/-
  The sine, walked on both sides.
-/
import Derived.Test.YtbdmmpkphiilkaaSc
import Derived.Test.YtbdmmpkphiilkaaSn
namespace Go.Proofs.Ytbdmmpkphiilkaa
open Go.RowKit Fl

theorem unary_neg_f (k : FloatKind) (b : Nat) : Op.unary .neg (.float k b) = pure (.float k (Op.negFloat k b)) := rfl
attribute [local go_sem] unary_neg_f

theorem half_cases (f : Nat) : FloatKind.f64.format.order f 4602678819172646912 = some Ordering.gt ∨ FloatKind.f64.format.order f 4602678819172646912 = some Ordering.eq ∨
    ((FloatKind.f64.format.order f 4602678819172646912 == some Ordering.gt) = false ∧ (FloatKind.f64.format.order f 4602678819172646912 == some Ordering.eq) = false) := by
  cases FloatKind.f64.format.order f 4602678819172646912 with
  | none => exact .inr (.inr ⟨rfl, rfl⟩)
  | some o => cases o
              · exact .inr (.inr ⟨rfl, rfl⟩)
              · exact .inr (.inl rfl)
              · exact .inl rfl
theorem halfB_gt {f : Nat} (h : FloatKind.f64.format.order f 4602678819172646912 = some Ordering.gt) : halfB f = true := by unfold halfB; rw [h]; rfl
theorem halfB_eq {f : Nat} (h : FloatKind.f64.format.order f 4602678819172646912 = some Ordering.eq) : halfB f = true := by unfold halfB; rw [h]; rfl
theorem halfB_no {f : Nat} (h : (FloatKind.f64.format.order f 4602678819172646912 == some Ordering.gt) = false ∧ (FloatKind.f64.format.order f 4602678819172646912 == some Ordering.eq) = false) : halfB f = false := by unfold halfB; rw [h.1, h.2]; rfl

/-- In the rounds of the sine: k goes down, p is the sum so far. -/
def PolyAt (u : Nat) (w : World) (pv kv : Value) (wr : World) : Prop := ∃ j p : Nat, j ≤ 8 ∧ kv = .int .i64 (8 - (j : Int)) ∧ pv = .float .f64 p ∧ Poly u j p ∧ p < 2 ^ FloatKind.f64.format.width ∧ ∃ m, wr = w.drewN m

theorem c_arith (j : Nat) : (2 : Int) * (8 - (j : Int)) * (2 * (8 - (j : Int)) + 1) = cOf (8 - (j : Int)) := rfl

theorem poly_step {u j p : Nat} (h : Poly u j p) : ∀ a d q, FOp .mul .f64 u p a → FOp .quo .f64 a (floatOfInt .f64 (2 * (8 - (j : Int)) * (2 * (8 - (j : Int)) + 1))) d → FOp .sub .f64 4607182418800017408 d q → Poly u (j + 1) q :=
  fun a d _ h1 h2 h3 => ⟨p, a, d, h, h1, h2, h3⟩

theorem sine_half {y f g i z u : Nat} (hh : halfB f = true) (hf : PartR y f) (h2 : Step2 f g) (h3 : Step3 g i) (hz : FOp .mul .f64 i 4618760256179416344 z) (hu : FOp .mul .f64 z z u) :
    ∀ p m, Poly u 8 p → FOp .mul .f64 z p m → SineR y (Op.negFloat .f64 m) :=
  fun p m hp hm => ⟨f, hf, g, i, z, u, p, m, h2, h3, hz, hu, hp, hm, (if_pos hh).symm⟩
theorem sine_whole {y f g i z u : Nat} (hh : halfB f = false) (hf : PartR y f) (h2 : Step2 f g) (h3 : Step3 g i) (hz : FOp .mul .f64 i 4618760256179416344 z) (hu : FOp .mul .f64 z z u) :
    ∀ p m, Poly u 8 p → FOp .mul .f64 z p m → SineR y m :=
  fun p m hp hm => ⟨f, hf, g, i, z, u, p, m, h2, h3, hz, hu, hp, hm, by rw [hh]; rfl⟩

theorem ite_no {α : Type} {b : Bool} {x y : α} (h : b = false) : (if b = true then x else y) = y := by rw [h]; rfl
theorem neg_lt {m : Nat} (h : m < 2 ^ FloatKind.f64.format.width) : Op.negFloat .f64 m < 2 ^ FloatKind.f64.format.width := by
  have e0 : Op.negFloat .f64 m = m ^^^ 2 ^ 63 := rfl
  have e1 : FloatKind.f64.format.width = 64 := rfl
  rw [e1] at h ⊢
  rw [e0]
  exact Nat.xor_lt_two_pow h ((Nat.pow_lt_pow_iff_right (by omega)).2 (by omega))

theorem ext_nan (n : Int) (w : World) : (callFunc 119 #[.int .u64 n]).run Try.prog w = .ok (.value (.float .f64 n.toNat)) w := ext_f64from n w

theorem nan_word : isNan .f64 9221120237041090561 = true := by decide +kernel

set_option maxHeartbeats 400000 in
theorem nan_calls (w : World) : Calls Try.prog 106 #[] w fun e w' => e = .returned (.float .f64 9221120237041090561) ∧ w = w' := by
  have h2 := ext_f64from
  go_enter Try.func106, Try.ntmps106
  go_wp2
  go_ret
  exact ⟨rfl, rfl⟩

/-- What SineTurns gives on a number of turns x. -/
def SineV (b r : Nat) : Prop := ∃ y, FCv .f32 .f64 b y ∧ ((fin .f32 b = false ∧ isNan .f32 r = true) ∨ (fin .f32 b = true ∧ 4841369599423283200 ≤ y % 9223372036854775808 ∧ r = 0) ∨
  (fin .f32 b = true ∧ y % 9223372036854775808 < 4841369599423283200 ∧ ∃ q, SineR y q ∧ FCv .f64 .f32 q r))

theorem SineV.same {b r r' : Nat} (h : SineV b r) (h' : SineV b r') : FSame .f32 r r' := by
  obtain ⟨y, hy, h⟩ := h
  obtain ⟨y', hy', h'⟩ := h'
  have hyy := wide_same (FSame.refl _ _) hy hy'
  rcases h with ⟨h1, h2⟩ | ⟨h1, h2, h3⟩ | ⟨h1, h2, q, h3, h4⟩
  · rcases h' with ⟨g1, g2⟩ | ⟨g1, _⟩ | ⟨g1, _⟩
    · exact .inr ⟨h2, g2⟩
    · rw [h1] at g1; cases g1
    · rw [h1] at g1; cases g1
  · have hfy : fin .f64 y = true := by rw [fin_wide hy]; exact h1
    have hnn : isNan .f64 y = false := by rw [fin_eq] at hfy; cases hh : isNan .f64 y; rfl; rw [hh] at hfy; cases hfy
    have he : y = y' := by rcases hyy with h | ⟨h, _⟩; exact h; rw [hnn] at h; cases h
    subst he
    rcases h' with ⟨g1, g2⟩ | ⟨g1, g2, g3⟩ | ⟨g1, g2, _⟩
    · rw [h1] at g1; cases g1
    · exact .inl (by rw [h3, g3])
    · omega
  · have hfy : fin .f64 y = true := by rw [fin_wide hy]; exact h1
    obtain ⟨_, _, _, hw⟩ := turns_few hfy h2
    have he : y = y' := hw.eq hyy
    subst he
    rcases h' with ⟨g1, g2⟩ | ⟨g1, g2, g3⟩ | ⟨g1, g2, q', g3, g4⟩
    · rw [h1] at g1; cases g1
    · omega
    · have e := SineR.det hw h3 g3
      subst e
      exact told_same (FSame.refl _ _) ((h3.le hw).told (by omega)) h4 g4

theorem narrow_nan {q r : Nat} (hq : isNan .f64 q = true) (h : FCv .f64 .f32 q r) : isNan .f32 r = true := by
  unfold FCv at h
  rw [conv_nan (by decide) hq] at h
  exact h hq

set_option maxHeartbeats 8000000 in
theorem l01SineWide_few (y : Nat) (hfin : fin .f64 y = true) (hfew : y % 9223372036854775808 < 4841369599423283200) (w : World) : Calls Try.prog 77 #[.float .f64 y] w (Gives .f64 (SineR y) w) := by
  obtain ⟨_, o2, o3, hy⟩ := turns_few hfin hfew
  obtain ⟨s, m, e, _, hv⟩ := int_told hy
  obtain ⟨n, hn⟩ : ∃ n, n = Ieee.signed s (m * 2 ^ e.toNat / 2 ^ (-e).toNat) 0 := ⟨_, rfl⟩
  rw [← hn] at hv
  have hci := fun W : World => run_convert_float_int (P := Try.prog) W 30 2 .f64 .i64 y n (by kernel_rfl) (by kernel_rfl) hv
  have HV := Frame.hid hv
  have HFIN := Frame.hid hfin
  clear hv hn hy hfin hfew
  go_enter Try.func77, Try.ntmps77
  go_wp2_with fail
  refine upon_arith _ _ _ _ _ rfl ?_
  intro r0 n0 hr0 hl0
  have hz := sub_self_zero hr0
  rw [HFIN.out] at hz
  have hz2 : (FloatKind.f64.format.order r0 0 != some Ordering.eq) = false := by rw [bne, hz]; rfl
  clear hr0 hl0
  go_wp2_with fail
  refine upon_arith _ _ _ _ _ rfl ?_
  intro f0 n1 hf0 hl0
  have HF0 := Frame.hid hf0
  clear hf0 hz hz2
  cases hc : (FloatKind.f64.format.order f0 0 == some Ordering.lt)
  case true =>
    go_wp2_with fail
    refine upon_arith _ _ _ _ _ rfl ?_
    intro f n2 hf1 hl1
    have HF : Hid (PartR y f) := ⟨_, f0, HV.out, HF0.out, by unfold Step1; rw [if_pos hc]; exact hf1⟩
    clear hf1 HV HF0 hci
    rcases half_cases f with ho | ho | ho
    · have HH := Frame.hid (halfB_gt ho)
      go_wp2_with (refine wpList_arith rfl _ _ _ _ _ rfl rfl _ _ _ rfl rfl ?_; intro r n hr hl)
      · rename_i g n1 hg lg hq i n2 hi li z n3 hz lz _ _
        have hs := sine_half (y := y) (f := f) (g := g) (i := i) HH.out HF.out (by unfold Step2; rw [if_pos HH.out]; exact hg) (by unfold Step3; rw [if_pos hq]; exact hi) hz hr
        have HS := Frame.hid hs
        clear hs hz hr hq hg hi
        go_loopw [7, 8] (fun pv kv wr => PolyAt r w pv kv wr) (fun _ kv _ => (intOf kv).toNat)
        case atStart => exact ⟨0, _, by omega, by simp, rfl, rfl, by decide, _, rfl⟩
        case round =>
          obtain ⟨j, p, hj, rfl, rfl, hp, hpl, m, rfl⟩ := hrel
          by_cases hlt : j < 8
          · have HP := Frame.hid (poly_step hp)
            have hk : 1 ≤ 8 - (j : Int) := by omega
            have hk2 : 8 - (j : Int) ≤ 8 := by omega
            obtain ⟨k, hkk⟩ : ∃ k : Int, k = 8 - (j : Int) := ⟨_, rfl⟩
            have HK := Frame.hid hkk
            rw [← hkk] at hk hk2 HP ⊢
            have hm1 : 0 ≤ 2 * k * (2 * k + 1) ∧ 2 * k * (2 * k + 1) ≤ 272 := by
              rcases (by omega : k = 1 ∨ k = 2 ∨ k = 3 ∨ k = 4 ∨ k = 5 ∨ k = 6 ∨ k = 7 ∨ k = 8) with h | h | h | h | h | h | h | h <;> subst h <;> omega
            obtain ⟨m0, m1⟩ := hm1
            clear hp hkk HS
            go_wp2_with (refine wpList_arith rfl _ _ _ _ _ rfl rfl _ _ _ rfl rfl ?_; intro r n hr hl)
            rename_i a n4 ha la d n5 hd ld
            go_roundw
            case rel => exact ⟨j + 1, _, by omega, by have := HK.out; simp; omega, rfl, HP.out _ _ _ ha hd hr, hl, _, rfl⟩
            case measure => have := HK.out; simp [intOf]; omega
          · have h8 : j = 8 := by omega
            subst h8
            have HP := Frame.hid hp
            clear hp
            go_wp2_with (refine wpList_arith rfl _ _ _ _ _ rfl rfl _ _ _ rfl rfl ?_; intro r n hr hl)
            go_ret
            exact ⟨_, _, rfl, HS.out _ _ HP.out hr, neg_lt hl, rfl⟩
      · rename_i g n1 hg lg hq z n3 hz lz _ _
        have hs := sine_half (y := y) (f := f) (g := g) (i := g) HH.out HF.out (by unfold Step2; rw [if_pos HH.out]; exact hg) (by unfold Step3; rw [if_neg (by rw [hq]; decide)]) hz hr
        have HS := Frame.hid hs
        clear hs hz hr hq hg 
        go_loopw [7, 8] (fun pv kv wr => PolyAt r w pv kv wr) (fun _ kv _ => (intOf kv).toNat)
        case atStart => exact ⟨0, _, by omega, by simp, rfl, rfl, by decide, _, rfl⟩
        case round =>
          obtain ⟨j, p, hj, rfl, rfl, hp, hpl, m, rfl⟩ := hrel
          by_cases hlt : j < 8
          · have HP := Frame.hid (poly_step hp)
            have hk : 1 ≤ 8 - (j : Int) := by omega
            have hk2 : 8 - (j : Int) ≤ 8 := by omega
            obtain ⟨k, hkk⟩ : ∃ k : Int, k = 8 - (j : Int) := ⟨_, rfl⟩
            have HK := Frame.hid hkk
            rw [← hkk] at hk hk2 HP ⊢
            have hm1 : 0 ≤ 2 * k * (2 * k + 1) ∧ 2 * k * (2 * k + 1) ≤ 272 := by
              rcases (by omega : k = 1 ∨ k = 2 ∨ k = 3 ∨ k = 4 ∨ k = 5 ∨ k = 6 ∨ k = 7 ∨ k = 8) with h | h | h | h | h | h | h | h <;> subst h <;> omega
            obtain ⟨m0, m1⟩ := hm1
            clear hp hkk HS
            go_wp2_with (refine wpList_arith rfl _ _ _ _ _ rfl rfl _ _ _ rfl rfl ?_; intro r n hr hl)
            rename_i a n4 ha la d n5 hd ld
            go_roundw
            case rel => exact ⟨j + 1, _, by omega, by have := HK.out; simp; omega, rfl, HP.out _ _ _ ha hd hr, hl, _, rfl⟩
            case measure => have := HK.out; simp [intOf]; omega
          · have h8 : j = 8 := by omega
            subst h8
            have HP := Frame.hid hp
            clear hp
            go_wp2_with (refine wpList_arith rfl _ _ _ _ _ rfl rfl _ _ _ rfl rfl ?_; intro r n hr hl)
            go_ret
            exact ⟨_, _, rfl, HS.out _ _ HP.out hr, neg_lt hl, rfl⟩
    · have HH := Frame.hid (halfB_eq ho)
      go_wp2_with (refine wpList_arith rfl _ _ _ _ _ rfl rfl _ _ _ rfl rfl ?_; intro r n hr hl)
      · rename_i g n1 hg lg hq i n2 hi li z n3 hz lz _ _
        have hs := sine_half (y := y) (f := f) (g := g) (i := i) HH.out HF.out (by unfold Step2; rw [if_pos HH.out]; exact hg) (by unfold Step3; rw [if_pos hq]; exact hi) hz hr
        have HS := Frame.hid hs
        clear hs hz hr hq hg hi
        go_loopw [7, 8] (fun pv kv wr => PolyAt r w pv kv wr) (fun _ kv _ => (intOf kv).toNat)
        case atStart => exact ⟨0, _, by omega, by simp, rfl, rfl, by decide, _, rfl⟩
        case round =>
          obtain ⟨j, p, hj, rfl, rfl, hp, hpl, m, rfl⟩ := hrel
          by_cases hlt : j < 8
          · have HP := Frame.hid (poly_step hp)
            have hk : 1 ≤ 8 - (j : Int) := by omega
            have hk2 : 8 - (j : Int) ≤ 8 := by omega
            obtain ⟨k, hkk⟩ : ∃ k : Int, k = 8 - (j : Int) := ⟨_, rfl⟩
            have HK := Frame.hid hkk
            rw [← hkk] at hk hk2 HP ⊢
            have hm1 : 0 ≤ 2 * k * (2 * k + 1) ∧ 2 * k * (2 * k + 1) ≤ 272 := by
              rcases (by omega : k = 1 ∨ k = 2 ∨ k = 3 ∨ k = 4 ∨ k = 5 ∨ k = 6 ∨ k = 7 ∨ k = 8) with h | h | h | h | h | h | h | h <;> subst h <;> omega
            obtain ⟨m0, m1⟩ := hm1
            clear hp hkk HS
            go_wp2_with (refine wpList_arith rfl _ _ _ _ _ rfl rfl _ _ _ rfl rfl ?_; intro r n hr hl)
            rename_i a n4 ha la d n5 hd ld
            go_roundw
            case rel => exact ⟨j + 1, _, by omega, by have := HK.out; simp; omega, rfl, HP.out _ _ _ ha hd hr, hl, _, rfl⟩
            case measure => have := HK.out; simp [intOf]; omega
          · have h8 : j = 8 := by omega
            subst h8
            have HP := Frame.hid hp
            clear hp
            go_wp2_with (refine wpList_arith rfl _ _ _ _ _ rfl rfl _ _ _ rfl rfl ?_; intro r n hr hl)
            go_ret
            exact ⟨_, _, rfl, HS.out _ _ HP.out hr, neg_lt hl, rfl⟩
      · rename_i g n1 hg lg hq z n3 hz lz _ _
        have hs := sine_half (y := y) (f := f) (g := g) (i := g) HH.out HF.out (by unfold Step2; rw [if_pos HH.out]; exact hg) (by unfold Step3; rw [if_neg (by rw [hq]; decide)]) hz hr
        have HS := Frame.hid hs
        clear hs hz hr hq hg 
        go_loopw [7, 8] (fun pv kv wr => PolyAt r w pv kv wr) (fun _ kv _ => (intOf kv).toNat)
        case atStart => exact ⟨0, _, by omega, by simp, rfl, rfl, by decide, _, rfl⟩
        case round =>
          obtain ⟨j, p, hj, rfl, rfl, hp, hpl, m, rfl⟩ := hrel
          by_cases hlt : j < 8
          · have HP := Frame.hid (poly_step hp)
            have hk : 1 ≤ 8 - (j : Int) := by omega
            have hk2 : 8 - (j : Int) ≤ 8 := by omega
            obtain ⟨k, hkk⟩ : ∃ k : Int, k = 8 - (j : Int) := ⟨_, rfl⟩
            have HK := Frame.hid hkk
            rw [← hkk] at hk hk2 HP ⊢
            have hm1 : 0 ≤ 2 * k * (2 * k + 1) ∧ 2 * k * (2 * k + 1) ≤ 272 := by
              rcases (by omega : k = 1 ∨ k = 2 ∨ k = 3 ∨ k = 4 ∨ k = 5 ∨ k = 6 ∨ k = 7 ∨ k = 8) with h | h | h | h | h | h | h | h <;> subst h <;> omega
            obtain ⟨m0, m1⟩ := hm1
            clear hp hkk HS
            go_wp2_with (refine wpList_arith rfl _ _ _ _ _ rfl rfl _ _ _ rfl rfl ?_; intro r n hr hl)
            rename_i a n4 ha la d n5 hd ld
            go_roundw
            case rel => exact ⟨j + 1, _, by omega, by have := HK.out; simp; omega, rfl, HP.out _ _ _ ha hd hr, hl, _, rfl⟩
            case measure => have := HK.out; simp [intOf]; omega
          · have h8 : j = 8 := by omega
            subst h8
            have HP := Frame.hid hp
            clear hp
            go_wp2_with (refine wpList_arith rfl _ _ _ _ _ rfl rfl _ _ _ rfl rfl ?_; intro r n hr hl)
            go_ret
            exact ⟨_, _, rfl, HS.out _ _ HP.out hr, neg_lt hl, rfl⟩
    · have HH := Frame.hid (halfB_no ho)
      obtain ⟨ho1, ho2⟩ := ho
      go_wp2_with (refine wpList_arith rfl _ _ _ _ _ rfl rfl _ _ _ rfl rfl ?_; intro r n hr hl)
      · rename_i hq i n2 hi li z n3 hz lz _ _
        have hs := sine_whole (y := y) (f := f) (g := f) (i := i) HH.out HF.out (by unfold Step2; rw [if_neg (by rw [HH.out]; decide)]) (by unfold Step3; rw [if_pos hq]; exact hi) hz hr
        have HS := Frame.hid hs
        clear hs hz hr hq hi
        go_loopw [7, 8] (fun pv kv wr => PolyAt r w pv kv wr) (fun _ kv _ => (intOf kv).toNat)
        case atStart => exact ⟨0, _, by omega, by simp, rfl, rfl, by decide, _, rfl⟩
        case round =>
          obtain ⟨j, p, hj, rfl, rfl, hp, hpl, m, rfl⟩ := hrel
          by_cases hlt : j < 8
          · have HP := Frame.hid (poly_step hp)
            have hk : 1 ≤ 8 - (j : Int) := by omega
            have hk2 : 8 - (j : Int) ≤ 8 := by omega
            obtain ⟨k, hkk⟩ : ∃ k : Int, k = 8 - (j : Int) := ⟨_, rfl⟩
            have HK := Frame.hid hkk
            rw [← hkk] at hk hk2 HP ⊢
            have hm1 : 0 ≤ 2 * k * (2 * k + 1) ∧ 2 * k * (2 * k + 1) ≤ 272 := by
              rcases (by omega : k = 1 ∨ k = 2 ∨ k = 3 ∨ k = 4 ∨ k = 5 ∨ k = 6 ∨ k = 7 ∨ k = 8) with h | h | h | h | h | h | h | h <;> subst h <;> omega
            obtain ⟨m0, m1⟩ := hm1
            clear hp hkk HS
            go_wp2_with (refine wpList_arith rfl _ _ _ _ _ rfl rfl _ _ _ rfl rfl ?_; intro r n hr hl)
            rename_i a n4 ha la d n5 hd ld
            go_roundw
            case rel => exact ⟨j + 1, _, by omega, by have := HK.out; simp; omega, rfl, HP.out _ _ _ ha hd hr, hl, _, rfl⟩
            case measure => have := HK.out; simp [intOf]; omega
          · have h8 : j = 8 := by omega
            subst h8
            have HP := Frame.hid hp
            clear hp
            go_wp2_with (refine wpList_arith rfl _ _ _ _ _ rfl rfl _ _ _ rfl rfl ?_; intro r n hr hl)
            go_ret
            exact ⟨_, _, rfl, HS.out _ _ HP.out hr, hl, rfl⟩
      · rename_i hq z n3 hz lz _ _
        have hs := sine_whole (y := y) (f := f) (g := f) (i := f) HH.out HF.out (by unfold Step2; rw [if_neg (by rw [HH.out]; decide)]) (by unfold Step3; rw [if_neg (by rw [hq]; decide)]) hz hr
        have HS := Frame.hid hs
        clear hs hz hr hq 
        go_loopw [7, 8] (fun pv kv wr => PolyAt r w pv kv wr) (fun _ kv _ => (intOf kv).toNat)
        case atStart => exact ⟨0, _, by omega, by simp, rfl, rfl, by decide, _, rfl⟩
        case round =>
          obtain ⟨j, p, hj, rfl, rfl, hp, hpl, m, rfl⟩ := hrel
          by_cases hlt : j < 8
          · have HP := Frame.hid (poly_step hp)
            have hk : 1 ≤ 8 - (j : Int) := by omega
            have hk2 : 8 - (j : Int) ≤ 8 := by omega
            obtain ⟨k, hkk⟩ : ∃ k : Int, k = 8 - (j : Int) := ⟨_, rfl⟩
            have HK := Frame.hid hkk
            rw [← hkk] at hk hk2 HP ⊢
            have hm1 : 0 ≤ 2 * k * (2 * k + 1) ∧ 2 * k * (2 * k + 1) ≤ 272 := by
              rcases (by omega : k = 1 ∨ k = 2 ∨ k = 3 ∨ k = 4 ∨ k = 5 ∨ k = 6 ∨ k = 7 ∨ k = 8) with h | h | h | h | h | h | h | h <;> subst h <;> omega
            obtain ⟨m0, m1⟩ := hm1
            clear hp hkk HS
            go_wp2_with (refine wpList_arith rfl _ _ _ _ _ rfl rfl _ _ _ rfl rfl ?_; intro r n hr hl)
            rename_i a n4 ha la d n5 hd ld
            go_roundw
            case rel => exact ⟨j + 1, _, by omega, by have := HK.out; simp; omega, rfl, HP.out _ _ _ ha hd hr, hl, _, rfl⟩
            case measure => have := HK.out; simp [intOf]; omega
          · have h8 : j = 8 := by omega
            subst h8
            have HP := Frame.hid hp
            clear hp
            go_wp2_with (refine wpList_arith rfl _ _ _ _ _ rfl rfl _ _ _ rfl rfl ?_; intro r n hr hl)
            go_ret
            exact ⟨_, _, rfl, HS.out _ _ HP.out hr, hl, rfl⟩
  case false =>
    have HF : Hid (PartR y f0) := ⟨_, f0, HV.out, HF0.out, by unfold Step1; rw [if_neg (by rw [hc]; decide)]⟩
    clear HV HF0 hci
    obtain ⟨f, hff⟩ : ∃ f, f = f0 := ⟨_, rfl⟩
    subst hff
    rcases half_cases f with ho | ho | ho
    · have HH := Frame.hid (halfB_gt ho)
      go_wp2_with (refine wpList_arith rfl _ _ _ _ _ rfl rfl _ _ _ rfl rfl ?_; intro r n hr hl)
      · rename_i g n1 hg lg hq i n2 hi li z n3 hz lz _ _
        have hs := sine_half (y := y) (f := f) (g := g) (i := i) HH.out HF.out (by unfold Step2; rw [if_pos HH.out]; exact hg) (by unfold Step3; rw [if_pos hq]; exact hi) hz hr
        have HS := Frame.hid hs
        clear hs hz hr hq hg hi
        go_loopw [7, 8] (fun pv kv wr => PolyAt r w pv kv wr) (fun _ kv _ => (intOf kv).toNat)
        case atStart => exact ⟨0, _, by omega, by simp, rfl, rfl, by decide, _, rfl⟩
        case round =>
          obtain ⟨j, p, hj, rfl, rfl, hp, hpl, m, rfl⟩ := hrel
          by_cases hlt : j < 8
          · have HP := Frame.hid (poly_step hp)
            have hk : 1 ≤ 8 - (j : Int) := by omega
            have hk2 : 8 - (j : Int) ≤ 8 := by omega
            obtain ⟨k, hkk⟩ : ∃ k : Int, k = 8 - (j : Int) := ⟨_, rfl⟩
            have HK := Frame.hid hkk
            rw [← hkk] at hk hk2 HP ⊢
            have hm1 : 0 ≤ 2 * k * (2 * k + 1) ∧ 2 * k * (2 * k + 1) ≤ 272 := by
              rcases (by omega : k = 1 ∨ k = 2 ∨ k = 3 ∨ k = 4 ∨ k = 5 ∨ k = 6 ∨ k = 7 ∨ k = 8) with h | h | h | h | h | h | h | h <;> subst h <;> omega
            obtain ⟨m0, m1⟩ := hm1
            clear hp hkk HS
            go_wp2_with (refine wpList_arith rfl _ _ _ _ _ rfl rfl _ _ _ rfl rfl ?_; intro r n hr hl)
            rename_i a n4 ha la d n5 hd ld
            go_roundw
            case rel => exact ⟨j + 1, _, by omega, by have := HK.out; simp; omega, rfl, HP.out _ _ _ ha hd hr, hl, _, rfl⟩
            case measure => have := HK.out; simp [intOf]; omega
          · have h8 : j = 8 := by omega
            subst h8
            have HP := Frame.hid hp
            clear hp
            go_wp2_with (refine wpList_arith rfl _ _ _ _ _ rfl rfl _ _ _ rfl rfl ?_; intro r n hr hl)
            go_ret
            exact ⟨_, _, rfl, HS.out _ _ HP.out hr, neg_lt hl, rfl⟩
      · rename_i g n1 hg lg hq z n3 hz lz _ _
        have hs := sine_half (y := y) (f := f) (g := g) (i := g) HH.out HF.out (by unfold Step2; rw [if_pos HH.out]; exact hg) (by unfold Step3; rw [if_neg (by rw [hq]; decide)]) hz hr
        have HS := Frame.hid hs
        clear hs hz hr hq hg 
        go_loopw [7, 8] (fun pv kv wr => PolyAt r w pv kv wr) (fun _ kv _ => (intOf kv).toNat)
        case atStart => exact ⟨0, _, by omega, by simp, rfl, rfl, by decide, _, rfl⟩
        case round =>
          obtain ⟨j, p, hj, rfl, rfl, hp, hpl, m, rfl⟩ := hrel
          by_cases hlt : j < 8
          · have HP := Frame.hid (poly_step hp)
            have hk : 1 ≤ 8 - (j : Int) := by omega
            have hk2 : 8 - (j : Int) ≤ 8 := by omega
            obtain ⟨k, hkk⟩ : ∃ k : Int, k = 8 - (j : Int) := ⟨_, rfl⟩
            have HK := Frame.hid hkk
            rw [← hkk] at hk hk2 HP ⊢
            have hm1 : 0 ≤ 2 * k * (2 * k + 1) ∧ 2 * k * (2 * k + 1) ≤ 272 := by
              rcases (by omega : k = 1 ∨ k = 2 ∨ k = 3 ∨ k = 4 ∨ k = 5 ∨ k = 6 ∨ k = 7 ∨ k = 8) with h | h | h | h | h | h | h | h <;> subst h <;> omega
            obtain ⟨m0, m1⟩ := hm1
            clear hp hkk HS
            go_wp2_with (refine wpList_arith rfl _ _ _ _ _ rfl rfl _ _ _ rfl rfl ?_; intro r n hr hl)
            rename_i a n4 ha la d n5 hd ld
            go_roundw
            case rel => exact ⟨j + 1, _, by omega, by have := HK.out; simp; omega, rfl, HP.out _ _ _ ha hd hr, hl, _, rfl⟩
            case measure => have := HK.out; simp [intOf]; omega
          · have h8 : j = 8 := by omega
            subst h8
            have HP := Frame.hid hp
            clear hp
            go_wp2_with (refine wpList_arith rfl _ _ _ _ _ rfl rfl _ _ _ rfl rfl ?_; intro r n hr hl)
            go_ret
            exact ⟨_, _, rfl, HS.out _ _ HP.out hr, neg_lt hl, rfl⟩
    · have HH := Frame.hid (halfB_eq ho)
      go_wp2_with (refine wpList_arith rfl _ _ _ _ _ rfl rfl _ _ _ rfl rfl ?_; intro r n hr hl)
      · rename_i g n1 hg lg hq i n2 hi li z n3 hz lz _ _
        have hs := sine_half (y := y) (f := f) (g := g) (i := i) HH.out HF.out (by unfold Step2; rw [if_pos HH.out]; exact hg) (by unfold Step3; rw [if_pos hq]; exact hi) hz hr
        have HS := Frame.hid hs
        clear hs hz hr hq hg hi
        go_loopw [7, 8] (fun pv kv wr => PolyAt r w pv kv wr) (fun _ kv _ => (intOf kv).toNat)
        case atStart => exact ⟨0, _, by omega, by simp, rfl, rfl, by decide, _, rfl⟩
        case round =>
          obtain ⟨j, p, hj, rfl, rfl, hp, hpl, m, rfl⟩ := hrel
          by_cases hlt : j < 8
          · have HP := Frame.hid (poly_step hp)
            have hk : 1 ≤ 8 - (j : Int) := by omega
            have hk2 : 8 - (j : Int) ≤ 8 := by omega
            obtain ⟨k, hkk⟩ : ∃ k : Int, k = 8 - (j : Int) := ⟨_, rfl⟩
            have HK := Frame.hid hkk
            rw [← hkk] at hk hk2 HP ⊢
            have hm1 : 0 ≤ 2 * k * (2 * k + 1) ∧ 2 * k * (2 * k + 1) ≤ 272 := by
              rcases (by omega : k = 1 ∨ k = 2 ∨ k = 3 ∨ k = 4 ∨ k = 5 ∨ k = 6 ∨ k = 7 ∨ k = 8) with h | h | h | h | h | h | h | h <;> subst h <;> omega
            obtain ⟨m0, m1⟩ := hm1
            clear hp hkk HS
            go_wp2_with (refine wpList_arith rfl _ _ _ _ _ rfl rfl _ _ _ rfl rfl ?_; intro r n hr hl)
            rename_i a n4 ha la d n5 hd ld
            go_roundw
            case rel => exact ⟨j + 1, _, by omega, by have := HK.out; simp; omega, rfl, HP.out _ _ _ ha hd hr, hl, _, rfl⟩
            case measure => have := HK.out; simp [intOf]; omega
          · have h8 : j = 8 := by omega
            subst h8
            have HP := Frame.hid hp
            clear hp
            go_wp2_with (refine wpList_arith rfl _ _ _ _ _ rfl rfl _ _ _ rfl rfl ?_; intro r n hr hl)
            go_ret
            exact ⟨_, _, rfl, HS.out _ _ HP.out hr, neg_lt hl, rfl⟩
      · rename_i g n1 hg lg hq z n3 hz lz _ _
        have hs := sine_half (y := y) (f := f) (g := g) (i := g) HH.out HF.out (by unfold Step2; rw [if_pos HH.out]; exact hg) (by unfold Step3; rw [if_neg (by rw [hq]; decide)]) hz hr
        have HS := Frame.hid hs
        clear hs hz hr hq hg 
        go_loopw [7, 8] (fun pv kv wr => PolyAt r w pv kv wr) (fun _ kv _ => (intOf kv).toNat)
        case atStart => exact ⟨0, _, by omega, by simp, rfl, rfl, by decide, _, rfl⟩
        case round =>
          obtain ⟨j, p, hj, rfl, rfl, hp, hpl, m, rfl⟩ := hrel
          by_cases hlt : j < 8
          · have HP := Frame.hid (poly_step hp)
            have hk : 1 ≤ 8 - (j : Int) := by omega
            have hk2 : 8 - (j : Int) ≤ 8 := by omega
            obtain ⟨k, hkk⟩ : ∃ k : Int, k = 8 - (j : Int) := ⟨_, rfl⟩
            have HK := Frame.hid hkk
            rw [← hkk] at hk hk2 HP ⊢
            have hm1 : 0 ≤ 2 * k * (2 * k + 1) ∧ 2 * k * (2 * k + 1) ≤ 272 := by
              rcases (by omega : k = 1 ∨ k = 2 ∨ k = 3 ∨ k = 4 ∨ k = 5 ∨ k = 6 ∨ k = 7 ∨ k = 8) with h | h | h | h | h | h | h | h <;> subst h <;> omega
            obtain ⟨m0, m1⟩ := hm1
            clear hp hkk HS
            go_wp2_with (refine wpList_arith rfl _ _ _ _ _ rfl rfl _ _ _ rfl rfl ?_; intro r n hr hl)
            rename_i a n4 ha la d n5 hd ld
            go_roundw
            case rel => exact ⟨j + 1, _, by omega, by have := HK.out; simp; omega, rfl, HP.out _ _ _ ha hd hr, hl, _, rfl⟩
            case measure => have := HK.out; simp [intOf]; omega
          · have h8 : j = 8 := by omega
            subst h8
            have HP := Frame.hid hp
            clear hp
            go_wp2_with (refine wpList_arith rfl _ _ _ _ _ rfl rfl _ _ _ rfl rfl ?_; intro r n hr hl)
            go_ret
            exact ⟨_, _, rfl, HS.out _ _ HP.out hr, neg_lt hl, rfl⟩
    · have HH := Frame.hid (halfB_no ho)
      obtain ⟨ho1, ho2⟩ := ho
      go_wp2_with (refine wpList_arith rfl _ _ _ _ _ rfl rfl _ _ _ rfl rfl ?_; intro r n hr hl)
      · rename_i hq i n2 hi li z n3 hz lz _ _
        have hs := sine_whole (y := y) (f := f) (g := f) (i := i) HH.out HF.out (by unfold Step2; rw [if_neg (by rw [HH.out]; decide)]) (by unfold Step3; rw [if_pos hq]; exact hi) hz hr
        have HS := Frame.hid hs
        clear hs hz hr hq hi
        go_loopw [7, 8] (fun pv kv wr => PolyAt r w pv kv wr) (fun _ kv _ => (intOf kv).toNat)
        case atStart => exact ⟨0, _, by omega, by simp, rfl, rfl, by decide, _, rfl⟩
        case round =>
          obtain ⟨j, p, hj, rfl, rfl, hp, hpl, m, rfl⟩ := hrel
          by_cases hlt : j < 8
          · have HP := Frame.hid (poly_step hp)
            have hk : 1 ≤ 8 - (j : Int) := by omega
            have hk2 : 8 - (j : Int) ≤ 8 := by omega
            obtain ⟨k, hkk⟩ : ∃ k : Int, k = 8 - (j : Int) := ⟨_, rfl⟩
            have HK := Frame.hid hkk
            rw [← hkk] at hk hk2 HP ⊢
            have hm1 : 0 ≤ 2 * k * (2 * k + 1) ∧ 2 * k * (2 * k + 1) ≤ 272 := by
              rcases (by omega : k = 1 ∨ k = 2 ∨ k = 3 ∨ k = 4 ∨ k = 5 ∨ k = 6 ∨ k = 7 ∨ k = 8) with h | h | h | h | h | h | h | h <;> subst h <;> omega
            obtain ⟨m0, m1⟩ := hm1
            clear hp hkk HS
            go_wp2_with (refine wpList_arith rfl _ _ _ _ _ rfl rfl _ _ _ rfl rfl ?_; intro r n hr hl)
            rename_i a n4 ha la d n5 hd ld
            go_roundw
            case rel => exact ⟨j + 1, _, by omega, by have := HK.out; simp; omega, rfl, HP.out _ _ _ ha hd hr, hl, _, rfl⟩
            case measure => have := HK.out; simp [intOf]; omega
          · have h8 : j = 8 := by omega
            subst h8
            have HP := Frame.hid hp
            clear hp
            go_wp2_with (refine wpList_arith rfl _ _ _ _ _ rfl rfl _ _ _ rfl rfl ?_; intro r n hr hl)
            go_ret
            exact ⟨_, _, rfl, HS.out _ _ HP.out hr, hl, rfl⟩
      · rename_i hq z n3 hz lz _ _
        have hs := sine_whole (y := y) (f := f) (g := f) (i := f) HH.out HF.out (by unfold Step2; rw [if_neg (by rw [HH.out]; decide)]) (by unfold Step3; rw [if_neg (by rw [hq]; decide)]) hz hr
        have HS := Frame.hid hs
        clear hs hz hr hq 
        go_loopw [7, 8] (fun pv kv wr => PolyAt r w pv kv wr) (fun _ kv _ => (intOf kv).toNat)
        case atStart => exact ⟨0, _, by omega, by simp, rfl, rfl, by decide, _, rfl⟩
        case round =>
          obtain ⟨j, p, hj, rfl, rfl, hp, hpl, m, rfl⟩ := hrel
          by_cases hlt : j < 8
          · have HP := Frame.hid (poly_step hp)
            have hk : 1 ≤ 8 - (j : Int) := by omega
            have hk2 : 8 - (j : Int) ≤ 8 := by omega
            obtain ⟨k, hkk⟩ : ∃ k : Int, k = 8 - (j : Int) := ⟨_, rfl⟩
            have HK := Frame.hid hkk
            rw [← hkk] at hk hk2 HP ⊢
            have hm1 : 0 ≤ 2 * k * (2 * k + 1) ∧ 2 * k * (2 * k + 1) ≤ 272 := by
              rcases (by omega : k = 1 ∨ k = 2 ∨ k = 3 ∨ k = 4 ∨ k = 5 ∨ k = 6 ∨ k = 7 ∨ k = 8) with h | h | h | h | h | h | h | h <;> subst h <;> omega
            obtain ⟨m0, m1⟩ := hm1
            clear hp hkk HS
            go_wp2_with (refine wpList_arith rfl _ _ _ _ _ rfl rfl _ _ _ rfl rfl ?_; intro r n hr hl)
            rename_i a n4 ha la d n5 hd ld
            go_roundw
            case rel => exact ⟨j + 1, _, by omega, by have := HK.out; simp; omega, rfl, HP.out _ _ _ ha hd hr, hl, _, rfl⟩
            case measure => have := HK.out; simp [intOf]; omega
          · have h8 : j = 8 := by omega
            subst h8
            have HP := Frame.hid hp
            clear hp
            go_wp2_with (refine wpList_arith rfl _ _ _ _ _ rfl rfl _ _ _ rfl rfl ?_; intro r n hr hl)
            go_ret
            exact ⟨_, _, rfl, HS.out _ _ HP.out hr, hl, rfl⟩

set_option maxHeartbeats 1000000 in
theorem l01SineWide_nan (y : Nat) (hfin : fin .f64 y = false) (w : World) : Calls Try.prog 77 #[.float .f64 y] w (Gives .f64 (fun r => r = 9221120237041090561) w) := by
  have HFIN := Frame.hid hfin
  clear hfin
  go_enter Try.func77, Try.ntmps77
  go_wp2_with fail
  refine upon_arith _ _ _ _ _ rfl ?_
  intro r0 n0 hr0 hl0
  have hz := sub_self_zero hr0
  rw [HFIN.out] at hz
  have hz2 : (FloatKind.f64.format.order r0 0 != some Ordering.eq) = true := by rw [bne, hz]; rfl
  clear hr0 hl0
  go_wp2_with (go_at_call 106; refine (nan_calls _).mono ?_; rintro e w' ⟨rfl, rfl⟩)
  go_ret
  exact ⟨_, _, rfl, rfl, by decide, rfl⟩

set_option maxHeartbeats 1000000 in
theorem l01SineWide_many (y : Nat) (hfin : fin .f64 y = true) (hm : 4841369599423283200 ≤ y % 9223372036854775808) (w : World) : Calls Try.prog 77 #[.float .f64 y] w (Gives .f64 (fun r => r = 0) w) := by
  obtain ⟨_, ho⟩ := turns_many hfin hm
  have HFIN := Frame.hid hfin
  clear hfin hm
  go_enter Try.func77, Try.ntmps77
  go_wp2_with fail
  refine upon_arith _ _ _ _ _ rfl ?_
  intro r0 n0 hr0 hl0
  have hz := sub_self_zero hr0
  rw [HFIN.out] at hz
  have hz2 : (FloatKind.f64.format.order r0 0 != some Ordering.eq) = false := by rw [bne, hz]; rfl
  clear hr0 hl0
  rcases ho with (o | o) | ⟨o1, o | o⟩
  all_goals
    go_wp2_with fail
    go_ret
    exact ⟨_, _, rfl, rfl, by decide, rfl⟩

theorem narrow_z0 : floatToFloatBits .f64 0 .f32 = some 0 := by kernel_rfl
theorem narrow_z {r : Nat} (h : FCv .f64 .f32 0 r) : r = 0 := by
  unfold FCv at h
  rw [narrow_z0] at h
  exact h

end Go.Proofs.Ytbdmmpkphiilkaa
