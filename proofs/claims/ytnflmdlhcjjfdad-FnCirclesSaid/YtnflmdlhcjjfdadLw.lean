/-
  The logarithm, walked on both sides.
-/
import Derived.Test.YtnflmdlhcjjfdadSw
import Derived.Test.YtnflmdlhcjjfdadLg
namespace Go.Proofs.Ytnflmdlhcjjfdad
open Go.RowKit Fl


def DownAt (y : Nat) (w : World) (xv ev : Value) (wr : World) : Prop := ∃ j x : Nat, ev = .int .i64 (j : Int) ∧ xv = .float .f64 x ∧ Down y j x ∧ x < 2 ^ FloatKind.f64.format.width ∧ ∃ m, wr = w.drewN m
def UpAt (y j0 : Nat) (w : World) (xv ev : Value) (wr : World) : Prop := ∃ i x : Nat, ev = .int .i64 ((j0 : Int) - (i : Int)) ∧ xv = .float .f64 x ∧ Up y i x ∧ x < 2 ^ FloatKind.f64.format.width ∧ ∃ m, wr = w.drewN m
def SumLAt (u : Nat) (w : World) (pv kv : Value) (wr : World) : Prop := ∃ j p : Nat, j ≤ 13 ∧ kv = .int .i64 (25 - 2 * (j : Int)) ∧ pv = .float .f64 p ∧ PolyL u j p ∧ p < 2 ^ FloatKind.f64.format.width ∧ ∃ m, wr = w.drewN m
theorem suml_step {u j p : Nat} (h : PolyL u j p) : ∀ d m z, FOp .quo .f64 4607182418800017408 (floatOfInt .f64 (25 - 2 * (j : Int))) d → FOp .mul .f64 u p m → FOp .add .f64 d m z → PolyL u (j + 1) z :=
  fun d m _ h1 h2 h3 => ⟨p, d, m, h, h1, h2, h3⟩
theorem down_more {y j x : Nat} (h : Down y j x) (hg : geB x = true) : ∀ z, FOp .quo .f64 x 4611686018427387904 z → Down y (j + 1) z := fun _ hz => ⟨x, h, hg, hz⟩
theorem up_more {y j x : Nat} (h : Up y j x) (hg : ltB x = true) : ∀ z, FOp .mul .f64 x 4611686018427387904 z → Up y (j + 1) z := fun _ hz => ⟨x, h, hg, hz⟩
theorem ge_cases (f : Nat) : FloatKind.f64.format.order f 4609434218613702656 = some Ordering.gt ∨ FloatKind.f64.format.order f 4609434218613702656 = some Ordering.eq ∨
    ((FloatKind.f64.format.order f 4609434218613702656 == some Ordering.gt) = false ∧ (FloatKind.f64.format.order f 4609434218613702656 == some Ordering.eq) = false) := by
  cases FloatKind.f64.format.order f 4609434218613702656 with
  | none => exact .inr (.inr ⟨rfl, rfl⟩)
  | some o => cases o
              · exact .inr (.inr ⟨rfl, rfl⟩)
              · exact .inr (.inl rfl)
              · exact .inl rfl
theorem geB_gt {f : Nat} (h : FloatKind.f64.format.order f 4609434218613702656 = some Ordering.gt) : geB f = true := by unfold geB; rw [h]; rfl
theorem geB_eq {f : Nat} (h : FloatKind.f64.format.order f 4609434218613702656 = some Ordering.eq) : geB f = true := by unfold geB; rw [h]; rfl
theorem geB_not {f : Nat} (h : (FloatKind.f64.format.order f 4609434218613702656 == some Ordering.gt) = false ∧ (FloatKind.f64.format.order f 4609434218613702656 == some Ordering.eq) = false) : geB f = false := by unfold geB; rw [h.1, h.2]; rfl

set_option maxHeartbeats 8000000 in
theorem wideLog_calls (y : Nat) (hyl : y < 2 ^ FloatKind.f64.format.width) (h1 : WGe y (-149)) (h2 : WLe y 128) (w : World) : Calls Try.prog 59 #[.float .f64 y] w (Gives .f64 (LogR y) w) := by
  have HYL := Frame.hid hyl
  have H1 := Frame.hid h1
  have H2 := Frame.hid h2
  clear h1 h2 hyl
  go_enter Try.func59, Try.ntmps59
  go_wp2_with fail
  go_loopw [0, 3] (fun xv ev wr => DownAt y w xv ev wr) (fun _ ev _ => (129 - intOf ev).toNat)
  case atStart => exact ⟨0, _, rfl, rfl, rfl, HYL.out, 0, rfl⟩
  case round =>
    obtain ⟨j, x, rfl, rfl, hx, hxl, m, rfl⟩ := hrel
    obtain ⟨⟨c1, c2, c3⟩, _⟩ := Down.one H1.out H2.out hx
    rcases ge_cases x with ho | ho | ho
    · have hg := geB_gt ho
      have hj : j ≤ 128 := by have := ge_le (geB_yes (DGe.pos c1) hg) c2; omega
      have HP := Frame.hid (down_more hx hg)
      clear hx hg c1 c2 c3
      go_wp2_with (refine wpList_arith rfl _ _ _ _ _ rfl rfl _ _ _ rfl rfl ?_; intro r n hr hl)
      go_roundw
      case rel => exact ⟨j + 1, _, rfl, rfl, HP.out _ hr, hl, _, rfl⟩
      case measure => simp [intOf]; omega
    · have hg := geB_eq ho
      have hj : j ≤ 128 := by have := ge_le (geB_yes (DGe.pos c1) hg) c2; omega
      have HP := Frame.hid (down_more hx hg)
      clear hx hg c1 c2 c3
      go_wp2_with (refine wpList_arith rfl _ _ _ _ _ rfl rfl _ _ _ rfl rfl ?_; intro r n hr hl)
      go_roundw
      case rel => exact ⟨j + 1, _, rfl, rfl, HP.out _ hr, hl, _, rfl⟩
      case measure => simp [intOf]; omega
    · have hg := geB_not ho
      obtain ⟨ho1, ho2⟩ := ho
      have C1 := Frame.hid c1
      have C4 := Frame.hid (geB_no (DGe.pos c1) hg)
      have HD : Hid (Down y j x ∧ geB x = false) := ⟨hx, hg⟩
      clear hx hg c1 c2
      go_wp2_with fail
      go_loopw [0, 3] (fun xv ev wr => UpAt x j w xv ev wr) (fun _ ev _ => (intOf ev + 150).toNat)
      case atStart => exact ⟨0, _, by simp, rfl, rfl, hxl, _, rfl⟩
      case round =>
        clear ho1 ho2
        obtain ⟨i, v, rfl, rfl, hv, hvl, m2, rfl⟩ := hrel
        obtain ⟨⟨d1, d2, d3⟩, _⟩ := Up.one C1.out C4.out hv
        cases hlt : (FloatKind.f64.format.order v 4604930618986332160 == some Ordering.lt)
        case true =>
          have hi : i ≤ 149 := by have := ge_le d1 (ltB_yes (DGe.pos d1) hlt); omega
          have HP := Frame.hid (up_more hv hlt)
          obtain ⟨e, hee⟩ : ∃ e : Int, e = (j : Int) - (i : Int) := ⟨_, rfl⟩
          have HE := Frame.hid hee
          have he1 : -149 ≤ e := by omega
          have he2 : e ≤ 129 := by omega
          rw [← hee]
          clear hv d1 d2 d3 hee
          go_wp2_with (refine wpList_arith rfl _ _ _ _ _ rfl rfl _ _ _ rfl rfl ?_; intro r n hr hl)
          go_roundw
          case rel => exact ⟨i + 1, _, by have := HE.out; simp; omega, rfl, HP.out _ hr, hl, _, rfl⟩
          case measure => simp [intOf]; omega
        case false =>
          obtain ⟨e, hee⟩ : ∃ e : Int, e = (j : Int) - (i : Int) := ⟨_, rfl⟩
          have HE := Frame.hid hee
          have HU : Hid (Up x i v ∧ ltB v = false) := ⟨hv, hlt⟩
          rw [← hee]
          clear hv d1 d2 hee
          go_wp2_with fail
          refine upon_arith _ _ _ _ _ rfl ?_
          intro a_ na_ ha_ la_
          go_wp2_with fail
          refine upon_arith _ _ _ _ _ rfl ?_
          intro b_ nb_ hb_ lb_
          go_wp2_with fail
          refine upon_arith _ _ _ _ _ rfl ?_
          intro s_ ns_ hs_ ls_
          go_wp2_with fail
          refine upon_arith _ _ _ _ _ rfl ?_
          intro u_ nu_ hu_ lu_
          have HT : Hid (∀ q m1 m2 m3 r, PolyL u_ 13 q → FOp .mul .f64 s_ q m1 → FOp .mul .f64 4611686018427387904 m1 m2 → FOp .mul .f64 (floatOfInt .f64 e) 4604418534313441775 m3 → FOp .add .f64 m2 m3 r → LogR y r) :=
            fun q m1 m2 m3 r k1 k2 k3 k4 k5 => ⟨j, x, i, v, HD.out.1, HD.out.2, HU.out.1, HU.out.2, by rw [← HE.out]; exact ⟨a_, b_, s_, u_, q, m1, m2, m3, ha_, hb_, hs_, hu_, k1, k2, k3, k4, k5⟩⟩
          clear ha_ hb_ hs_ hu_ HE HU HD
          go_wp2_with fail
          go_loopw [6, 7] (fun pv kv wr => SumLAt u_ w pv kv wr) (fun _ kv _ => (intOf kv).toNat)
          case atStart => exact ⟨0, _, by omega, rfl, rfl, rfl, by decide, _, rfl⟩
          case round =>
            obtain ⟨g, p, hgg, rfl, rfl, hp, hpl, m3, rfl⟩ := hrel
            by_cases hlt : g < 13
            · have HP := Frame.hid (suml_step hp)
              obtain ⟨k, hkk⟩ : ∃ k : Int, k = 25 - 2 * (g : Int) := ⟨_, rfl⟩
              have HK := Frame.hid hkk
              have hk : 1 ≤ k := by omega
              have hk2 : k ≤ 25 := by omega
              rw [← hkk] at HP ⊢
              clear hp hkk
              go_wp2_with (refine wpList_arith rfl _ _ _ _ _ rfl rfl _ _ _ rfl rfl ?_; intro r n hr hl)
              rename_i d_ n1_ hd ld m_ n2_ hm lm
              go_roundw
              case rel => exact ⟨g + 1, _, by omega, by have := HK.out; simp; omega, rfl, HP.out _ _ _ hd hm hr, hl, _, rfl⟩
              case measure => have := HK.out; simp [intOf]; omega
            · have h13 : g = 13 := by omega
              subst h13
              have HP := Frame.hid hp
              clear hp
              go_wp2_with (refine wpList_arith rfl _ _ _ _ _ rfl rfl _ _ _ rfl rfl ?_; intro r n hr hl)
              rename_i m1_ n1_ hm1 lm1 m2_ n2_ hm2 lm2 m3_ n3_ hm3 lm3
              go_ret
              exact ⟨_, _, rfl, HT.out _ _ _ _ _ HP.out hm1 hm2 hm3 hr, hl, rfl⟩

end Go.Proofs.Ytnflmdlhcjjfdad
