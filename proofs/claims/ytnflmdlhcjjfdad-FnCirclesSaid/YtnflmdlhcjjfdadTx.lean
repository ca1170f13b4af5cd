/-
  Tenths of decibels, walked on both sides.
-/
import Derived.Test.YtnflmdlhcjjfdadLy
import Derived.Test.YtnflmdlhcjjfdadTn
namespace Go.Proofs.Ytnflmdlhcjjfdad
open Go.RowKit Fl Ieee

theorem run_floor {P : Program} (w : World) {x : Nat} {k : Int} (h : WLe x k) : (Extern.MathFloor.toIntegral "math.archFloor" .down #[.float .f64 x]).run P w = .ok (.float .f64 (floorW x)) w := by
  obtain ⟨s, m, p, e, _⟩ := h
  have hd : FloatKind.f64.decode x = .number s m p := e
  have key : Extern.MathFloor.toIntegral "math.archFloor" .down #[.float .f64 x] = (match FloatKind.f64.decode x with
    | .nan s t => if FloatKind.f64.format.quiet t = t then pure (.float .f64 x) else do
      pure (.float .f64 (if (← choose (.extern "math.Floor,Ceil,Trunc,RoundToEven.signallingNaN kept" 2)) == 1 then x else FloatKind.f64.encode (.nan s (FloatKind.f64.format.quiet t))))
    | d => pure (.float .f64 (FloatKind.f64.encode (d.integral .down)))) := rfl
  rw [key, hd]
  have e2 : floorW x = FloatKind.f64.encode ((Datum.number s m p).integral .down) := by unfold floorW; rw [e]; rfl
  rw [e2]
  rfl

theorem ext_floor {x : Nat} {k : Int} (h : WLe x k) (w : World) : ∃ u n, (callFunc 104 #[.float .f64 x]).run Try.prog w = .ok (.value u) (w.drewN n) ∧ u = .float .f64 (floorW x) ∧ n = 0 := by
  refine ⟨_, 0, ?_, rfl, rfl⟩
  rw [run_callFunc_extern Try.func104 (by kernel_rfl) (by kernel_rfl) (by kernel_rfl) (e := Extern.MathFloor.toIntegral "math.archFloor" .down) (by kernel_rfl), run_floor w h]; rfl

set_option maxRecDepth 100000 in
theorem floor_calls (x : Nat) (k : Int) (h : WLe x k) (w : World) : Calls Try.prog 60 #[.float .f64 x] w fun e w' => e = .returned (.float .f64 (floorW x)) ∧ w = w' := by
  have H := Frame.hid h
  clear h
  go_enter Try.func60, Try.ntmps60
  go_wp2_with (refine wpList_ext1 rfl 104 _ _ rfl _ rfl (fun u n => u = .float .f64 (floorW x) ∧ n = 0) (ext_floor H.out _) ?_; rintro u n ⟨rfl, rfl⟩)
  go_ret
  exact ⟨rfl, rfl⟩

/-- Which numbers have tenths. -/
def posB (b : Nat) : Bool := fin .f32 b && FloatKind.f32.format.order b 0 == some Ordering.gt

/-- What both sides give. -/
def TenGives (b : Nat) (w : World) (e : Ending) (w' : World) : Prop :=
  ∃ n t m, e = .returned (.tuple #[.int .i64 n, .bool t]) ∧ ((posB b = true ∧ t = true ∧ TenV b n) ∨ (posB b = false ∧ t = false ∧ n = 0)) ∧ w' = w.drewN m

theorem fin_order {b : Nat} (h : fin .f32 b = true) : FloatKind.f32.format.order b 0 = some Ordering.lt ∨ FloatKind.f32.format.order b 0 = some Ordering.eq ∨ FloatKind.f32.format.order b 0 = some Ordering.gt := by
  have h32 : FloatKind.f32.format = single := rfl
  unfold fin at h
  rw [h32] at h ⊢
  unfold Format.order
  rw [zero32]
  cases hr : single.read b with
  | nan s t => rw [hr] at h; cases h
  | infinity s => rw [hr] at h; cases h
  | number s m p =>
    rw [order_zero]
    split
    · exact .inr (.inl rfl)
    · split
      · exact .inl rfl
      · exact .inr (.inr rfl)

theorem pos_kinds {b y : Nat} (hb : b < 4294967296) (hf : fin .f32 b = true) (ho : FloatKind.f32.format.order b 0 = some Ordering.gt) (h : FCv .f32 .f64 b y) :
    isNan .f64 y = false ∧ FloatKind.f64.format.order y 0 = some Ordering.gt ∧ WGe y (-149) ∧ WLe y 128 := by
  rcases log_kinds hb h with ⟨g1, _⟩ | ⟨_, _, o1, _⟩ | ⟨_, _, o1, _⟩ | ⟨g1, _⟩ | ⟨_, g2, _, _, o2, g4, g5⟩
  · have := fin_eq .f32 b
    rw [hf, g1] at this
    cases this
  · rw [ho] at o1; cases o1
  · rw [ho] at o1; cases o1
  · subst g1
    have : fin .f32 2139095040 = false := by decide
    rw [this] at hf; cases hf
  · exact ⟨g2, o2, g4, g5⟩

set_option maxHeartbeats 2000000 in
theorem tenthsOf_calls (b : Nat) (hb : (b : Int) < 4294967296) (w : World) : Calls Try.prog 15 #[.float .f32 b] w (TenGives b w) := by
  have HB : Hid (b < 4294967296) := show b < 4294967296 by omega
  clear hb
  cases hf : fin .f32 b
  · have HP : Hid (posB b = false) := by show posB b = false; unfold posB; rw [hf]; rfl
    go_enter Try.func15, Try.ntmps15
    go_wp2_with (go_at_call 58; refine (isFinite_calls _ _).mono ?_; rintro e w' ⟨rfl, n, rfl⟩; rw [hf])
    go_ret2
    exact ⟨_, _, _, rfl, .inr ⟨HP.out, rfl, rfl⟩, rfl⟩
  · rcases fin_order hf with ho | ho | ho
    · have HP : Hid (posB b = false) := by show posB b = false; unfold posB; rw [ho]; cases fin .f32 b <;> rfl
      go_enter Try.func15, Try.ntmps15
      go_wp2_with (go_at_call 58; refine (isFinite_calls _ _).mono ?_; rintro e w' ⟨rfl, n, rfl⟩; rw [hf])
      go_ret2
      exact ⟨_, _, _, rfl, .inr ⟨HP.out, rfl, rfl⟩, rfl⟩
    · have HP : Hid (posB b = false) := by show posB b = false; unfold posB; rw [ho]; cases fin .f32 b <;> rfl
      go_enter Try.func15, Try.ntmps15
      go_wp2_with (go_at_call 58; refine (isFinite_calls _ _).mono ?_; rintro e w' ⟨rfl, n, rfl⟩; rw [hf])
      go_ret2
      exact ⟨_, _, _, rfl, .inr ⟨HP.out, rfl, rfl⟩, rfl⟩
    · have HP : Hid (posB b = true) := by show posB b = true; unfold posB; rw [ho, hf]; rfl
      have HF := Frame.hid hf
      have HO := Frame.hid ho
      go_enter Try.func15, Try.ntmps15
      go_wp2_with (first | (go_at_call 58; refine (isFinite_calls _ _).mono ?_; rintro e w' ⟨rfl, n, rfl⟩; rw [hf]) | (refine wpList_conv rfl _ _ _ rfl .f32 .f64 (by decide) (.inl rfl) _ rfl (by kernel_rfl) (by kernel_rfl) ?_; intro y ny hy hyl))
      obtain ⟨g2, o2, g4, g5⟩ := pos_kinds HB.out HF.out HO.out hy
      have HY := Frame.hid hy
      have G4 := Frame.hid g4
      have G5 := Frame.hid g5
      clear hy g2 o2 g4 g5 hf ho
      refine (wideLog_calls _ hyl G4.out G5.out _).mono ?_
      rintro e w' ⟨q, nq, rfl, hq, hql, rfl⟩
      go_wp2_with fail
      refine upon_arith _ _ _ _ _ rfl ?_
      intro p np hp lp
      go_wp2_with fail
      refine upon_arith _ _ _ _ _ rfl ?_
      intro s ns hs ls
      obtain ⟨bq, bp, bs, v, hv⟩ := ten_told G4.out G5.out hq hp hs
      have HV : Hid (TenV b v) := ⟨y, q, p, s, HY.out, G4.out, G5.out, hq, hp, hs, hv⟩
      have BS := Frame.hid bs
      have hci := fun W : World => run_convert_float_int (P := Try.prog) W 27 2 .f64 .i64 (floorW s) v (by kernel_rfl) (by kernel_rfl) hv
      clear hq hp hs bq bp bs hv
      go_wp2_with (go_at_call 60; refine (floor_calls _ _ BS.out _).mono ?_; rintro e w' ⟨rfl, rfl⟩)
      go_ret2
      exact ⟨_, _, _, rfl, .inl ⟨HP.out, rfl, HV.out⟩, rfl⟩

theorem ten_same {b : Nat} {n n' : Int} {t t' : Bool} (h : (posB b = true ∧ t = true ∧ TenV b n) ∨ (posB b = false ∧ t = false ∧ n = 0)) (h' : (posB b = true ∧ t' = true ∧ TenV b n') ∨ (posB b = false ∧ t' = false ∧ n' = 0)) : n' = n ∧ t' = t := by
  rcases h with ⟨h1, h2, h3⟩ | ⟨h1, h2, h3⟩ <;> rcases h' with ⟨g1, g2, g3⟩ | ⟨g1, g2, g3⟩
  · exact ⟨TenV.det h3 g3, by rw [h2, g2]⟩
  · rw [h1] at g1; cases g1
  · rw [h1] at g1; cases g1
  · exact ⟨by rw [h3, g3], by rw [h2, g2]⟩

end Go.Proofs.Ytnflmdlhcjjfdad
