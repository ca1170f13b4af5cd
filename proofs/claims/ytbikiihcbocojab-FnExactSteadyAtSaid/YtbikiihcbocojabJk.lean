/-
  The leg of a graph at a place: found on both sides.
-/
import Derived.Test.YtbikiihcbocojabJi
import Derived.Test.YtbikiihcbocojabSh
namespace Go.Proofs.Ytbikiihcbocojab
open Go.RowKit Fl Ieee

theorem order_some {k : FloatKind} {x y : Nat} (hx : isNan k x = false) (hy : isNan k y = false) : ∃ o, k.format.order x y = some o := by
  unfold isNan FloatKind.decode at hx hy
  unfold Format.order
  cases h1 : k.format.read x with
  | nan s t => rw [h1] at hx; simp [Datum.isNaN] at hx
  | infinity s =>
    cases h2 : k.format.read y with
    | nan s t => rw [h2] at hy; simp [Datum.isNaN] at hy
    | infinity t => exact ⟨_, rfl⟩
    | number t m p => exact ⟨_, rfl⟩
  | number s m p =>
    cases h2 : k.format.read y with
    | nan s t => rw [h2] at hy; simp [Datum.isNaN] at hy
    | infinity t => exact ⟨_, rfl⟩
    | number t n q => exact ⟨_, rfl⟩
theorem fin_num {x : Nat} (h : fin .f32 x = true) : isNan .f32 x = false := by
  rw [fin_eq] at h
  cases hn : isNan .f32 x
  · rfl
  · rw [hn] at h; simp at h
theorem leqF_num {x y : Nat} (h : leqF x y = true) : isNan .f32 x = false ∧ isNan .f32 y = false := by
  unfold leqF at h
  constructor
  · cases hn : isNan .f32 x
    · rfl
    · rw [order_nan_left hn] at h; simp at h
  · cases hn : isNan .f32 y
    · rfl
    · rw [order_nan_right hn] at h; simp at h
def gtF (x y : Nat) : Bool := FloatKind.f32.format.order x y == some Ordering.gt
theorem gtF_not {x y : Nat} (hx : isNan .f32 x = false) (hy : isNan .f32 y = false) : gtF x y = !leqF x y := by
  obtain ⟨o, ho⟩ := order_some hx hy
  unfold gtF leqF
  rw [ho]
  cases o <;> rfl
theorem geq_swap (x y : Nat) : (FloatKind.f32.format.order x y == some Ordering.gt || FloatKind.f32.format.order x y == some Ordering.eq) = leqF y x := by
  unfold leqF
  rw [order_swap .f32 x y]
  cases FloatKind.f32.format.order x y with
  | none => rfl
  | some o => cases o <;> rfl

/-- The place lies in the graph. -/
def placeB (xs : List Nat) (t : Nat) : Bool := leqF (xs.getD 0 0) t && leqF t (xs.getD (xs.length - 1) 0)
/-- The first leg at the place. -/
def LegI (xs : List Nat) (t i : Nat) : Prop := i + 1 < xs.length ∧ leqF t (xs.getD (i + 1) 0) = true ∧ ∀ j, j < i → leqF t (xs.getD (j + 1) 0) = false
theorem LegI.same {xs : List Nat} {t i i' : Nat} (h : LegI xs t i) (h' : LegI xs t i') : i = i' := by
  rcases Nat.lt_trichotomy i i' with hl | hl | hl
  · have := h'.2.2 i hl; rw [h.2.1] at this; cases this
  · exact hl
  · have := h.2.2 i' hl; rw [h'.2.1] at this; cases this

def FindV (xs : List Nat) (t : Nat) (w : World) (e : Ending) (w' : World) : Prop := ∃ i : Nat, e = .returned (.int .i64 i) ∧ LegI xs t i ∧ w' = w

set_option maxRecDepth 100000 in
set_option maxHeartbeats 1000000 in
theorem l05Find_no (A : Option Addr) (xs : List Nat) (c t : Nat) (w : World) (h2 : 2 ≤ xs.length) (h48 : xs.length ≤ 48) (hA : RdF w A xs) (hp : placeB xs t = false) :
    Calls Try.prog 73 #[.slice A xs.length c, .float .f32 t] w fun e w' => e = .returned (.int .i64 (-1)) ∧ w' = w := by
  obtain ⟨b, off, rfl, hb, hc⟩ := hA (by omega)
  have d0 := hc 0 (by omega)
  rw [Nat.add_zero] at d0
  have d1 := hc (xs.length - 1) (by omega)
  have HP := Frame.hid hp
  obtain ⟨N, hN⟩ : ∃ N, N + 1 = xs.length := ⟨xs.length - 1, by omega⟩
  have e1 : xs.length - 1 = N := by omega
  rw [e1] at d1
  unfold placeB at HP
  rw [e1] at HP
  rw [← hN] at h2 h48 ⊢
  clear hc hA hp e1 hN
  generalize xs.getD 0 0 = x0 at d0 HP
  generalize xs.getD N 0 = x1 at d1 HP
  have HP2 := HP.out
  cases q1 : leqF x0 t
  · have Q1 := q1
    rw [← geq_swap] at Q1
    clear HP HP2 q1
    go_enter Try.func73, Try.ntmps73
    go_wp2_with fail
    go_ret
    exact ⟨rfl, rfl⟩
  · cases q2 : leqF t x1
    · have Q1 := q1
      rw [← geq_swap] at Q1
      have Q2 := q2
      unfold leqF at Q2
      clear HP HP2 q1 q2
      go_enter Try.func73, Try.ntmps73
      go_wp2_with fail
      go_ret
      exact ⟨rfl, rfl⟩
    · rw [q1, q2] at HP2; cases HP2

set_option maxRecDepth 100000 in
set_option maxHeartbeats 1000000 in
theorem l05Find_yes (A : Option Addr) (xs : List Nat) (c t : Nat) (w : World) (h2 : 2 ≤ xs.length) (h48 : xs.length ≤ 48) (hf : finL xs = true) (hA : RdF w A xs) (hp : placeB xs t = true) :
    Calls Try.prog 73 #[.slice A xs.length c, .float .f32 t] w (FindV xs t w) := by
  unfold FindV
  obtain ⟨b, off, rfl, hb, hc⟩ := hA (by omega)
  have d0 := hc 0 (by omega)
  rw [Nat.add_zero] at d0
  have d1 := hc (xs.length - 1) (by omega)
  have HCC := Frame.hid hc
  have HF := Frame.hid hf
  obtain ⟨N, hN⟩ : ∃ N, N + 1 = xs.length := ⟨xs.length - 1, by omega⟩
  have e1 : xs.length - 1 = N := by omega
  rw [e1] at d1
  have HN := Frame.hid hN
  unfold placeB at hp
  rw [e1] at hp
  rw [Bool.and_eq_true] at hp
  obtain ⟨q1, q2⟩ := hp
  have HQ1 := Frame.hid q1
  have HQ2 := Frame.hid q2
  rw [← geq_swap] at q1
  unfold leqF at q2
  rw [← hN] at h2 h48 ⊢
  clear hc hA e1 hN hf
  have HN0 := Frame.hid (leqF_num HQ2.out).1
  generalize hx0 : xs.getD 0 0 = x0 at d0 q1
  generalize hx1 : xs.getD N 0 = x1 at d1 q2
  clear hx0 hx1
  go_enter Try.func73, Try.ntmps73
  go_wp2_with fail
  clear d0 d1 q1 q2
  go_loopw [6] (fun i wr => ∃ k : Nat, k + 1 ≤ N ∧ i = .int .i64 k ∧ (∀ j, j < k → leqF t (xs.getD (j + 1) 0) = false) ∧ wr = w) (fun i _ => N - (intOf i).toNat)
  case atStart => exact ⟨0, by omega, rfl, fun j hj => absurd hj (by omega), rfl⟩
  case round =>
    obtain ⟨k, hk, rfl, hL, rfl⟩ := hrel
    have d1 := HCC.out (k + 1) (by have := HN.out; omega)
    have hnum := fin_num (finL_get HF.out (j := k + 1) (by have := HN.out; omega))
    have hg := gtF_not HN0.out hnum
    have HL := Frame.hid hL
    have q2 : ((k : Int) + 1).toNat = k + 1 := by omega
    have q3 : (0 : Int) ≤ (k : Int) + 1 := by omega
    have q4 : (k : Int) + 1 < (N : Int) + 1 := by omega
    have q5 : ¬ ((k : Int) + 1 < 0) := by omega
    cases hq : leqF t (xs.getD (k + 1) 0)
    · have HQ := Frame.hid hq
      rw [hq] at hg
      have hkN : k + 1 < N := by
        rcases Nat.lt_or_ge (k + 1) N with h | h
        · exact h
        · have e : k + 1 = N := by omega
          rw [e, HQ2.out] at hq; cases hq
      unfold gtF at hg
      generalize xs.getD (k + 1) 0 = y at d1 hg
      clear hq hL hnum
      go_wp2_with fail
      go_roundw
      case rel =>
        refine ⟨k + 1, by omega, by go_num, fun j hj => ?_, by first | rfl | trivial⟩
        by_cases he : j = k
        · subst he; exact HQ.out
        · exact HL.out j (by omega)
      case measure => simp [intOf]; omega
    · have HQ := Frame.hid hq
      rw [hq] at hg
      unfold gtF at hg
      generalize xs.getD (k + 1) 0 = y at d1 hg
      clear hq hL hnum
      go_wp2_with fail
      go_ret
      exact ⟨k, rfl, ⟨by have := HN.out; omega, HQ.out, HL.out⟩, by first | rfl | trivial⟩

end Go.Proofs.Ytbikiihcbocojab
