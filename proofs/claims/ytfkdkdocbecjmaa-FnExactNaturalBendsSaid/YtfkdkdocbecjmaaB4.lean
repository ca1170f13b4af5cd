/-
  A steadied pair of slopes: the program's side.
-/
import Derived.Test.YtfkdkdocbecjmaaB3
import Derived.Test.YtfkdkdocbecjmaaKb
namespace Go.Proofs.Ytfkdkdocbecjmaa
open Go.RowKit Fl Go.WideShapes Go.Deep
attribute [local go_sem] kstore_f kalloc_drewN kset_drewN

def eqW (x : Nat) : Bool := FloatKind.f32.format.order x 0 == some Ordering.eq
def gtW (x y : Nat) : Bool := FloatKind.f32.format.order x y == some Ordering.gt
theorem eqW.same {x y : Nat} (h : FSame .f32 x y) : eqW x = eqW y := by
  unfold eqW
  rw [order_same h (FSame.refl _ 0)]
theorem gtW.same {x y z : Nat} (h : FSame .f32 x y) : gtW x z = gtW y z := by
  unfold gtW
  rw [order_same h (FSame.refl _ z)]
/-- Both slopes beside a leg, no steeper than makes no wave there. -/
def SteadyR (f l s f' l' : Nat) : Prop :=
  (eqW s = true ∧ f' = 0 ∧ l' = 0) ∨
  (eqW s = false ∧ ∃ a b p q r, FOp .quo .f32 f s a ∧ FOp .quo .f32 l s b ∧ FOp .mul .f32 a a p ∧ FOp .mul .f32 b b q ∧ FOp .add .f32 p q r ∧
    ((gtW r 1091567616 = false ∧ f' = f ∧ l' = l) ∨
     (gtW r 1091567616 = true ∧ ∃ k t u v, RootR r k ∧ FOp .quo .f32 1077936128 k t ∧ FOp .mul .f32 t a u ∧ FOp .mul .f32 u s f' ∧ FOp .mul .f32 t b v ∧ FOp .mul .f32 v s l')))
theorem SteadyR.same {f l s f' l' F L S F' L' : Nat} (hf : FSame .f32 f F) (hl : FSame .f32 l L) (hs : FSame .f32 s S) (h : SteadyR f l s f' l') (g : SteadyR F L S F' L') : FSame .f32 f' F' ∧ FSame .f32 l' L' := by
  have e := eqW.same hs
  rcases h with ⟨h0, rfl, rfl⟩ | ⟨h0, a, b, p, q, r, h1, h2, h3, h4, h5, h6⟩ <;> rcases g with ⟨g0, rfl, rfl⟩ | ⟨g0, A, B, P, Q, R, g1, g2, g3, g4, g5, g6⟩
  · exact ⟨FSame.refl _ _, FSame.refl _ _⟩
  · rw [e, g0] at h0; cases h0
  · rw [e, g0] at h0; cases h0
  · have ea := FOp.same hf hs h1 g1
    have eb := FOp.same hl hs h2 g2
    have er := FOp.same (FOp.same ea ea h3 g3) (FOp.same eb eb h4 g4) h5 g5
    rw [← gtW.same er] at g6
    rcases h6 with ⟨k0, rfl, rfl⟩ | ⟨k0, k, t, u, v, k1, k2, k3, k4, k5, k6⟩ <;> rcases g6 with ⟨j0, rfl, rfl⟩ | ⟨j0, K, T, U, V, j1, j2, j3, j4, j5, j6⟩
    · exact ⟨hf, hl⟩
    · rw [k0] at j0; cases j0
    · rw [k0] at j0; cases j0
    · have et := FOp.same (FSame.refl _ _) (rootR_same er k1 j1) k2 j2
      exact ⟨FOp.same (FOp.same et ea k3 j3) hs k4 j4, FOp.same (FOp.same et eb k5 j5) hs k6 j6⟩

set_option maxRecDepth 100000 in
set_option maxHeartbeats 2000000 in
theorem steadied_calls (f l s : Nat) (w : World) : Calls Try.prog 59 #[.float .f32 f, .float .f32 l, .float .f32 s] w fun e w' => ∃ f' l', e = .returned (.tuple #[.float .f32 f', .float .f32 l']) ∧ SteadyR f l s f' l' ∧ Below w.heap.size w w' := by
  cases hs : eqW s
  · have HS := Frame.hid hs
    unfold eqW at hs
    go_enter Try.func59, Try.ntmps59
    go_wp2_with fail
    refine upon_arith _ _ _ _ _ rfl ?_
    intro a n1 ha _
    go_wp2_with fail
    refine upon_arith _ _ _ _ _ rfl ?_
    intro b n2 hb _
    go_wp2_with fail
    refine upon_arith _ _ _ _ _ rfl ?_
    intro p n3 hp _
    go_wp2_with fail
    refine upon_arith _ _ _ _ _ rfl ?_
    intro q n4 hq _
    go_wp2_with fail
    refine upon_arith _ _ _ _ _ rfl ?_
    intro r n5 hr _
    cases hg : gtW r 1091567616
    · have HG := Frame.hid hg
      unfold gtW at hg
      go_wp2_with fail
      go_ret2
      refine ⟨_, _, rfl, .inr ⟨HS.out, a, b, p, q, r, ha, hb, hp, hq, hr, .inl ⟨HG.out, rfl, rfl⟩⟩, ?_⟩
      exact below_drewN (Below.refl _ _) _
    · have HG := Frame.hid hg
      unfold gtW at hg
      go_wp2_with (first | (go_at_call 87; refine (rootNumber_calls _ _).mono ?_; rintro e w' ⟨k, nk, rfl, hk, hkl, rfl⟩))
      refine upon_arith _ _ _ _ _ rfl ?_
      intro t n6 ht _
      go_wp2_with fail
      refine upon_arith _ _ _ _ _ rfl ?_
      intro u n7 hu _
      go_wp2_with fail
      refine upon_arith _ _ _ _ _ rfl ?_
      intro f' n8 hf' _
      go_wp2_with fail
      refine upon_arith _ _ _ _ _ rfl ?_
      intro v n9 hv _
      go_wp2_with fail
      refine upon_arith _ _ _ _ _ rfl ?_
      intro l' n10 hl' _
      go_wp2_with fail
      go_ret2
      refine ⟨_, _, rfl, .inr ⟨HS.out, a, b, p, q, r, ha, hb, hp, hq, hr, .inr ⟨HG.out, k, t, u, v, hk, ht, hu, hf', hv, hl'⟩⟩, ?_⟩
      exact below_drewN (Below.refl _ _) _
  · have HS := Frame.hid hs
    unfold eqW at hs
    go_enter Try.func59, Try.ntmps59
    go_wp2_with fail
    go_ret2
    exact ⟨_, _, rfl, .inl ⟨HS.out, rfl, rfl⟩, Below.refl _ _⟩

end Go.Proofs.Ytfkdkdocbecjmaa
