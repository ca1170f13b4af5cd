/-
  A spot of a sheet: the specification's side, all of it.
-/
import Derived.Test.YtnhpiebddelebaaH7
import Derived.Test.YtnhpiebddelebaaH2
import Derived.Test.YtnhpiebddelebaaSh
namespace Go.Proofs.Ytnhpiebddelebaa
open Go.RowKit Fl Go.WideShapes Go.Deep
attribute [local go_sem] kstore_f kalloc_drewN kset_drewN hstore_i hstore_s

/-- A sheet is valid and two numbers are shares. -/
def placeB (a b : Int) (xs : List (Nat × Nat × Nat)) (u v : Nat) : Bool := shB a b xs && isShareB u && isShareB v
/-- What is handed out of a spot of a sheet. -/
def AtO (a b : Int) (xs : List (Nat × Nat × Nat)) (u v : Nat) (x y z : Nat) (ok : Bool) : Prop :=
  (placeB a b xs u v = true ∧ ∃ r s t, AtR a.toNat b.toNat u v xs r s t ∧ GivenR r s t x y z ok) ∨ (placeB a b xs u v = false ∧ x = 0 ∧ y = 0 ∧ z = 0 ∧ ok = false)

set_option maxRecDepth 100000 in
set_option maxHeartbeats 4000000 in
theorem l04At_calls (g bk off n p q u v : Nat) (xs : List (Nat × Nat × Nat)) (hp : 2 ≤ p ∧ p ≤ 6) (hq : 2 ≤ q ∧ q ≤ 6) (hn : n = xs.length) (hl : n = p * q) (w : World) (hS : Sh3 w g p q (.slice (some ⟨bk, off, none⟩) n n)) (hA : RdS w (some ⟨bk, off, none⟩) xs) :
    Calls Try.prog 39 #[.pointer (some ⟨g, 0, none⟩), .float .f32 u, .float .f32 v] w fun e w' => ∃ x y z, e = .returned (.agg #[.float .f32 x, .float .f32 y, .float .f32 z]) ∧ AtR p q u v xs x y z ∧ Below w.heap.size w w' := by
  have HC := Frame.hid (l04Rows_calls g bk off n p q u xs hp hq hn hl)
  have HS := Frame.hid hS
  have HA := Frame.hid hA
  clear hn hl hA hS
  go_enter Try.func39, Try.ntmps39
  have hw : Below w.heap.size w (w.alloc (.cells #[.float .f32 0, .float .f32 0, .float .f32 0] 57)) := (Below.refl _ _).alloc (Nat.le_refl _) _
  go_wp2_with fail
  refine (HC.out _ (HS.out.below hw) (HA.out.below hw)).mono ?_
  rintro e w1 ⟨A1, c1, zs, rfl, hzl, hZ, hR1, hB1⟩
  have HZ := Frame.hid hZ
  have HR1 := Frame.hid hR1
  have HZL := Frame.hid hzl
  have HB1 := Frame.hid hB1
  clear hZ hR1 hzl hB1
  go_wp2_with fail
  refine (l04Cut_calls A1 zs q c1 v 1 HZL.out.symm (by omega) (by omega) w1 HR1.out).mono ?_
  rintro e w2 ⟨A2, c2, ys, rfl, hyl, hC, hR2, hB2⟩
  obtain ⟨b2, o2, rfl, hb2, hc2⟩ := hR2.h (by omega)
  obtain ⟨y0, y1, y2⟩ := hc2 0 (by omega)
  simp only [Nat.zero_mul, Nat.add_zero] at y0 y1 y2
  obtain ⟨x, hx⟩ : ∃ x, x = sx ys 0 := ⟨_, rfl⟩
  obtain ⟨y, hy⟩ : ∃ y, y = sy ys 0 := ⟨_, rfl⟩
  obtain ⟨z, hz⟩ : ∃ z, z = sz ys 0 := ⟨_, rfl⟩
  rw [← hx] at y0
  rw [← hy] at y1
  rw [← hz] at y2
  have hB01 := HB1.out
  have hB02 : Below (w.heap.size + 1) (w.alloc (.cells #[.float .f32 0, .float .f32 0, .float .f32 0] 57)) w2 := by
    have h : Below (w.alloc (.cells #[.float .f32 0, .float .f32 0, .float .f32 0] 57)).heap.size _ w2 := hB01.trans (hB2.mono hB01.size)
    simpa using h
  have HW2 := Frame.hid (hw.trans (hB02.mono (by omega)))
  have k0 : w2.cell? ⟨w.heap.size, 0, none⟩ = some (.float .f32 0) := (hB02.cell (p := ⟨w.heap.size, 0, none⟩) (by simp)).trans (by simp [go_sem])
  have k1 : w2.cell? ⟨w.heap.size, 1, none⟩ = some (.float .f32 0) := (hB02.cell (p := ⟨w.heap.size, 1, none⟩) (by simp)).trans (by simp [go_sem])
  have k2 : w2.cell? ⟨w.heap.size, 2, none⟩ = some (.float .f32 0) := (hB02.cell (p := ⟨w.heap.size, 2, none⟩) (by simp)).trans (by simp [go_sem])
  have kf : ∀ i, w2.frozen? ⟨w.heap.size, i, none⟩ = false := fun i => (hB02.frozen (p := ⟨w.heap.size, i, none⟩) (by simp)).trans (by simp [go_sem])
  have kl : w.heap.size < w2.heap.size := by have := hB02.size; simp at this; omega
  have HAT := Frame.hid (show AtR p q u v xs x y z from ⟨zs, ys, HZL.out, HZ.out, hC, hx, hy, hz⟩)
  obtain ⟨e0, e1, e2⟩ := set3_read (w := w2) (v0 := .float .f32 x) (v1 := .float .f32 y) (v2 := .float .f32 z) k0 k1 k2
  clear hyl hC hR2 hB2 hc2 hx hy hz hB01 hB02 hw
  go_wp2_with fail
  refine bodyPost_ret (v := .agg #[.float .f32 x, .float .f32 y, .float .f32 z]) (by simp [results, Try.results39, go_sem, e0, e1, e2]) rfl ⟨_, _, _, rfl, HAT.out, ?_⟩
  exact ((HW2.out.setCell (p := ⟨w.heap.size, 0, none⟩) (Nat.le_refl _) _).setCell (p := ⟨w.heap.size, 1, none⟩) (Nat.le_refl _) _).setCell (p := ⟨w.heap.size, 2, none⟩) (Nat.le_refl _) _

end Go.Proofs.Ytnhpiebddelebaa
