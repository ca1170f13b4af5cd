/-
  What two points of a plain curve blend to, as both sides make it.
-/
import Derived.Test.YtbdmmpkphiilkaaCu
import Derived.Test.YtbdmmpkphiilkaaGo
import Derived.Test.YtbdmmpkphiilkaaSh
import Derived.Laws.EntriesVeiled
import Derived.Deep.QuietTactic
import Derived.BigQuiet
import Derived.BigRegion
namespace Go.Proofs.Ytbdmmpkphiilkaa
open Go.RowKit Fl Ieee
attribute [local go_sem] run_store_c run_store_f

theorem ta {op : BinOp} {k : FloatKind} {x y b : Nat} (h : floatBits op k x y = some b) (t : TypeId) (W : World) : (binOp op t (.float k x) (.float k y)).run Try.prog W = .ok (.float k b) W := run_float_arith W op t k x y b h
theorem tc {op : BinOp} (hop : op = .add ∨ op = .sub) {x1 x2 y1 y2 r1 r2 : Nat} (h1 : floatBits op .f32 x1 y1 = some r1) (h2 : floatBits op .f32 x2 y2 = some r2) (t : TypeId) (W : World) : (binOp op t (.complex .f32 x1 x2) (.complex .f32 y1 y2)).run Try.prog W = .ok (.complex .f32 r1 r2) W :=
  run_complex_sum W op hop t .f32 x1 x2 y1 y2 r1 r2 (by unfold cSumBits; rw [h1, h2]; rfl)

/-- Finite and at most 8. -/
def S8 (x : Nat) : Prop := x < 4294967296 ∧ ∃ q, FV .f32 x q ∧ -8 ≤ q ∧ q ≤ 8
/-- A part that two parts blend to, and what is made on the way. -/
structure BlT (s t a b u v r : Nat) : Prop where
  hu : floatBits .mul .f32 a s = some u
  hv : floatBits .mul .f32 b t = some v
  hr : floatBits .add .f32 u v = some r
  h1 : floatBits .mul .f32 r 1065353216 = some r
theorem BlT.bl {s t a b u v r : Nat} (h : BlT s t a b u v r) : Bl s t a b r := by
  obtain ⟨h1, h2, h3, _⟩ := h
  refine ⟨u, v, ?_, ?_, ?_⟩ <;> unfold FOp
  · rw [h1]
  · rw [h2]
  · rw [h3]

theorem bl_told {s t a b : Nat} {τ : Rat} (hw : Wt s t τ) (ha : S8 a) (hb : S8 b) : ∃ u v r, BlT s t a b u v r := by
  obtain ⟨_, α, a1, a2, a3⟩ := ha
  obtain ⟨_, β, b1, b2, b3⟩ := hb
  obtain ⟨σ, hσ, _, _⟩ := hw.sv
  obtain ⟨u, hu⟩ := fmul_some a1 hσ
  obtain ⟨v, hv⟩ := fmul_some b1 hw.tv
  have hFu : ∃ c, FV .f32 u c := by
    obtain ⟨c, hc, _, _⟩ := fmul (B := 16) a1 hσ hu (by
      obtain ⟨q1, q2⟩ := mul_tiny (a := α) (d := σ) (M := 8) (e := 2) a2 a3 (by have := hw.sv; obtain ⟨σ', h1, h2, h3⟩ := this; obtain rfl := hσ.one h1; have := hw.t1; grind) (by obtain ⟨σ', h1, h2, h3⟩ := hw.sv; obtain rfl := hσ.one h1; have := hw.t0; grind) (by decide +kernel)
      grind) (by
      obtain ⟨q1, q2⟩ := mul_tiny (a := α) (d := σ) (M := 8) (e := 2) a2 a3 (by have := hw.sv; obtain ⟨σ', h1, h2, h3⟩ := this; obtain rfl := hσ.one h1; have := hw.t1; grind) (by obtain ⟨σ', h1, h2, h3⟩ := hw.sv; obtain rfl := hσ.one h1; have := hw.t0; grind) (by decide +kernel)
      grind) (by decide +kernel)
    exact ⟨c, hc⟩
  have hFv : ∃ c, FV .f32 v c := by
    obtain ⟨q1, q2⟩ := mul_bound b2 b3 hw.t0 hw.t1 (by decide +kernel)
    obtain ⟨c, hc, _, _⟩ := fmul (B := 8) b1 hw.tv hv q1 q2 (by decide +kernel)
    exact ⟨c, hc⟩
  obtain ⟨c1, hc1⟩ := hFu
  obtain ⟨c2, hc2⟩ := hFv
  obtain ⟨r, hr⟩ := fadd_some hc1 hc2
  have hbl : Bl s t a b r := by
    refine ⟨u, v, ?_, ?_, ?_⟩ <;> unfold FOp
    · rw [hu]
    · rw [hv]
    · rw [hr]
  obtain ⟨c, hc, _, _⟩ := bl_near hw a1 b1 a2 a3 b2 b3 hbl
  exact ⟨u, v, r, hu, hv, hr, (mul_one_word (lt32 (bits_lt hr)) hc).2⟩

/-- A weight and its time, as words. -/
structure WtT (s t : Nat) (τ : Rat) : Prop extends Wt s t τ where
  hs : floatBits .sub .f32 1065353216 t = some s
  s1 : floatBits .mul .f32 1065353216 s = some s
  t1' : floatBits .mul .f32 1065353216 t = some t
  st : floatBits .add .f32 s t = some 1065353216
theorem wt_told {t : Nat} {τ : Rat} (ht : t < 4294967296) (h : FV .f32 t τ) (h0 : 0 ≤ τ) (h1 : τ ≤ 1) : ∃ s, WtT s t τ := by
  obtain ⟨s, hs⟩ := fsub_some fv_one h
  obtain ⟨c, c1, c2, c3⟩ := less_one h h0 h1 hs
  obtain ⟨w, hw⟩ := fadd_some c1 h
  obtain rfl := sum_one h h0 h1 hs hw
  exact ⟨s, ⟨⟨h, h0, h1, c, c1, c2, c3⟩, hs, (mul_one_word (lt32 (bits_lt hs)) c1).1, (mul_one_word ht h).1, hw⟩⟩

set_option maxHeartbeats 1000000 in
theorem scale_told (x1 x2 b r1 r2 : Nat) (h1 : floatBits .mul .f32 x1 b = some r1) (h2 : floatBits .mul .f32 x2 b = some r2) (w : World) :
    Calls Try.prog 67 #[.complex .f32 x1 x2, .float .f32 b] w fun e w' => e = .returned (.complex .f32 r1 r2) ∧ w' = w := by
  have f1 := ta h1
  have f2 := ta h2
  clear h1 h2
  go_enter Try.func67, Try.ntmps67
  go_wp2_with fail
  go_ret
  exact ⟨rfl, rfl⟩

set_option maxHeartbeats 1000000 in
theorem times_told (x1 x2 b r1 r2 : Nat) (h1 : floatBits .mul .f32 x1 b = some r1) (h2 : floatBits .mul .f32 x2 b = some r2) (w : World) :
    Calls Try.prog 115 #[.complex .f32 x1 x2, .float .f32 b] w fun e w' => e = .returned (.complex .f32 r1 r2) ∧ w' = w := by
  have f1 := ta h1
  have f2 := ta h2
  clear h1 h2
  go_enter Try.func115, Try.ntmps115
  go_wp2_with fail
  go_ret
  exact ⟨rfl, rfl⟩

set_option maxRecDepth 100000 in
set_option maxHeartbeats 4000000 in
theorem specBlend_calls {s t : Nat} {τ : Rat} (a1 a2 b1 b2 u1 v1 r1 u2 v2 r2 : Nat) (hw : WtT s t τ) (h1 : BlT s t a1 b1 u1 v1 r1) (h2 : BlT s t a2 b2 u2 v2 r2) (w : World) :
    Calls Try.prog 110 #[.complex .f32 a1 a2, .complex .f32 b1 b2, .float .f32 1065353216, .float .f32 1065353216, .float .f32 t] w fun e w' => e = .returned (.tuple #[.complex .f32 r1 r2, .float .f32 1065353216]) ∧ w' = w := by
  have f1 := ta hw.hs
  have f2 := ta hw.s1
  have f3 := ta hw.t1'
  have f4 := ta hw.st
  have f5 := ta quo_one_one
  have f6 := tc (.inl rfl) h1.hr h2.hr
  have HA := Frame.hid (times_told a1 a2 s u1 u2 h1.hu h2.hu)
  have HB := Frame.hid (times_told b1 b2 t v1 v2 h1.hv h2.hv)
  have HC := Frame.hid (times_told r1 r2 _ _ _ h1.h1 h2.h1)
  clear h1 h2 hw
  go_enter Try.func110, Try.ntmps110
  go_wp2_with fail
  refine (HA.out _).mono ?_
  rintro e w1 ⟨rfl, rfl⟩
  go_wp2_with fail
  refine (HB.out _).mono ?_
  rintro e w1 ⟨rfl, rfl⟩
  go_wp2_with fail
  refine (HC.out _).mono ?_
  rintro e w1 ⟨rfl, rfl⟩
  go_wp2_with fail
  go_ret2
  exact ⟨rfl, rfl⟩

set_option maxRecDepth 100000 in
set_option maxHeartbeats 4000000 in
theorem blend_calls {s t : Nat} {τ : Rat} (a1 a2 b1 b2 u1 v1 r1 u2 v2 r2 : Nat) (hw : WtT s t τ) (h1 : BlT s t a1 b1 u1 v1 r1) (h2 : BlT s t a2 b2 u2 v2 r2) (w : World) :
    Calls Try.prog 112 #[.agg #[.complex .f32 a1 a2, .float .f32 1065353216], .agg #[.complex .f32 b1 b2, .float .f32 1065353216], .float .f32 t] w fun e w' => e = .returned (.agg #[.complex .f32 r1 r2, .float .f32 1065353216]) ∧ Below w.heap.size w w' := by
  have f1 := ta hw.hs
  have f2 := ta hw.s1
  have f3 := ta hw.t1'
  have f4 := ta hw.st
  have f5 := ta quo_one_one
  have f6 := tc (.inl rfl) h1.hr h2.hr
  obtain ⟨p1, p2, _, p3⟩ := h1
  obtain ⟨q1, q2, _, q3⟩ := h2
  clear hw
  go_enter Try.func112, Try.ntmps112
  go_wp2_with fail
  go_quiet (first | (go_at_call 67; refine Calls.quiet_of_same (scale_told _ _ _ _ _ (by assumption) (by assumption) _)))
  go_wp2_with fail
  refine (scale_told _ _ _ _ _ p3 q3 _).mono ?_
  rintro e w1 ⟨rfl, rfl⟩
  go_wp2_with fail
  refine bodyPost_ret (v := .agg #[.complex .f32 r1 r2, .float .f32 1065353216]) ?_ rfl ?_
  · simp [results, Try.results112, go_sem]
  · exact ⟨rfl, ((below_drewN ((((Below.refl _ w).alloc (Nat.le_refl _) _).alloc (by simp) _).alloc (by simp; omega) _) nq).setCell (p := ⟨w.heap.size + 1 + 1, 0, none⟩) (by show w.heap.size ≤ w.heap.size + 1 + 1; omega) _).setCell (p := ⟨w.heap.size + 1 + 1, 1, none⟩) (by show w.heap.size ≤ w.heap.size + 1 + 1; omega) _⟩

/-- The slice of weights reads as ones. -/
def RdOne (w : World) (B : Option Addr) (n : Nat) : Prop := 0 < n → ∃ b off, B = some ⟨b, off, none⟩ ∧ b < w.heap.size ∧ ∀ j, j < n → w.cell? ⟨b, off + j, none⟩ = some (.float .f32 1065353216)
theorem RdOne.below {w w' : World} {B : Option Addr} {n : Nat} (h : RdOne w B n) (hb : Below w.heap.size w w') : RdOne w' B n := fun h0 => by
  obtain ⟨b, off, e, hlt, hc⟩ := h h0
  exact ⟨b, off, e, Nat.lt_of_lt_of_le hlt hb.size, fun j hj => (hb.cell (p := ⟨b, off + j, none⟩) hlt).trans (hc j hj)⟩

set_option maxRecDepth 100000 in
set_option maxHeartbeats 4000000 in
theorem heavyPointOf_calls (A B : Option Addr) (ps : List (Nat × Nat)) (c1 c2 i : Nat) (hi : i < ps.length) (hn : ps.length ≤ 1000) (w : World) (hA : RdC w A ps) (hB : RdOne w B ps.length) :
    Calls Try.prog 111 #[.agg #[.slice A ps.length c1, .slice B ps.length c2], .int .i64 i] w fun e w' => e = .returned (.agg #[.complex .f32 (ps.getD i (0, 0)).1 (ps.getD i (0, 0)).2, .float .f32 1065353216]) ∧ Below w.heap.size w w' := by
  obtain ⟨b, off, rfl, hlt, hc⟩ := hA (by omega)
  obtain ⟨b', off', rfl, hlt', hc'⟩ := hB (by omega)
  have k1 := hc i hi
  have k2 := hc' i hi
  have hi' : (i : Int) < (ps.length : Int) := by omega
  obtain ⟨x, hx⟩ : ∃ x, x = (ps.getD i (0, 0)).1 := ⟨_, rfl⟩
  obtain ⟨y, hy⟩ : ∃ y, y = (ps.getD i (0, 0)).2 := ⟨_, rfl⟩
  unfold cx at k1
  rw [← hx, ← hy] at k1 ⊢
  clear hx hy hc hc' hA hB
  obtain ⟨n, hn'⟩ : ∃ n, n = ps.length := ⟨_, rfl⟩
  rw [← hn'] at hi hi' hn ⊢
  clear hn'
  go_enter Try.func111, Try.ntmps111
  go_wp2_with fail
  obtain ⟨W, hW⟩ : ∃ W, W = (w.alloc (Obj.cells #[Value.slice (some { block := b, off := off }) n c1, Value.slice (some { block := b', off := off' }) n c2] 37)).alloc (Obj.cells #[Value.complex FloatKind.f32 0 0, Value.float FloatKind.f32 0] 104) := ⟨_, rfl⟩
  have d1 : W.cell? ⟨b, off + i, none⟩ = some (.complex .f32 x y) := by
    rw [hW, World.cell?_alloc_past _ _ _ (by simp; omega), World.cell?_alloc_past _ _ _ hlt, k1]
  have d2 : W.cell? ⟨b', off' + i, none⟩ = some (.float .f32 1065353216) := by
    rw [hW, World.cell?_alloc_past _ _ _ (by simp; omega), World.cell?_alloc_past _ _ _ hlt', k2]
  have d3 : W.cell? ⟨w.heap.size, 0, none⟩ = some (.slice (some ⟨b, off, none⟩) n c1) := by
    rw [hW, World.cell?_alloc_past _ _ _ (by simp), World.cell?_alloc_at _ _ _ _ rfl]; rfl
  have d4 : W.cell? ⟨w.heap.size, 1, none⟩ = some (.slice (some ⟨b', off', none⟩) n c2) := by
    rw [hW, World.cell?_alloc_past _ _ _ (by simp), World.cell?_alloc_at _ _ _ _ rfl]; rfl
  have d5 : W.cell? ⟨w.heap.size + 1, 0, none⟩ = some (.complex .f32 0 0) := by
    rw [hW, World.cell?_alloc_at _ _ _ _ (by simp)]; rfl
  have d6 : W.cell? ⟨w.heap.size + 1, 1, none⟩ = some (.float .f32 0) := by
    rw [hW, World.cell?_alloc_at _ _ _ _ (by simp)]; rfl
  have d7 : ∀ j, W.frozen? ⟨w.heap.size + 1, j, none⟩ = false := fun j => by rw [hW]; exact World.frozen?_alloc_at _ _ _ _ (by simp)
  have hB : Below w.heap.size w W := by rw [hW]; exact ((Below.refl _ w).alloc (Nat.le_refl _) _).alloc (by simp) _
  rw [← hW]
  have HB := Frame.hid hB
  clear hW k1 k2 hB
  go_region
  have e1 : (W.setCell ⟨w.heap.size + 1, 0, none⟩ (.complex .f32 x y)).cell? ⟨w.heap.size + 1, 0, none⟩ = some (.complex .f32 x y) := World.cell?_setCell_same _ _ _ (by rw [d5])
  have e3 : (W.setCell ⟨w.heap.size + 1, 0, none⟩ (.complex .f32 x y)).cell? ⟨w.heap.size + 1, 1, none⟩ = some (.float .f32 0) := by rw [World.cell?_setCell_other _ _ _ _ (by simp), d6]
  have e2 : ((W.setCell ⟨w.heap.size + 1, 0, none⟩ (.complex .f32 x y)).setCell ⟨w.heap.size + 1, 1, none⟩ (.float .f32 1065353216)).drew.cell? ⟨w.heap.size + 1, 1, none⟩ = some (.float .f32 1065353216) := World.cell?_setCell_same _ _ _ (by rw [e3])
  go_wp2_with fail
  refine bodyPost_ret (v := .agg #[.complex .f32 x y, .float .f32 1065353216]) ?_ rfl ?_
  · simp [results, Try.results111, go_sem, e1, e2]
  · exact ⟨rfl, (below_drewN ((HB.out.setCell (p := ⟨w.heap.size + 1, 0, none⟩) (by show w.heap.size ≤ w.heap.size + 1; omega) _).setCell (p := ⟨w.heap.size + 1, 1, none⟩) (by show w.heap.size ≤ w.heap.size + 1; omega) _) 1)⟩

end Go.Proofs.Ytbdmmpkphiilkaa
