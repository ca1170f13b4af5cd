/-
  The point of a plain curve at a time, as the program makes it.
-/
import Derived.Test.YtbdmmpkphiilkaaEr
namespace Go.Proofs.Ytbdmmpkphiilkaa
open Go.RowKit Fl Ieee
attribute [local go_sem] run_store_c run_store_f

theorem fv_zero : FV .f32 0 0 := ⟨false, 0, -149, by decide +kernel, by decide +kernel⟩
theorem share_yes {s t : Nat} {τ : Rat} (hw : Wt s t τ) : isShareB t = true := by
  have h1 := ford hw.tv fv_zero
  have h2 := ford hw.tv fv_one
  have h0 := hw.t0
  have h3 := hw.t1
  unfold isShareB
  rw [h1, h2]
  have c1 : ¬ τ < 0 := by grind
  rw [if_neg c1]
  by_cases c2 : τ = 0
  · rw [if_pos c2]
    have c3 : τ < 1 := by grind
    rw [if_pos c3]
    decide
  · rw [if_neg c2]
    by_cases c3 : τ < 1
    · rw [if_pos c3]
      decide
    · have c4 : τ = 1 := by grind
      rw [if_neg c3, if_pos c4]
      decide

theorem All8.inB {ps : List (Nat × Nat)} (h : All8 0 ps) : InB (-7.9) 7.9 (ps.map Prod.fst) ∧ InB (-7.9) 7.9 (ps.map Prod.snd) := by
  have e : ((0 : Nat) : Rat) = 0 := rfl
  constructor <;> intro i hi
  · obtain ⟨⟨_, q, q1, q2, q3⟩, _⟩ := h i (by simpa using hi)
    rw [e] at q2 q3
    rw [getD_fst]
    exact ⟨q, q1, by grind, by grind⟩
  · obtain ⟨_, ⟨_, q, q1, q2, q3⟩⟩ := h i (by simpa using hi)
    rw [e] at q2 q3
    rw [getD_snd]
    exact ⟨q, q1, by grind, by grind⟩
theorem CutP.fin {s t : Nat} {τ : Rat} (hw : Wt s t τ) {ps : List (Nat × Nat)} {x y : Nat} (h2 : 2 ≤ ps.length) (hn : ps.length ≤ 8) (h8 : All8 0 ps) (h : CutP s t ps (x, y)) : fin .f32 x = true ∧ fin .f32 y = true := by
  obtain ⟨n, hn'⟩ : ∃ n, ps.length = n + 1 := ⟨ps.length - 1, by omega⟩
  have hr : (n : Rat) ≤ 7 := Rat.natCast_le_natCast.2 (show n ≤ 7 by omega)
  obtain ⟨b1, b2⟩ := h8.inB
  obtain ⟨c, c1, _⟩ := h.fst.inB hw n (by simpa using hn') (by grind) (by grind) b1
  obtain ⟨d, d1, _⟩ := h.snd.inB hw n (by simpa using hn') (by grind) (by grind) b2
  exact ⟨fv_fin c1, fv_fin d1⟩

set_option maxHeartbeats 1000000 in
theorem pointIfFinite_calls (x y : Nat) (hx : fin .f32 x = true) (hy : fin .f32 y = true) (w : World) :
    Calls Try.prog 66 #[.complex .f32 x y] w fun e w' => e = .returned (.tuple #[.complex .f32 x y, .bool true]) ∧ ∃ n, w' = w.drewN n := by
  go_enter Try.func66, Try.ntmps66
  go_wp2_with fail
  refine (finC_calls _ _ hx hy _).mono ?_
  rintro e w1 ⟨rfl, n1, rfl⟩
  go_wp2_with fail
  go_ret2
  exact ⟨rfl, _, rfl⟩

set_option maxRecDepth 100000 in
set_option maxHeartbeats 4000000 in
theorem curveAt_calls (A B : Option Addr) (ps : List (Nat × Nat)) (c1 c2 s t : Nat) (τ : Rat) (hw : WtT s t τ) (h2 : 2 ≤ ps.length) (hn : ps.length ≤ 8) (h8 : All8 0 ps) (w : World) (hA : RdC w A ps) (hB : RdOne w B ps.length) :
    Calls Try.prog 53 #[.agg #[.slice A ps.length c1, .slice B ps.length c2], .float .f32 t] w fun e w' => ∃ x y, e = .returned (.tuple #[.complex .f32 x y, .bool true]) ∧ CutP s t ps (x, y) ∧ x < 4294967296 ∧ y < 4294967296 ∧ Below w.heap.size w w' := by
  have hmf : ∀ (fn : Fn) (first cap : Array Value) (w : World), (Instr.makeFunc fn first cap).run Try.prog w = .ok (.func fn first cap) w := fun _ _ _ _ => rfl
  have HW := Frame.hid hw
  have H8 := Frame.hid h8
  have HA := Frame.hid hA
  have HB := Frame.hid hB
  clear hw h8 hA hB
  go_enter Try.func53, Try.ntmps53
  obtain ⟨W, hW⟩ : ∃ W, W = w.alloc (Obj.cells #[.slice A ps.length c1, .slice B ps.length c2] 37) := ⟨_, rfl⟩
  have hBW : Below w.heap.size w W := by rw [hW]; exact (Below.refl _ w).alloc (Nat.le_refl _) _
  have d1 : W.cell? ⟨w.heap.size, 0, none⟩ = some (.slice A ps.length c1) := by rw [hW, World.cell?_alloc_at _ _ _ _ rfl]; rfl
  have d2 : W.cell? ⟨w.heap.size, 1, none⟩ = some (.slice B ps.length c2) := by rw [hW, World.cell?_alloc_at _ _ _ _ rfl]; rfl
  have hsz : w.heap.size < W.heap.size := by rw [hW]; simp
  have HBW := Frame.hid hBW
  clear hBW
  go_wp2_with fail
  rw [← hW]
  clear hW
  refine (validCurve_calls A B ps c1 c2 h2 hn H8.out.fin W (HA.out.below HBW.out) (HB.out.below HBW.out)).mono ?_
  rintro e w1 ⟨rfl, hb⟩
  have e1 : w1.cell? ⟨w.heap.size, 0, none⟩ = some (.slice A ps.length c1) := (World.cell?_of_block (hb.block _ hsz)).trans d1
  have e2 : w1.cell? ⟨w.heap.size, 1, none⟩ = some (.slice B ps.length c2) := (World.cell?_of_block (hb.block _ hsz)).trans d2
  have hsz1 : w.heap.size < w1.heap.size := Nat.lt_of_lt_of_le hsz hb.size
  have HB1 : Hid (Below w.heap.size w w1) := Frame.hid (HBW.out.trans (hb.mono HBW.out.size))
  clear hb d1 d2 hsz
  go_wp2_with fail
  refine (isShare_calls _ _).mono ?_
  rintro e w2 ⟨rfl, rfl⟩
  rw [share_yes HW.out.toWt]
  have hx1 : (w1.alloc (.cells #[.complex .f32 0 0] 26)).cell? ⟨w1.heap.size, 0, none⟩ = some (.complex .f32 0 0) := by rw [World.cell?_alloc_at _ _ _ _ rfl]; rfl
  have hx2 : (w1.alloc (.cells #[.complex .f32 0 0] 26)).frozen? ⟨w1.heap.size, 0, none⟩ = false := World.frozen?_alloc_at _ _ _ _ rfl
  have HER := Frame.hid (eachRow_calls w A B ps c1 c2 s t τ HW.out h2 hn H8.out HA.out HB.out w1.heap.size (w1.alloc (.cells #[.complex .f32 0 0] 26)) (HB1.out.alloc HB1.out.size _) HB1.out.size (by simp) 0 0 hx1 hx2)
  clear hx1 hx2
  go_wp2_with fail
  refine HER.out.mono ?_
  rintro e w2 ⟨x, y, rfl, hcut, hxl, hyl, hc, hb⟩
  have HC := Frame.hid hcut
  have HF := Frame.hid (hcut.fin HW.out.toWt h2 hn H8.out)
  have HX : Unit → x < 4294967296 := fun _ => hxl
  have HY : Unit → y < 4294967296 := fun _ => hyl
  have HB2 := Frame.hid hb
  clear hcut hxl hyl hb HER e1 e2
  go_wp2_with fail
  refine (pointIfFinite_calls x y HF.out.1 HF.out.2 _).mono ?_
  rintro e w3 ⟨rfl, n, rfl⟩
  go_wp2_with fail
  go_ret2
  exact ⟨x, y, rfl, HC.out, HX (), HY (), below_drewN HB2.out _⟩

end Go.Proofs.Ytbdmmpkphiilkaa
