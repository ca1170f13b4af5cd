/-
  What lists of spots are cut to: the program's side.
-/
import Derived.Test.YtnhpiebddelebaaH9
namespace Go.Proofs.Ytnhpiebddelebaa
open Go.RowKit Fl Go.WideShapes Go.Deep
attribute [local go_sem] kstore_f kalloc_drewN kset_drewN hstore_i hstore_s

set_option maxRecDepth 100000 in
set_option maxHeartbeats 4000000 in
theorem cutOf_calls (A : Option Addr) (xs : List (Nat × Nat × Nat)) (n c t : Nat) (hxn : n = xs.length) (hn : 1 ≤ n ∧ n ≤ 36) (w : World) (hr : RdS w A xs) :
    Calls Try.prog 110 #[.slice A n c, .float .f32 t] w fun e w' => ∃ ys, e = .returned (.agg #[.float .f32 (sx ys 0), .float .f32 (sy ys 0), .float .f32 (sz ys 0)]) ∧ CutR t (n - 1) xs ys ∧ Below w.heap.size w w' := by
  have HC := Frame.hid (stepsOf_calls A xs n c t hxn hn)
  have HR := Frame.hid hr
  clear hxn hr
  go_enter Try.func110, Try.ntmps110
  have hw : Below w.heap.size w (w.alloc (.cells #[.float .f32 0, .float .f32 0, .float .f32 0] 57)) := (Below.refl _ _).alloc (Nat.le_refl _) _
  go_wp2_with fail
  refine (HC.out _ (HR.out.below hw)).mono ?_
  rintro e w2 ⟨v, rfl, vs, hvl, hO, hst, hB⟩
  obtain ⟨m, hm⟩ : ∃ m, n = m + 1 := ⟨n - 1, by omega⟩
  subst hm
  obtain ⟨A2, c2, ys, e2, hyl, hC, hR2, -⟩ := hst m (by omega)
  rw [show m + 1 - m = 1 by omega] at e2 hyl
  obtain ⟨g, cap, rfl, hcell⟩ : ∃ g cap, v = .slice (some ⟨g, 0, none⟩) (m + 1) cap ∧ w2.cell? ⟨g, m, none⟩ = some (.slice A2 1 c2) := by
    rcases hO.2 with ⟨_, h0⟩ | ⟨g, cap, cur, rfl, hg, hh, _⟩
    · omega
    · refine ⟨g, cap, rfl, ?_⟩
      have h := World.ownsRow.cellAt hO m (by omega)
      rw [h, ← e2, List.getD_eq_getElem?_getD, List.getElem?_eq_getElem (by omega)]
      rfl
  obtain ⟨b2, o2, rfl, hb2, hc2⟩ := hR2.h (by omega)
  obtain ⟨y0, y1, y2⟩ := hc2 0 (by omega)
  simp only [Nat.zero_mul, Nat.add_zero] at y0 y1 y2
  have HCU := Frame.hid hC
  obtain ⟨x, hx⟩ : ∃ x, x = sx ys 0 := ⟨_, rfl⟩
  obtain ⟨y, hy⟩ : ∃ y, y = sy ys 0 := ⟨_, rfl⟩
  obtain ⟨z, hz⟩ : ∃ z, z = sz ys 0 := ⟨_, rfl⟩
  rw [← hx] at y0
  rw [← hy] at y1
  rw [← hz] at y2
  have HXYZ := Frame.hid (And.intro hx (And.intro hy hz))
  have hB02 : Below (w.heap.size + 1) (w.alloc (.cells #[.float .f32 0, .float .f32 0, .float .f32 0] 57)) w2 := by simpa using hB
  have HW2 := Frame.hid (hw.trans (hB02.mono (by omega)))
  have k0 : w2.cell? ⟨w.heap.size, 0, none⟩ = some (.float .f32 0) := (hB02.cell (p := ⟨w.heap.size, 0, none⟩) (by simp)).trans (by simp [go_sem])
  have k1 : w2.cell? ⟨w.heap.size, 1, none⟩ = some (.float .f32 0) := (hB02.cell (p := ⟨w.heap.size, 1, none⟩) (by simp)).trans (by simp [go_sem])
  have k2 : w2.cell? ⟨w.heap.size, 2, none⟩ = some (.float .f32 0) := (hB02.cell (p := ⟨w.heap.size, 2, none⟩) (by simp)).trans (by simp [go_sem])
  have kf : ∀ i, w2.frozen? ⟨w.heap.size, i, none⟩ = false := fun i => (hB02.frozen (p := ⟨w.heap.size, i, none⟩) (by simp)).trans (by simp [go_sem])
  have kl : w.heap.size < w2.heap.size := by have := hB02.size; simp at this; omega
  obtain ⟨e0, e1, e3⟩ := set3_read (w := w2) (v0 := .float .f32 x) (v1 := .float .f32 y) (v2 := .float .f32 z) k0 k1 k2
  clear hyl hC hR2 hB hc2 hx hy hz hB02 hw hst hO hvl e2
  go_wp2_with fail
  obtain ⟨hx, hy, hz⟩ := HXYZ.out
  refine bodyPost_ret (v := .agg #[.float .f32 x, .float .f32 y, .float .f32 z]) (by simp [results, Try.results110, go_sem, e0, e1, e3]) rfl ⟨ys, by rw [hx, hy, hz], by simpa using HCU.out, ?_⟩
  exact ((HW2.out.setCell (p := ⟨w.heap.size, 0, none⟩) (Nat.le_refl _) _).setCell (p := ⟨w.heap.size, 1, none⟩) (Nat.le_refl _) _).setCell (p := ⟨w.heap.size, 2, none⟩) (Nat.le_refl _) _

set_option maxRecDepth 100000 in
set_option maxHeartbeats 4000000 in
theorem cutsOfRows_calls (bk off n p q t : Nat) (xs : List (Nat × Nat × Nat)) (hp : 2 ≤ p ∧ p ≤ 6) (hq : 2 ≤ q ∧ q ≤ 6) (hn : n = xs.length) (hl : n = p * q) (w : World) (hA : RdS w (some ⟨bk, off, none⟩) xs) :
    Calls Try.prog 111 #[.int .i64 q, .func (.func 52) #[.agg #[.int .i64 p, .int .i64 q, .slice (some ⟨bk, off, none⟩) n n]] #[], .float .f32 t] w fun e w' => ∃ g zs, e = .returned (.slice (some ⟨g, 0, none⟩) q q) ∧ zs.length = q ∧ RowsL p t xs zs ∧ RdS w' (some ⟨g, 0, none⟩) zs ∧ Below w.heap.size w w' := by
  obtain ⟨i0, hi, hz0, hz1, hz2⟩ := info_parts infoSpot
  have hcl := fun j (hj : j < q) W (h : Below w.heap.size w W) => row_calls bk off n p q j xs hp hq hn hl hj W (hA.below h)
  have HCL := Frame.hid hcl
  clear hcl hn hl hA
  go_enter Try.func111, Try.ntmps111
  go_wp2_with (at_make; refine wpList_make_full _ rfl _ _ 26 rfl w.heap.size 57 i0 (.agg #[.float .f32 0, .float .f32 0, .float .f32 0]) 3 Try.underlying26 hi hz0 hz1 _ _ _ _ q rfl rfl rfl rfl ?c1 ?c2 ?c3 ?_)
  case c1 => rw [hz2]; omega
  case c2 => unfold maxLen; omega
  case c3 => simp
  intro w1 hown hgrow
  obtain ⟨g, hg⟩ : ∃ g, g = w.heap.size := ⟨_, rfl⟩
  have hblk : CopyS w g q [] 0 w1 := by
    rcases hown.2 with ⟨h0, _⟩ | ⟨g', cap, cur, hv, _, hh, _, _, hsz, _⟩
    · cases h0
    · cases hv
      exact ⟨⟨cur, by rw [hg]; exact hh, by simpa using hsz, fun j hj => absurd hj (by omega)⟩, (Below.refl _ _).grown hgrow (Nat.le_refl _) (by simp)⟩
  rw [← hg]
  have HGE := Frame.hid hg
  have HBK := Frame.hid hblk
  clear hown hgrow hg hblk
  go_wp2_with fail
  go_loopw [12] (fun jv wr => ∃ j zs, j ≤ q ∧ jv = .int .i64 (j : Nat) ∧ zs.length = j ∧ RowsL p t xs zs ∧ CopyS w g q zs j wr) (fun jv _ => q - (intOf jv).toNat)
  case atStart => exact ⟨0, [], Nat.zero_le _, rfl, rfl, RowsL.nil, HBK.out⟩
  case round =>
    obtain ⟨j, zs, hj, rfl, hzj, hZL, hCP⟩ := hrel
    have HZL := Frame.hid hZL
    have HZJ := Frame.hid hzj
    have HCP := Frame.hid hCP
    clear hZL hzj hCP
    by_cases hlt : j < q
    · go_wp2_with fail
      refine (HCL.out j hlt wr HCP.out.l).mono ?_
      rintro e w2 ⟨v, rfl, hO, hB⟩
      obtain ⟨A2, c2, rfl, hR2⟩ := hO.rd
      rw [partL_len]
      have HR2 := Frame.hid hR2
      have HC2 := Frame.hid (HCP.out.go hB)
      clear hO hR2 hB
      go_wp2_with fail
      refine (cutOf_calls A2 (partL xs (fun i => j * p + i) p) p c2 t (partL_len _ _ _).symm (by omega) w2 HR2.out).mono ?_
      rintro e w3 ⟨ys, rfl, hC, hB3⟩
      have hC3 := HC2.out.go hB3
      obtain ⟨⟨u0, k0⟩, ⟨u1, k1⟩, ⟨u2, k2⟩, kf, kl⟩ := hC3.here hlt
      have HC3 := Frame.hid hC3
      have HCU := Frame.hid hC
      obtain ⟨x, hx⟩ : ∃ x, x = sx ys 0 := ⟨_, rfl⟩
      obtain ⟨y, hy⟩ : ∃ y, y = sy ys 0 := ⟨_, rfl⟩
      obtain ⟨z, hz⟩ : ∃ z, z = sz ys 0 := ⟨_, rfl⟩
      rw [← hx, ← hy, ← hz]
      have HXYZ := Frame.hid (And.intro hx (And.intro hy hz))
      clear hC3 hC hB3 hx hy hz
      go_wp2_with fail
      go_roundw
      case rel =>
        have hz := HZJ.out
        obtain ⟨rfl, rfl, rfl⟩ := HXYZ.out
        have hsn := (HZL.out).snoc (ys := ys) (by rw [hz]; exact HCU.out)
        exact ⟨j + 1, _, by omega, by go_num, by rw [List.length_append, hz]; rfl, hsn, HC3.out.snoc (by rw [HGE.out]; exact Nat.le_refl _) hlt hz _ _ _⟩
      case measure => simp [intOf]; omega
    · have hjq : j = q := by omega
      subst hjq
      have HRZ := Frame.hid (CopyS.done (by rw [HZJ.out]; exact HCP.out))
      have HL := Frame.hid HCP.out.l
      go_wp2_with fail
      go_ret
      exact ⟨g, zs, rfl, HZJ.out, HZL.out, HRZ.out, HL.out⟩

end Go.Proofs.Ytnhpiebddelebaa
