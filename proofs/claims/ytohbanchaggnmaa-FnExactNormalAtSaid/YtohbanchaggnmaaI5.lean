/-
  The slopes of lists of spots: the program's side.
-/
import Derived.Test.YtohbanchaggnmaaI1
import Derived.Test.YtohbanchaggnmaaG1
import Derived.Test.YtohbanchaggnmaaH3
namespace Go.Proofs.Ytohbanchaggnmaa
open Go.RowKit Fl Go.WideShapes Go.Deep
attribute [local go_sem] kstore_f kalloc_drewN kset_drewN hstore_i hstore_s

/-- The slope where n spots are cut. -/
def SlopeR (t n : Nat) (zs : List (Nat × Nat × Nat)) (a b c : Nat) : Prop := ∃ ys d e f, CutR t (n - 2) zs ys ∧ LessR (sx ys 1) (sy ys 1) (sz ys 1) (sx ys 0) (sy ys 0) (sz ys 0) d e f ∧ TimesR d e f (floatOfInt .f32 ((n : Int) - 1)) a b c
theorem SlopeR.same {t n a b c a' b' c' : Nat} {zs zs' : List (Nat × Nat × Nat)} (hn : 2 ≤ n) (hz : zs.length = n) (hS : LS zs zs') (h : SlopeR t n zs a b c) (g : SlopeR t n zs' a' b' c') : S3 a b c a' b' c' := by
  obtain ⟨ys, d, e, f, h1, h2, h3⟩ := h
  obtain ⟨ys', d', e', f', g1, g2, g3⟩ := g
  have hC := CutR.same (FSame.refl _ _) hS h1 g1
  have hl : ys.length = 2 := by rw [h1.len]; omega
  exact TimesR.same (LessR.same (hC.2 1 (by omega)) (hC.2 0 (by omega)) h2 g2) (FSame.refl _ _) h3 g3

set_option maxRecDepth 100000 in
set_option maxHeartbeats 4000000 in
theorem slopeOf_calls (A : Option Addr) (xs : List (Nat × Nat × Nat)) (n c t : Nat) (hxn : n = xs.length) (hn : 2 ≤ n ∧ n ≤ 36) (w : World) (hr : RdS w A xs) :
    Calls Try.prog 62 #[.slice A n c, .float .f32 t] w fun e w' => ∃ a b c, e = .returned (.agg #[.float .f32 a, .float .f32 b, .float .f32 c]) ∧ SlopeR t n xs a b c ∧ Below w.heap.size w w' := by
  have HC := Frame.hid (stepsOf_calls A xs n c t hxn (by omega))
  have HR := Frame.hid hr
  clear hxn hr
  have hw : Below w.heap.size w (w.alloc (.cells #[.float .f32 0, .float .f32 0, .float .f32 0] 28)) := (Below.refl _ _).alloc (Nat.le_refl _) _
  go_enter Try.func62, Try.ntmps62
  go_wp2_with fail
  refine (HC.out _ (HR.out.below hw)).mono ?_
  rintro e w2 ⟨v, rfl, vs, hvl, hO, hst, hB⟩
  obtain ⟨m, hm⟩ : ∃ m, n = m + 2 := ⟨n - 2, by omega⟩
  subst hm
  obtain ⟨A2, c2, ys, e2, hyl, hC, hR2, -⟩ := hst m (by omega)
  rw [show m + 2 - m = 2 by omega] at e2 hyl
  obtain ⟨g, cap, rfl, hcell⟩ : ∃ g cap, v = .slice (some ⟨g, 0, none⟩) (m + 2) cap ∧ w2.cell? ⟨g, m, none⟩ = some (.slice A2 2 c2) := by
    rcases hO.2 with ⟨_, h0⟩ | ⟨g, cap, cur, rfl, hg, hh, _⟩
    · omega
    · refine ⟨g, cap, rfl, ?_⟩
      have h := World.ownsRow.cellAt hO m (by omega)
      rw [h, ← e2, List.getD_eq_getElem?_getD, List.getElem?_eq_getElem (by omega)]
      rfl
  obtain ⟨b2, o2, rfl, hb2, hc2⟩ := hR2.h (by omega)
  have h3 := hc2 0 (by omega)
  have h4 := hc2 1 (by omega)
  simp only [Nat.zero_mul, Nat.one_mul, Nat.add_zero] at h3 h4
  have hgo : ∀ a b c, (∃ d e f, LessR (sx ys 1) (sy ys 1) (sz ys 1) (sx ys 0) (sy ys 0) (sz ys 0) d e f ∧ TimesR d e f (floatOfInt .f32 (((m + 2 : Nat) : Int) - 1)) a b c) → SlopeR t (m + 2) xs a b c := fun a b c ⟨d, e, f, h1, h2⟩ => ⟨ys, d, e, f, hC, h1, h2⟩
  obtain ⟨x, hx⟩ : ∃ x, x = sx ys 0 := ⟨_, rfl⟩
  obtain ⟨y, hy⟩ : ∃ y, y = sy ys 0 := ⟨_, rfl⟩
  obtain ⟨z, hz⟩ : ∃ z, z = sz ys 0 := ⟨_, rfl⟩
  obtain ⟨x', hx'⟩ : ∃ x, x = sx ys 1 := ⟨_, rfl⟩
  obtain ⟨y', hy'⟩ : ∃ y, y = sy ys 1 := ⟨_, rfl⟩
  obtain ⟨z', hz'⟩ : ∃ z, z = sz ys 1 := ⟨_, rfl⟩
  rw [← hx, ← hy, ← hz] at h3
  rw [← hx', ← hy', ← hz'] at h4
  rw [← hx, ← hy, ← hz, ← hx', ← hy', ← hz'] at hgo
  have hk6 : ∀ W, Below w2.heap.size w2 W → (W.cell? ⟨b2, o2, none⟩ = some (.float .f32 x) ∧ W.cell? ⟨b2, o2 + 1, none⟩ = some (.float .f32 y) ∧ W.cell? ⟨b2, o2 + 2, none⟩ = some (.float .f32 z) ∧ W.cell? ⟨b2, o2 + 3, none⟩ = some (.float .f32 x') ∧ W.cell? ⟨b2, o2 + 3 + 1, none⟩ = some (.float .f32 y') ∧ W.cell? ⟨b2, o2 + 3 + 2, none⟩ = some (.float .f32 z')) := fun W h => ⟨(h3.keep h hb2).c0, (h3.keep h hb2).c1, (h3.keep h hb2).c2, (h4.keep h hb2).c0, (h4.keep h hb2).c1, (h4.keep h hb2).c2⟩
  have HG := Frame.hid hgo
  have hB02 : Below (w.heap.size + 1) (w.alloc (.cells #[.float .f32 0, .float .f32 0, .float .f32 0] 28)) w2 := by simpa using hB
  have HW2 := Frame.hid (hw.trans (hB02.mono (by omega)))
  have k0 : w2.cell? ⟨w.heap.size, 0, none⟩ = some (.float .f32 0) := (hB02.cell (p := ⟨w.heap.size, 0, none⟩) (by simp)).trans (by simp [go_sem])
  have k1 : w2.cell? ⟨w.heap.size, 1, none⟩ = some (.float .f32 0) := (hB02.cell (p := ⟨w.heap.size, 1, none⟩) (by simp)).trans (by simp [go_sem])
  have k2 : w2.cell? ⟨w.heap.size, 2, none⟩ = some (.float .f32 0) := (hB02.cell (p := ⟨w.heap.size, 2, none⟩) (by simp)).trans (by simp [go_sem])
  have kf : ∀ i, w2.frozen? ⟨w.heap.size, i, none⟩ = false := fun i => (hB02.frozen (p := ⟨w.heap.size, i, none⟩) (by simp)).trans (by simp [go_sem])
  have kl : w.heap.size < w2.heap.size := by have := hB02.size; simp at this; omega
  have hkw : IntKind.i64.wrap (((m + 2 : Nat) : Int) - 1) = ((m + 2 : Nat) : Int) - 1 := by rw [IntKind.wrap_i64]; omega
  have hkm : IntKind.i64.wrap (((m + 2 : Nat) : Int) - 2) = (m : Int) := by rw [IntKind.wrap_i64]; omega
  have hm1 : (m : Int) < (m : Int) + 2 := by omega
  have hm2 : m < m + 2 := by omega
  clear hyl hC hR2 hB hc2 hx hy hz hx' hy' hz' hB02 hst hO hvl e2 h3 h4 hgo
  go_wp2_with fail
  have hS0 : Below w2.heap.size w2 w2.drew := (Below.refl _ _).drew
  refine region_hand 12 (fun W => Below w2.heap.size w2 W) (by kernel_rfl) ?_
  refine' wpEnd_take 0 rfl (by kernel_rfl) hS0 (Or.inl ⟨by rfl, fun wq hSq => _⟩) _
  rotate_left
  · (obtain ⟨q0, q1, q2, q3, q4, q5⟩ := hk6 _ hSq; go_simp; (try with_reducible rfl))
  simp only [Act.put, List.setIfInBounds_toArray, List.set_cons_zero, List.set_cons_succ]
  refine' wpEnd_take 1 rfl (by kernel_rfl) hS0 (Or.inl ⟨by rfl, fun wq hSq => _⟩) _
  rotate_left
  · (obtain ⟨q0, q1, q2, q3, q4, q5⟩ := hk6 _ hSq; go_simp; (try with_reducible rfl))
  simp only [Act.put, List.setIfInBounds_toArray, List.set_cons_zero, List.set_cons_succ]
  refine' wpEnd_take 2 rfl (by kernel_rfl) hS0 (Or.inl ⟨by rfl, fun wq hSq => _⟩) _
  rotate_left
  · (obtain ⟨q0, q1, q2, q3, q4, q5⟩ := hk6 _ hSq; go_simp; (try with_reducible rfl))
  simp only [Act.put, List.setIfInBounds_toArray, List.set_cons_zero, List.set_cons_succ]
  refine' wpEnd_take 3 rfl (by kernel_rfl) hS0 (Or.inl ⟨by rfl, fun wq hSq => _⟩) _
  rotate_left
  · (obtain ⟨q0, q1, q2, q3, q4, q5⟩ := hk6 _ hSq; go_simp; (try with_reducible rfl))
  simp only [Act.put, List.setIfInBounds_toArray, List.set_cons_zero, List.set_cons_succ]
  refine' wpEnd_take 4 rfl (by kernel_rfl) hS0 (Or.inl ⟨by rfl, fun wq hSq => _⟩) _
  rotate_left
  · (obtain ⟨q0, q1, q2, q3, q4, q5⟩ := hk6 _ hSq; go_simp; (try with_reducible rfl))
  simp only [Act.put, List.setIfInBounds_toArray, List.set_cons_zero, List.set_cons_succ]
  refine' wpEnd_take 5 rfl (by kernel_rfl) hS0 (Or.inl ⟨by rfl, fun wq hSq => _⟩) _
  rotate_left
  · (obtain ⟨q0, q1, q2, q3, q4, q5⟩ := hk6 _ hSq; go_simp; (try with_reducible rfl))
  simp only [Act.put, List.setIfInBounds_toArray, List.set_cons_zero, List.set_cons_succ]
  refine' wpEnd_take 7 rfl (by kernel_rfl) hS0 (Or.inl ⟨by rfl, fun wq hSq => _⟩) _
  rotate_left
  · (obtain ⟨q0, q1, q2, q3, q4, q5⟩ := hk6 _ hSq; go_simp; (try with_reducible rfl))
  simp only [Act.put, List.setIfInBounds_toArray, List.set_cons_zero, List.set_cons_succ]
  refine' wpEnd_take 8 rfl (by kernel_rfl) hS0 (Or.inl ⟨by rfl, fun wq hSq => _⟩) _
  rotate_left
  · (obtain ⟨q0, q1, q2, q3, q4, q5⟩ := hk6 _ hSq; go_simp; (try with_reducible rfl))
  simp only [Act.put, List.setIfInBounds_toArray, List.set_cons_zero, List.set_cons_succ]
  refine' wpEnd_take 9 rfl (by kernel_rfl) hS0 (Or.inl ⟨by rfl, fun wq hSq => _⟩) _
  rotate_left
  · (obtain ⟨q0, q1, q2, q3, q4, q5⟩ := hk6 _ hSq; go_simp; (try with_reducible rfl))
  simp only [Act.put, List.setIfInBounds_toArray, List.set_cons_zero, List.set_cons_succ]
  refine' wpEnd_take 10 rfl (by kernel_rfl) hS0 (Or.inl ⟨by rfl, fun wq hSq => _⟩) _
  rotate_left
  · (obtain ⟨q0, q1, q2, q3, q4, q5⟩ := hk6 _ hSq; go_simp; (try with_reducible rfl))
  simp only [Act.put, List.setIfInBounds_toArray, List.set_cons_zero, List.set_cons_succ]
  refine wpEnd_ready [6] (by kernel_rfl) rfl (AllE.cons rfl (fun K hK => ?_) AllE.nil)
  go_simp
  go_at_call 132
  refine (less_calls _ _ _ _ _ _ _).mono ?_
  rintro e w3 ⟨d, f, h, rfl, hL, hB3⟩
  have HL := Frame.hid hL
  have hW3 : Below w2.heap.size w2 w3 := hS0.trans (hB3.mono hS0.size)
  clear hL hB3
  refine hK.out _ _ (.inr hW3) ?_
  clear hK K
  (try simp only [Act.put, List.setIfInBounds_toArray, List.set_cons_zero, List.set_cons_succ])
  refine wpEnd_ready [11] (by kernel_rfl) rfl (AllE.cons rfl (fun K hK => ?_) AllE.nil)
  go_simp
  go_at_call 133
  refine (times_calls _ _ _ _ _).mono ?_
  rintro e w4 ⟨a, b, c, rfl, hT, hB4⟩
  have hwr : IntKind.i64.wrap ((m : Int) + 2 - 1) = ((m + 2 : Nat) : Int) - 1 := by rw [IntKind.wrap_i64]; push_cast; omega
  rw [hwr] at hT
  have HT := Frame.hid hT
  have hW4 : Below w2.heap.size w2 w4 := hW3.trans (hB4.mono hW3.size)
  clear hT hB4
  refine hK.out _ _ (.inr hW4) ?_
  clear hK K
  (try simp only [Act.put, List.setIfInBounds_toArray, List.set_cons_zero, List.set_cons_succ])
  have l0 := (hW4.cell (p := ⟨w.heap.size, 0, none⟩) kl).trans k0
  have l1 := (hW4.cell (p := ⟨w.heap.size, 1, none⟩) kl).trans k1
  have l2 := (hW4.cell (p := ⟨w.heap.size, 2, none⟩) kl).trans k2
  have lf : ∀ i, w4.frozen? ⟨w.heap.size, i, none⟩ = false := fun i => (hW4.frozen (p := ⟨w.heap.size, i, none⟩) kl).trans (kf i)
  have HW4 := Frame.hid (HW2.out.trans (hW4.mono HW2.out.size))
  obtain ⟨e0, e1, e3⟩ := set3_read (w := w4) (v0 := .float .f32 a) (v1 := .float .f32 b) (v2 := .float .f32 c) l0 l1 l2
  refine wpEnd_ready [12] (by kernel_rfl) rfl (AllE.cons rfl (fun K hK => ?_) AllE.nil)
  go_simp
  refine hK.out _ _ (.inl rfl) ?_
  clear hK K
  refine wpEnd_done (by kernel_rfl) ?_
  go_wp2_with fail
  refine bodyPost_ret (v := .agg #[.float .f32 a, .float .f32 b, .float .f32 c]) (by simp [results, Try.results62, go_sem, e0, e1, e3]) rfl ⟨_, _, _, rfl, HG.out _ _ _ ⟨_, _, _, HL.out, HT.out⟩, ?_⟩
  exact ((HW4.out.setCell (p := ⟨w.heap.size, 0, none⟩) (Nat.le_refl _) _).setCell (p := ⟨w.heap.size, 1, none⟩) (Nat.le_refl _) _).setCell (p := ⟨w.heap.size, 2, none⟩) (Nat.le_refl _) _

theorem flip_column {p q j : Nat} {xs : List (Nat × Nat × Nat)} (hj : j < p) : partL (flipL p q xs) (fun k => j * q + k) q = partL xs (fun k => k * p + j) q := by
  rw [flipL_part, partL_part xs _ (fun k => j * q + k) (p * q) q (fun i hi => by
    have : (j + 1) * q ≤ p * q := Nat.mul_le_mul_right q hj
    rw [Nat.succ_mul] at this
    omega)]
  exact partL_congr xs (fun i hi => flip_place hi)

set_option maxRecDepth 100000 in
set_option maxHeartbeats 4000000 in
theorem cutsOfColumns_calls (bk off n p q t : Nat) (xs : List (Nat × Nat × Nat)) (hp : 2 ≤ p ∧ p ≤ 6) (hq : 2 ≤ q ∧ q ≤ 6) (hn : n = xs.length) (hl : n = p * q) (w : World) (hA : RdS w (some ⟨bk, off, none⟩) xs) :
    Calls Try.prog 63 #[.int .i64 p, .func (.func 64) #[.agg #[.int .i64 p, .int .i64 q, .slice (some ⟨bk, off, none⟩) n n]] #[], .float .f32 t] w fun e w' => ∃ g zs, e = .returned (.slice (some ⟨g, 0, none⟩) p p) ∧ zs.length = p ∧ RowsL q t (flipL p q xs) zs ∧ RdS w' (some ⟨g, 0, none⟩) zs ∧ Below w.heap.size w w' := by
  obtain ⟨i0, hi, hz0, hz1, hz2⟩ := info_parts infoSpot
  have hcl := fun j (hj : j < p) W (h : Below w.heap.size w W) => column_calls bk off n p q j xs hp hq hn hl hj W (hA.below h)
  have hfl : ∀ j, j < p → partL xs (fun k => k * p + j) q = partL (flipL p q xs) (fun k => j * q + k) q := fun j hj => (flip_column hj).symm
  have HFL := Frame.hid hfl
  have HCL := Frame.hid hcl
  clear hfl
  clear hcl hn hl hA
  go_enter Try.func63, Try.ntmps63
  go_wp2_with (at_make; refine wpList_make_full _ rfl _ _ 31 rfl w.heap.size 28 i0 (.agg #[.float .f32 0, .float .f32 0, .float .f32 0]) 3 Try.underlying31 hi hz0 hz1 _ _ _ _ p rfl rfl rfl rfl ?c1 ?c2 ?c3 ?_)
  case c1 => rw [hz2]; omega
  case c2 => unfold maxLen; omega
  case c3 => simp
  intro w1 hown hgrow
  obtain ⟨g, hg⟩ : ∃ g, g = w.heap.size := ⟨_, rfl⟩
  have hblk : CopyS w g p [] 0 w1 := by
    rcases hown.2 with ⟨h0, _⟩ | ⟨g', cap, cur, hv, _, hh, _, _, hsz, _⟩
    · cases h0
    · cases hv
      exact ⟨⟨cur, by rw [hg]; exact hh, by simpa using hsz, fun j hj => absurd hj (by omega)⟩, (Below.refl _ _).grown hgrow (Nat.le_refl _) (by simp)⟩
  rw [← hg]
  have HGE := Frame.hid hg
  have HBK := Frame.hid hblk
  clear hown hgrow hg hblk
  go_wp2_with fail
  go_loopw [12] (fun jv wr => ∃ j zs, j ≤ p ∧ jv = .int .i64 (j : Nat) ∧ zs.length = j ∧ RowsL q t (flipL p q xs) zs ∧ CopyS w g p zs j wr) (fun jv _ => p - (intOf jv).toNat)
  case atStart => exact ⟨0, [], Nat.zero_le _, rfl, rfl, RowsL.nil, HBK.out⟩
  case round =>
    obtain ⟨j, zs, hj, rfl, hzj, hZL, hCP⟩ := hrel
    have HZL := Frame.hid hZL
    have HZJ := Frame.hid hzj
    have HCP := Frame.hid hCP
    clear hZL hzj hCP
    by_cases hlt : j < p
    · go_wp2_with fail
      refine (HCL.out j hlt wr HCP.out.l).mono ?_
      rintro e w2 ⟨g2, rfl, hR2, -, hB⟩
      have HR2 := Frame.hid hR2
      have HC2 := Frame.hid (HCP.out.go hB)
      clear hR2 hB
      go_wp2_with fail
      refine (cutOf_calls (some ⟨g2, 0, none⟩) (partL xs (fun k => k * p + j) q) q q t (partL_len _ _ _).symm (by omega) w2 HR2.out).mono ?_
      rintro e w3 ⟨ys, rfl, hC, hB3⟩
      rw [HFL.out j hlt] at hC
      have hC3 := HC2.out.go hB3
      obtain ⟨⟨u0, k0⟩, ⟨u1, k1⟩, ⟨u2, k2⟩, kf, kl⟩ := hC3.here hlt
      have HC3 := Frame.hid hC3
      have HCU := Frame.hid hC
      obtain ⟨x, hx⟩ : ∃ x, x = sx ys 0 := ⟨_, rfl⟩
      obtain ⟨y, hy⟩ : ∃ y, y = sy ys 0 := ⟨_, rfl⟩
      obtain ⟨z, hz⟩ : ∃ z, z = sz ys 0 := ⟨_, rfl⟩
      rw [← hx, ← hy, ← hz]
      have HXYZ := Frame.hid (And.intro hx (And.intro hy hz))
      clear hC3 hC hB3 hx hy hz
      go_wp2_with fail
      go_roundw
      case rel =>
        have hz := HZJ.out
        obtain ⟨rfl, rfl, rfl⟩ := HXYZ.out
        have hsn := (HZL.out).snoc (ys := ys) (by rw [hz]; exact HCU.out)
        exact ⟨j + 1, _, by omega, by go_num, by rw [List.length_append, hz]; rfl, hsn, HC3.out.snoc (by rw [HGE.out]; exact Nat.le_refl _) hlt hz _ _ _⟩
      case measure => simp [intOf]; omega
    · have hjq : j = p := by omega
      subst hjq
      have HRZ := Frame.hid (CopyS.done (by rw [HZJ.out]; exact HCP.out))
      have HL := Frame.hid HCP.out.l
      go_wp2_with fail
      go_ret
      exact ⟨g, zs, rfl, HZJ.out, HZL.out, HRZ.out, HL.out⟩

end Go.Proofs.Ytohbanchaggnmaa
