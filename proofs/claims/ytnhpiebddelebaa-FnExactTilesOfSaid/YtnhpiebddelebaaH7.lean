/-
  A spot of a sheet: the specification's side.
-/
import Derived.Test.YtnhpiebddelebaaH6
import Derived.Test.YtnhpiebddelebaaH1
namespace Go.Proofs.Ytnhpiebddelebaa
open Go.RowKit Fl Go.WideShapes Go.Deep
attribute [local go_sem] kstore_f kalloc_drewN kset_drewN hstore_i hstore_s

/-- What the spots of the rows are cut to. -/
def RowsL (p t : Nat) (xs zs : List (Nat × Nat × Nat)) : Prop := ∀ j, j < zs.length → ∃ ys, CutR t (p - 1) (partL xs (fun i => j * p + i) p) ys ∧ sx zs j = sx ys 0 ∧ sy zs j = sy ys 0 ∧ sz zs j = sz ys 0
theorem RowsL.nil {p t : Nat} {xs : List (Nat × Nat × Nat)} : RowsL p t xs [] := fun j h => absurd h (by simp)
theorem RowsL.snoc {p t : Nat} {xs zs ys : List (Nat × Nat × Nat)} (h : RowsL p t xs zs) (hy : CutR t (p - 1) (partL xs (fun i => zs.length * p + i) p) ys) : RowsL p t xs (zs ++ [(sx ys 0, sy ys 0, sz ys 0)]) := fun k hk => by
  rcases Nat.lt_or_ge k zs.length with hlt | hge
  · have e : (zs ++ [(sx ys 0, sy ys 0, sz ys 0)]).getD k (0, 0, 0) = zs.getD k (0, 0, 0) := by simp [List.getD, List.getElem?_append_left hlt]
    obtain ⟨zs', h1, h2⟩ := h k hlt
    obtain ⟨h2, h3, h4⟩ := h2
    refine ⟨zs', h1, ?_, ?_, ?_⟩
    · rw [← h2]; show ((zs ++ [(sx ys 0, sy ys 0, sz ys 0)]).getD k (0, 0, 0)).1 = _; rw [e]; rfl
    · rw [← h3]; show ((zs ++ [(sx ys 0, sy ys 0, sz ys 0)]).getD k (0, 0, 0)).2.1 = _; rw [e]; rfl
    · rw [← h4]; show ((zs ++ [(sx ys 0, sy ys 0, sz ys 0)]).getD k (0, 0, 0)).2.2 = _; rw [e]; rfl
  · have h0 : k = zs.length := by simp at hk; omega
    subst h0
    have e : (zs ++ [(sx ys 0, sy ys 0, sz ys 0)]).getD zs.length (0, 0, 0) = (sx ys 0, sy ys 0, sz ys 0) := by simp [List.getD]
    refine ⟨ys, hy, ?_, ?_, ?_⟩
    · show ((zs ++ [(sx ys 0, sy ys 0, sz ys 0)]).getD zs.length (0, 0, 0)).1 = _; rw [e]
    · show ((zs ++ [(sx ys 0, sy ys 0, sz ys 0)]).getD zs.length (0, 0, 0)).2.1 = _; rw [e]
    · show ((zs ++ [(sx ys 0, sy ys 0, sz ys 0)]).getD zs.length (0, 0, 0)).2.2 = _; rw [e]
theorem RowsL.same {p t q : Nat} {xs zs zs' : List (Nat × Nat × Nat)} (hp : 1 ≤ p) (h : RowsL p t xs zs) (g : RowsL p t xs zs') (hl : zs.length = q) (hl' : zs'.length = q) : LS zs zs' := by
  refine ⟨by rw [hl, hl'], fun j hj => ?_⟩
  obtain ⟨ys, h1, h2, h3, h4⟩ := h j hj
  obtain ⟨ys', g1, g2, g3, g4⟩ := g j (by omega)
  have hS := CutR.same (FSame.refl _ _) (LS.refl _) h1 g1
  have hlen : 0 < ys.length := by rw [h1.len, partL_len]; omega
  rw [h2, h3, h4, g2, g3, g4]
  exact hS.2 0 hlen
/-- The spot of a sheet. -/
def AtR (p q u v : Nat) (xs : List (Nat × Nat × Nat)) (x y z : Nat) : Prop := ∃ zs ys, zs.length = q ∧ RowsL p u xs zs ∧ CutR v (q - 1) zs ys ∧ x = sx ys 0 ∧ y = sy ys 0 ∧ z = sz ys 0
theorem AtR.same {p q u v x y z x' y' z' : Nat} {xs : List (Nat × Nat × Nat)} (hp : 1 ≤ p) (hq : 1 ≤ q) (h : AtR p q u v xs x y z) (g : AtR p q u v xs x' y' z') : S3 x y z x' y' z' := by
  obtain ⟨zs, ys, h1, h2, h3, rfl, rfl, rfl⟩ := h
  obtain ⟨zs', ys', g1, g2, g3, rfl, rfl, rfl⟩ := g
  have hS := CutR.same (FSame.refl _ _) (RowsL.same hp h2 g2 h1 g1) h3 g3
  exact hS.2 0 (by rw [h3.len]; omega)

set_option maxRecDepth 100000 in
set_option maxHeartbeats 4000000 in
theorem l04RowsF_calls (g bk off n c p q t : Nat) (xs : List (Nat × Nat × Nat)) (hp : 2 ≤ p ∧ p ≤ 6) (hq : 2 ≤ q ∧ q ≤ 6) (hn : n = xs.length) (hl : n = p * q) (w : World) (hS : Sh3 w g p q (.slice (some ⟨bk, off, none⟩) n c)) (hnc : n ≤ c) (hA : RdS w (some ⟨bk, off, none⟩) xs) :
    Calls Try.prog 85 #[.pointer (some ⟨g, 0, none⟩), .float .f32 t] w fun e w' => ∃ A' c' zs, e = .returned (.slice A' q c') ∧ zs.length = q ∧ RowsL p t xs zs ∧ RdS w' A' zs ∧ Below w.heap.size w w' ∧ NewB w A' := by
  obtain ⟨i0, hi, hz0, hz1, hz2⟩ := info_parts infoSpot
  have hn36 : n ≤ 36 := by rw [hl]; exact Nat.mul_le_mul hp.2 hq.2
  have HX := Frame.hid hn
  have HLN := Frame.hid hl
  have HS := Frame.hid hS
  have HA := Frame.hid hA
  clear hn hl hA hS
  go_enter Try.func85, Try.ntmps85
  have HPAR : Hid (∀ W, Below w.heap.size w W → Sh3 W g p q (.slice (some ⟨bk, off, none⟩) n c) ∧ RdS W (some ⟨bk, off, none⟩) xs) := Frame.hid (fun W h => ⟨HS.out.below h, HA.out.below h⟩)
  have hb0 : Below w.heap.size w (w.alloc (.cells #[] 57)) := (Below.refl _ w).alloc (Nat.le_refl _) _
  obtain ⟨m0, m1, m2, -⟩ := (HPAR.out _ hb0).1
  clear hb0
  go_wp2_with fail
  go_loopw [5, 6] (fun v jv wr => ∃ j zs, j ≤ q ∧ jv = .int .i64 (j : Nat) ∧ zs.length = j ∧ RowsL p t xs zs ∧ OwnedS wr w.heap.size v zs ∧ Below w.heap.size w wr) (fun _ jv _ => q - (intOf jv).toNat)
  case atStart => exact ⟨0, [], Nat.zero_le _, rfl, rfl, RowsL.nil, none_litS w, (Below.refl _ w).alloc (Nat.le_refl _) _⟩
  case round =>
    obtain ⟨j, zs, hj, rfl, hzj, hZL, hO, hB⟩ := hrel
    obtain ⟨d0, d1, d2, hgl⟩ := (HPAR.out _ hB).1
    by_cases hlt : j < q
    · obtain ⟨lo, hlo⟩ : ∃ lo, lo = j * p := ⟨_, rfl⟩
      have hlp : lo + p ≤ n := by
        have : (j + 1) * p ≤ q * p := Nat.mul_le_mul_right p hlt
        rw [Nat.succ_mul, Nat.mul_comm q p] at this
        have := HLN.out
        omega
      have hk1 : (j : Int) * (p : Int) = (lo : Int) := by rw [hlo]; push_cast; rfl
      have hk1w : IntKind.i64.wrap ((j : Int) * (p : Int)) = (lo : Int) := by rw [hk1, IntKind.wrap_i64]; omega
      have hk2w : IntKind.i64.wrap (((j : Int) + 1) * (p : Int)) = ((lo + p : Nat) : Int) := by rw [show ((j : Int) + 1) * (p : Int) = ((lo + p : Nat) : Int) by rw [hlo]; push_cast; rw [Int.add_mul, Int.one_mul], IntKind.wrap_i64]; omega
      have hk3w : IntKind.i64.wrap ((j : Int) + 1) = (j : Int) + 1 := by rw [IntKind.wrap_i64]; omega
      have hs1 : (0 : Int) ≤ (lo : Int) + (p : Int) ∧ (lo : Int) + (p : Int) ≤ (c : Int) := by omega
      have hs2 : ((lo : Int) + (p : Int)).toNat = lo + p := by omega
      have hs4 : ¬ (c = lo) := by omega
      have hs5 : lo ≤ lo + p := by omega
      have hpart := (HPAR.out _ hB).2.part lo p (by rw [← HX.out]; exact hlp)
      have hlen := partL_len xs (fun i => lo + i) p
      have hcl := fun W (h : Below wr.heap.size wr W) => l04Cut_calls (some ⟨bk, off + lo * 3, none⟩) (partL xs (fun i => lo + i) p) p (c - lo) t 1 hlen.symm (by omega) (by omega) W (hpart.below h)
      rw [show (partL xs (fun i => lo + i) p) = partL xs (fun i => j * p + i) p by rw [hlo]] at hcl
      have HCL := Frame.hid hcl
      have HZL := Frame.hid hZL
      have HZJ := Frame.hid hzj
      have HB := Frame.hid hB
      have hown : wr.ownsRow w.heap.size 57 3 u5 j (cellsS zs) := by have h := hO; unfold OwnedS at h; rw [hzj] at h; exact h
      have HO := Frame.hid hown
      have hsz : w.heap.size ≤ wr.heap.size := hB.size
      clear hk1 hpart hlen hcl hZL hzj hB hown hO hlo
      go_wp2_with fail
      have hS0 : Below wr.heap.size wr wr.drew := (Below.refl _ _).drew
      refine region_end 19 (fun W => Below wr.heap.size wr W) (by kernel_rfl) (by kernel_rfl) hS0 ?_
      simp only [List.take_succ_cons, List.take_zero, List.drop_succ_cons, List.drop_zero]
      iterate 19
        refine' eLex_cons (Or.inl ⟨by rfl, fun wq hSq => _⟩) _
        rotate_left
        · (have q0 := (hSq.cell (p := ⟨g, 0, none⟩) (by simp; omega)).trans d0; have q2 := (hSq.cell (p := ⟨g, 2, none⟩) (by simp; omega)).trans d2; go_simp; (try with_reducible rfl))
        simp only [Act.put, List.setIfInBounds_toArray, List.set_cons_zero, List.set_cons_succ]
      refine eLex_nil ?_
      refine wpTail_cons (fun K hK => ?_)
      go_simp
      go_at_call 84
      refine (HCL.out _ hS0).mono ?_
      rintro e w2 ⟨A2, c2, ys, rfl, hyl, hC, hR2, hB2⟩
      have hW2 : Below wr.heap.size wr w2 := hS0.trans (hB2.mono hS0.size)
      have HC := Frame.hid hC
      have HYL := Frame.hid hyl
      obtain ⟨b2, o2, rfl, hb2, hc2⟩ := hR2.h (by omega)
      obtain ⟨y0, y1, y2⟩ := hc2 0 (by omega)
      obtain ⟨x, hx⟩ : ∃ x, x = sx ys 0 := ⟨_, rfl⟩
      obtain ⟨y, hy⟩ : ∃ y, y = sy ys 0 := ⟨_, rfl⟩
      obtain ⟨z, hz⟩ : ∃ z, z = sz ys 0 := ⟨_, rfl⟩
      simp only [Nat.zero_mul, Nat.add_zero] at y0 y1 y2
      rw [← hx] at y0
      rw [← hy] at y1
      rw [← hz] at y2
      have HXYZ := Frame.hid (And.intro hx (And.intro hy hz))
      have HB2 := Frame.hid hW2
      clear hC hyl hR2 hB2 hc2 hx hy hz
      refine hK.out _ _ (.inr hW2) ?_
      clear hK K
      refine wpTail_cons (fun K hK => ?_)
      go_simp
      refine hK.out _ _ (.inl rfl) ?_
      clear hK K
      refine wpTail_done ?_
      have hO2 : w2.ownsRow w.heap.size 57 3 u5 j (cellsS zs) := ownsRow_past HO.out HB2.out
      have HO2 := Frame.hid hO2
      have hsz2 : wr.heap.size ≤ w2.heap.size := hW2.size
      clear hO2 hW2
      go_wp2_with (at_builtin; refine wpList_append_own _ rfl _ _ 26 rfl w.heap.size 57 i0 (.agg #[.float .f32 0, .float .f32 0, .float .f32 0]) 3 12 Try.underlying26 hi hz0 hz1 hz2 rfl (by decide) u5 j (cellsS zs) rfl ?_ ⟨w2.heap.size, 0, none⟩ 1 1 (cellsS [(x, y, z)]) rfl rfl ?_ (cellsS_one _) (by unfold maxLen; omega) (by omega) (by simp; omega) ?_; (· (repeat' first | with_reducible exact HO2.out | with_reducible apply World.ownsRow.alloc | with_reducible apply ownsRow_drewN | with_reducible apply World.ownsRow.drew)); (· (first | exact news3 _ _ _ _ _ _ | exact news3' _ _ _ _ _)); intro v3 w3 hown3 hgrow3 hnil3; have HBW := Frame.hid (Below.grown (B := w.heap.size) (a := w) (by repeat' first | with_reducible exact HB.out.trans (HB2.out.mono hsz) | with_reducible apply below_drewN | with_reducible apply Below.drew | (with_reducible refine Below.alloc ?_ ?_ _) | omega | (simp; omega)) hgrow3 (by simp; omega) (fun k' hk' => (World.ownsRow.lt HO.out k' hk').1)); have HOX := Frame.hid hown3; clear hown3 hgrow3 hnil3)
      go_roundw
      case rel =>
        have hz := HZJ.out
        obtain ⟨rfl, rfl, rfl⟩ := HXYZ.out
        have hsn := (HZL.out).snoc (ys := ys) (by rw [hz]; exact HC.out)
        refine ⟨j + 1, _, by omega, by go_num, by rw [List.length_append, hz]; rfl, hsn, ?_, HBW.out⟩
        unfold OwnedS
        rw [cellsS_append, List.length_append, hz]
        exact HOX.out
      case measure => simp [intOf]; omega
    · have hjq : j = q := by omega
      subst hjq
      obtain ⟨A', c', rfl, hR', hF'⟩ := hO.rdF
      rw [hzj]
      have HZL := Frame.hid hZL
      have HZJ := Frame.hid hzj
      have HR' := Frame.hid hR'
      have HF' := Frame.hid hF'
      have HB := Frame.hid hB
      clear hZL hzj hO hR' hB hF'
      go_wp2_with fail
      go_ret
      exact ⟨A', c', zs, rfl, HZJ.out, HZL.out, HR'.out, HB.out, HF'.out⟩

theorem l04RowsC_calls (g bk off n c p q t : Nat) (xs : List (Nat × Nat × Nat)) (hp : 2 ≤ p ∧ p ≤ 6) (hq : 2 ≤ q ∧ q ≤ 6) (hn : n = xs.length) (hl : n = p * q) (w : World) (hS : Sh3 w g p q (.slice (some ⟨bk, off, none⟩) n c)) (hnc : n ≤ c) (hA : RdS w (some ⟨bk, off, none⟩) xs) :
    Calls Try.prog 85 #[.pointer (some ⟨g, 0, none⟩), .float .f32 t] w fun e w' => ∃ A' c' zs, e = .returned (.slice A' q c') ∧ zs.length = q ∧ RowsL p t xs zs ∧ RdS w' A' zs ∧ Below w.heap.size w w' :=
  (l04RowsF_calls g bk off n c p q t xs hp hq hn hl w hS hnc hA).mono fun _ _ ⟨A', c', ys, h1, h2, h3, h4, h5, _⟩ => ⟨A', c', ys, h1, h2, h3, h4, h5⟩
theorem l04Rows_calls (g bk off n p q t : Nat) (xs : List (Nat × Nat × Nat)) (hp : 2 ≤ p ∧ p ≤ 6) (hq : 2 ≤ q ∧ q ≤ 6) (hn : n = xs.length) (hl : n = p * q) (w : World) (hS : Sh3 w g p q (.slice (some ⟨bk, off, none⟩) n n)) (hA : RdS w (some ⟨bk, off, none⟩) xs) :
    Calls Try.prog 85 #[.pointer (some ⟨g, 0, none⟩), .float .f32 t] w fun e w' => ∃ A' c' zs, e = .returned (.slice A' q c') ∧ zs.length = q ∧ RowsL p t xs zs ∧ RdS w' A' zs ∧ Below w.heap.size w w' := l04RowsC_calls g bk off n n p q t xs hp hq hn hl w hS (Nat.le_refl _) hA

end Go.Proofs.Ytnhpiebddelebaa
