/-
  TilesOf: a row of tiles, the program's side.
-/
import Derived.Test.YtnhpiebddelebaaI2
import Derived.Test.YtnhpiebddelebaaK2
namespace Go.Proofs.Ytnhpiebddelebaa
open Go.RowKit Fl Go.WideShapes Go.Deep
attribute [local go_sem] kstore_f kalloc_drewN kset_drewN hstore_i hstore_s

/-- The spots of a row of tiles so far. -/
def TileL (a b : Int) (xs : List (Nat × Nat × Nat)) (m v : Nat) (zs : List (Nat × Nat × Nat)) : Prop :=
  ∀ i, i < zs.length → ∃ u, QuoI (i : Int) (m : Int) u ∧ AtO a b xs u v (sx zs i) (sy zs i) (sz zs i) true
theorem TileL.nil {a b : Int} {xs : List (Nat × Nat × Nat)} {m v : Nat} : TileL a b xs m v [] := fun i h => absurd h (by simp)
theorem TileL.snoc {a b : Int} {xs zs : List (Nat × Nat × Nat)} {m v u x y z : Nat} (h : TileL a b xs m v zs) (hu : QuoI (zs.length : Int) (m : Int) u) (ha : AtO a b xs u v x y z true) : TileL a b xs m v (zs ++ [(x, y, z)]) := fun i hi => by
  rw [List.length_append] at hi
  by_cases he : i = zs.length
  · subst he
    refine ⟨u, hu, ?_⟩
    simpa [sx, sy, sz, List.getD_eq_getElem?_getD] using ha
  · have hl : i < zs.length := by simp at hi; omega
    obtain ⟨u', h1, h2⟩ := h i hl
    refine ⟨u', h1, ?_⟩
    simpa [sx, sy, sz, List.getD_eq_getElem?_getD, List.getElem?_append_left hl] using h2

theorem Sh3.put {w : World} {g g' : Nat} {a b : Int} {s : Value} (h : Sh3 w g a b s) (hne : g' ≠ g) (i : Nat) (u : Value) : Sh3 (w.setCell ⟨g', i, none⟩ u) g a b s := by
  have hn : ∀ i', (⟨g, i', none⟩ : Addr) ≠ ⟨g', i, none⟩ := fun i' e => by injection e with e; exact hne e.symm
  refine ⟨?_, ?_, ?_, by simpa using h.l⟩
  · rw [World.cell?_setCell_other _ _ _ _ (by intro e; injection e with e; omega)]; exact h.c0
  · rw [World.cell?_setCell_other _ _ _ _ (by intro e; injection e with e; omega)]; exact h.c1
  · rw [World.cell?_setCell_other _ _ _ _ (by intro e; injection e with e; omega)]; exact h.c2

set_option maxRecDepth 100000 in
set_option maxHeartbeats 4000000 in
theorem rowOfTiles_calls (A : Option Addr) (xs : List (Nat × Nat × Nat)) (n : Nat) (hxn : n = xs.length) (a b : Int) (m v : Nat) (hm : m ≤ 1000) (w : World) (hn : n ≤ 1048576) (hr : RdS w A xs) :
    Calls Try.prog 42 #[.agg #[.int .i64 a, .int .i64 b, .slice A n n], .int .i64 m, .float .f32 v] w fun e w' => Below w.heap.size w w' ∧ ((∃ g zs, w.heap.size ≤ g ∧ e = .returned (.slice (some ⟨g, 0, none⟩) (m + 1) (m + 1)) ∧ zs.length = m + 1 ∧ TileL a b xs m v zs ∧ RdS w' (some ⟨g, 0, none⟩) zs) ∨
      (e = .returned (.slice none 0 0) ∧ ∃ i u x y z, i ≤ m ∧ QuoI (i : Int) (m : Int) u ∧ AtO a b xs u v x y z false)) := by
  obtain ⟨i0, hi, hz0, hz1, hz2⟩ := info_parts infoSpot
  have HC := Frame.hid (fun u W (h : Below w.heap.size w W) => sheetAt_calls A xs n hxn a b u v W hn (hr.below h))
  clear hxn hr
  have em : ((m + 1 : Nat) : Int) = (m : Int) + 1 := by omega
  have a5 : IntKind.i64.wrap ((m : Int) + 1) = (m : Int) + 1 := by rw [IntKind.wrap_i64]; omega
  go_enter Try.func42, Try.ntmps42
  go_wp2_with (at_make; go_loud (refine wpList_make_full _ rfl _ _ 26 rfl w.heap.size 57 i0 (.agg #[.float .f32 0, .float .f32 0, .float .f32 0]) 3 Try.underlying26 hi hz0 hz1 _ _ _ _ (m + 1) rfl rfl rfl rfl ?c1 ?c2 ?c3 ?_))
  case c1 => rw [hz2]; omega
  case c2 => unfold maxLen; omega
  case c3 => simp
  intro w1 hown hgrow
  obtain ⟨g, hg⟩ : ∃ g, g = w.heap.size + 1 := ⟨_, rfl⟩
  have hsz : (w.alloc (.cells #[.int .i64 a, .int .i64 b, .slice A n n] 30)).heap.size = w.heap.size + 1 := by simp
  have hSh : Sh3 w1 w.heap.size a b (.slice A n n) := (Sh3.here w a b (.slice A n n) 30).below ((Below.refl _ _).grown hgrow (Nat.le_refl _) (by simp))
  have hblk : CopyS w g (m + 1) [] 0 w1 := by
    rcases hown.2 with ⟨h0, _⟩ | ⟨g', cap, cur, hv, _, hh, _, _, hsz', _⟩
    · cases h0
    · cases hv
      exact ⟨⟨cur, by rw [hg]; exact hh, by simpa using hsz', fun j hj => absurd hj (by omega)⟩, (((Below.refl _ _).alloc (Nat.le_refl _) _).grown hgrow (by simp) (by simp))⟩
  rw [← hg]
  have HGE := Frame.hid hg
  have HSH := Frame.hid hSh
  have HBK := Frame.hid hblk
  clear hown hgrow hg hblk hSh hsz hi hz0 hz1 hz2
  go_wp2_with fail
  go_loopw [16] (fun jv wr => ∃ j zs, j ≤ m + 1 ∧ jv = .int .i64 (j : Nat) ∧ zs.length = j ∧ TileL a b xs m v zs ∧ CopyS w g (m + 1) zs j wr ∧ Sh3 wr w.heap.size a b (.slice A n n)) (fun jv _ => m + 1 - (intOf jv).toNat)
  case atStart => exact ⟨0, [], Nat.zero_le _, rfl, rfl, TileL.nil, HBK.out, HSH.out⟩
  case round =>
    obtain ⟨j, zs, hj, rfl, hzj, hZL, hCP, hS3⟩ := hrel
    have HZL := Frame.hid hZL
    have HZJ := Frame.hid hzj
    have HCP := Frame.hid hCP
    have HS3 := Frame.hid hS3
    clear hZL hzj hCP
    by_cases hlt : j < m + 1
    · have b0 : (j : Int) < (m : Int) + 1 := by omega
      have b1 : (0 : Int) ≤ (j : Int) := by omega
      obtain ⟨s0, s1, s2⟩ := hS3
      clear s0 s1 s2
      go_wp2_with fail
      go_cut [9, 10] (fun s9 s10 wx => ∃ g1 u x y z ok, s9 = .pointer (some ⟨g1, 0, none⟩) ∧ s10 = .bool ok ∧ QuoI (j : Int) (m : Int) u ∧ AtO a b xs u v x y z ok ∧ At3 wx g1 x y z ∧ Below wr.heap.size wr wx ∧ wr.heap.size ≤ g1 ∧ g1 < wx.heap.size)
      case first =>
        have hk : ∀ W, Below wr.heap.size wr W → (W.cell? ⟨w.heap.size, 0, none⟩ = some (.int .i64 a) ∧ W.cell? ⟨w.heap.size, 1, none⟩ = some (.int .i64 b) ∧ W.cell? ⟨w.heap.size, 2, none⟩ = some (.slice A n n)) := fun W h => ⟨(HS3.out.below h).c0, (HS3.out.below h).c1, (HS3.out.below h).c2⟩
        have hS0 : Below wr.heap.size wr wr.drew := (Below.refl _ _).drew
        refine region_hand 11 (fun W => Below wr.heap.size wr W) (by kernel_rfl) ?_
        refine' wpEnd_take 0 rfl (by kernel_rfl) hS0 (Or.inl ⟨by rfl, fun wq hSq => _⟩) _
        rotate_left
        · (obtain ⟨q0, q1, q2⟩ := hk _ hSq; go_simp; (try with_reducible rfl))
        simp only [Act.put, List.setIfInBounds_toArray, List.set_cons_zero, List.set_cons_succ]
        refine' wpEnd_take 1 rfl (by kernel_rfl) hS0 (Or.inl ⟨by rfl, fun wq hSq => _⟩) _
        rotate_left
        · (obtain ⟨q0, q1, q2⟩ := hk _ hSq; go_simp; (try with_reducible rfl))
        simp only [Act.put, List.setIfInBounds_toArray, List.set_cons_zero, List.set_cons_succ]
        refine' wpEnd_take 2 rfl (by kernel_rfl) hS0 (Or.inl ⟨by rfl, fun wq hSq => _⟩) _
        rotate_left
        · (obtain ⟨q0, q1, q2⟩ := hk _ hSq; go_simp; (try with_reducible rfl))
        simp only [Act.put, List.setIfInBounds_toArray, List.set_cons_zero, List.set_cons_succ]
        refine' wpEnd_take 4 rfl (by kernel_rfl) hS0 (Or.inl ⟨by rfl, fun wq hSq => _⟩) _
        rotate_left
        · (obtain ⟨q0, q1, q2⟩ := hk _ hSq; go_simp; (try with_reducible rfl))
        simp only [Act.put, List.setIfInBounds_toArray, List.set_cons_zero, List.set_cons_succ]
        have hsz : wr.heap.size ≤ wr.drew.heap.size := hS0.size
        generalize wr.drew = wd at hS0 hsz ⊢
        refine wpEnd_ready [3, 9] (by kernel_rfl) rfl (AllE.cons rfl (fun K hK => ?_) (AllE.cons rfl (fun K hK => ?_) AllE.nil))
        · go_simp
          go_at_call 43
          refine (quotient_calls _ _ _).mono ?_
          rintro e_ wq_ ⟨u, nq, rfl, hu, rfl⟩
          have hS1 := below_drewN hS0 nq
          refine hK.out _ _ (.inr hS1) ?_
          clear hK K
          (try simp only [Act.put, List.setIfInBounds_toArray, List.set_cons_zero, List.set_cons_succ])
          refine wpEnd_ready [5, 9] (by kernel_rfl) rfl (AllE.cons rfl (fun K hK => ?_) (AllE.cons rfl (fun K hK => ?_) AllE.nil))
          · go_simp
            go_at_call 86
            refine (HC.out u _ (HCP.out.l.trans (hS1.mono HCP.out.l.size))).mono ?_
            rintro e_ w8 ⟨x, y, z, ok, rfl, hat, hB8⟩
            have hS2 := hS1.trans (hB8.mono hS1.size)
            refine hK.out _ _ (.inr hS2) ?_
            clear hK K
            (try simp only [Act.put, List.setIfInBounds_toArray, List.set_cons_zero, List.set_cons_succ])
            refine' wpEnd_take 6 rfl (by kernel_rfl) hS2 (Or.inl ⟨by rfl, fun wq hSq => _⟩) _
            rotate_left
            · (obtain ⟨q0, q1, q2⟩ := hk _ hSq; go_simp; (try with_reducible rfl))
            simp only [Act.put, List.setIfInBounds_toArray, List.set_cons_zero, List.set_cons_succ]
            refine' wpEnd_take 7 rfl (by kernel_rfl) hS2 (Or.inl ⟨by rfl, fun wq hSq => _⟩) _
            rotate_left
            · (obtain ⟨q0, q1, q2⟩ := hk _ hSq; go_simp; (try with_reducible rfl))
            simp only [Act.put, List.setIfInBounds_toArray, List.set_cons_zero, List.set_cons_succ]
            refine' wpEnd_take 8 rfl (by kernel_rfl) hS2 (Or.inl ⟨by rfl, fun wq hSq => _⟩) _
            rotate_left
            · (obtain ⟨q0, q1, q2⟩ := hk _ hSq; go_simp; (try with_reducible rfl))
            simp only [Act.put, List.setIfInBounds_toArray, List.set_cons_zero, List.set_cons_succ]
            refine wpEnd_ready [9] (by kernel_rfl) rfl (AllE.cons rfl (fun K hK => ?_) AllE.nil)
            go_simp
            have hS3 := hS2.alloc hS2.size (.cells #[.float .f32 0, .float .f32 0, .float .f32 0] 57)
            refine hK.out _ _ (.inr hS3) ?_
            clear hK K
            (try simp only [Act.put, List.setIfInBounds_toArray, List.set_cons_zero, List.set_cons_succ])
            have hge : wr.heap.size ≤ w8.heap.size := hS2.size
            have hN := (New.born (Below.refl _ _) : New (w8.alloc (.cells #[.float .f32 0, .float .f32 0, .float .f32 0] 57)) w8.heap.size)
            have hF := hN.f
            have hC0 := hN.a.c0
            have hC1 := hN.a.c1
            have hC2 := hN.a.c2
            refine wpEnd_ready [10] (by kernel_rfl) rfl (AllE.cons rfl (fun K hK => ?_) AllE.nil)
            go_simp
            refine hK.out _ _ (.inr (hS2.alloc hS2.size _)) ?_
            clear hK K
            (try simp only [Act.put, List.setIfInBounds_toArray, List.set_cons_zero, List.set_cons_succ])
            refine wpEnd_ready [11] (by kernel_rfl) rfl (AllE.cons rfl (fun K hK => ?_) AllE.nil)
            go_simp
            refine hK.out _ _ (.inl rfl) ?_
            clear hK K
            refine wpEnd_done (by kernel_rfl) ?_
            go_wp2_with fail
            go_meet
            exact ⟨_, u, x, y, z, ok, rfl, rfl, hu, hat, At3.here _ _ _ _ _, hS2.alloc hS2.size _, hge, by simp⟩
          · go_simp
            have hS2 := hS1.alloc hS1.size (.cells #[.float .f32 0, .float .f32 0, .float .f32 0] 57)
            refine hK.out _ _ (.inr hS2) ?_
            clear hK K
            (try simp only [Act.put, List.setIfInBounds_toArray, List.set_cons_zero, List.set_cons_succ])
            refine wpEnd_ready [5] (by kernel_rfl) rfl (AllE.cons rfl (fun K hK => ?_) AllE.nil)
            go_simp
            go_at_call 86
            refine (HC.out u _ (HCP.out.l.trans (hS2.mono HCP.out.l.size))).mono ?_
            rintro e_ w8 ⟨x, y, z, ok, rfl, hat, hB8⟩
            have hS3 := hS2.trans (hB8.mono hS2.size)
            refine hK.out _ _ (.inr hS3) ?_
            clear hK K
            (try simp only [Act.put, List.setIfInBounds_toArray, List.set_cons_zero, List.set_cons_succ])
            refine' wpEnd_take 6 rfl (by kernel_rfl) hS3 (Or.inl ⟨by rfl, fun wq hSq => _⟩) _
            rotate_left
            · (obtain ⟨q0, q1, q2⟩ := hk _ hSq; go_simp; (try with_reducible rfl))
            simp only [Act.put, List.setIfInBounds_toArray, List.set_cons_zero, List.set_cons_succ]
            refine' wpEnd_take 7 rfl (by kernel_rfl) hS3 (Or.inl ⟨by rfl, fun wq hSq => _⟩) _
            rotate_left
            · (obtain ⟨q0, q1, q2⟩ := hk _ hSq; go_simp; (try with_reducible rfl))
            simp only [Act.put, List.setIfInBounds_toArray, List.set_cons_zero, List.set_cons_succ]
            refine' wpEnd_take 8 rfl (by kernel_rfl) hS3 (Or.inl ⟨by rfl, fun wq hSq => _⟩) _
            rotate_left
            · (obtain ⟨q0, q1, q2⟩ := hk _ hSq; go_simp; (try with_reducible rfl))
            simp only [Act.put, List.setIfInBounds_toArray, List.set_cons_zero, List.set_cons_succ]
            have hge : wr.heap.size ≤ wd.heap.size := hS0.size
            have hN := (show New w8 wd.heap.size from New.born (W := wd.drewN nq) hB8)
            have hF := hN.f
            have hC0 := hN.a.c0
            have hC1 := hN.a.c1
            have hC2 := hN.a.c2
            refine wpEnd_ready [10] (by kernel_rfl) rfl (AllE.cons rfl (fun K hK => ?_) AllE.nil)
            go_simp
            refine hK.out _ _ (.inr (((((hS3).setCell (p := ⟨_, 0, none⟩) hge _).setCell (p := ⟨_, 1, none⟩) hge _).setCell (p := ⟨_, 2, none⟩) hge _))) ?_
            clear hK K
            (try simp only [Act.put, List.setIfInBounds_toArray, List.set_cons_zero, List.set_cons_succ])
            refine wpEnd_ready [11] (by kernel_rfl) rfl (AllE.cons rfl (fun K hK => ?_) AllE.nil)
            go_simp
            refine hK.out _ _ (.inl rfl) ?_
            clear hK K
            refine wpEnd_done (by kernel_rfl) ?_
            go_wp2_with fail
            go_meet
            exact ⟨_, u, x, y, z, ok, rfl, rfl, hu, hat, At3.set hN _ _ _, ((((hS3).setCell (p := ⟨_, 0, none⟩) hge _).setCell (p := ⟨_, 1, none⟩) hge _).setCell (p := ⟨_, 2, none⟩) hge _), hge, New.lt3 hN _ _ _⟩
        · go_simp
          have hS1 := hS0.alloc hS0.size (.cells #[.float .f32 0, .float .f32 0, .float .f32 0] 57)
          refine hK.out _ _ (.inr hS1) ?_
          clear hK K
          (try simp only [Act.put, List.setIfInBounds_toArray, List.set_cons_zero, List.set_cons_succ])
          refine wpEnd_ready [3] (by kernel_rfl) rfl (AllE.cons rfl (fun K hK => ?_) AllE.nil)
          go_simp
          go_at_call 43
          refine (quotient_calls _ _ _).mono ?_
          rintro e_ wq_ ⟨u, nq, rfl, hu, rfl⟩
          have hS2 := below_drewN hS1 nq
          refine hK.out _ _ (.inr hS2) ?_
          clear hK K
          (try simp only [Act.put, List.setIfInBounds_toArray, List.set_cons_zero, List.set_cons_succ])
          refine wpEnd_ready [5] (by kernel_rfl) rfl (AllE.cons rfl (fun K hK => ?_) AllE.nil)
          go_simp
          go_at_call 86
          refine (HC.out u _ (HCP.out.l.trans (hS2.mono HCP.out.l.size))).mono ?_
          rintro e_ w8 ⟨x, y, z, ok, rfl, hat, hB8⟩
          have hS3 := hS2.trans (hB8.mono hS2.size)
          refine hK.out _ _ (.inr hS3) ?_
          clear hK K
          (try simp only [Act.put, List.setIfInBounds_toArray, List.set_cons_zero, List.set_cons_succ])
          refine' wpEnd_take 6 rfl (by kernel_rfl) hS3 (Or.inl ⟨by rfl, fun wq hSq => _⟩) _
          rotate_left
          · (obtain ⟨q0, q1, q2⟩ := hk _ hSq; go_simp; (try with_reducible rfl))
          simp only [Act.put, List.setIfInBounds_toArray, List.set_cons_zero, List.set_cons_succ]
          refine' wpEnd_take 7 rfl (by kernel_rfl) hS3 (Or.inl ⟨by rfl, fun wq hSq => _⟩) _
          rotate_left
          · (obtain ⟨q0, q1, q2⟩ := hk _ hSq; go_simp; (try with_reducible rfl))
          simp only [Act.put, List.setIfInBounds_toArray, List.set_cons_zero, List.set_cons_succ]
          refine' wpEnd_take 8 rfl (by kernel_rfl) hS3 (Or.inl ⟨by rfl, fun wq hSq => _⟩) _
          rotate_left
          · (obtain ⟨q0, q1, q2⟩ := hk _ hSq; go_simp; (try with_reducible rfl))
          simp only [Act.put, List.setIfInBounds_toArray, List.set_cons_zero, List.set_cons_succ]
          have hge : wr.heap.size ≤ wd.heap.size := hS0.size
          have hN := (New.born ((below_drewN (Below.refl _ _) nq).trans hB8) : New w8 wd.heap.size)
          have hF := hN.f
          have hC0 := hN.a.c0
          have hC1 := hN.a.c1
          have hC2 := hN.a.c2
          refine wpEnd_ready [10] (by kernel_rfl) rfl (AllE.cons rfl (fun K hK => ?_) AllE.nil)
          go_simp
          refine hK.out _ _ (.inr (((((hS3).setCell (p := ⟨_, 0, none⟩) hge _).setCell (p := ⟨_, 1, none⟩) hge _).setCell (p := ⟨_, 2, none⟩) hge _))) ?_
          clear hK K
          (try simp only [Act.put, List.setIfInBounds_toArray, List.set_cons_zero, List.set_cons_succ])
          refine wpEnd_ready [11] (by kernel_rfl) rfl (AllE.cons rfl (fun K hK => ?_) AllE.nil)
          go_simp
          refine hK.out _ _ (.inl rfl) ?_
          clear hK K
          refine wpEnd_done (by kernel_rfl) ?_
          go_wp2_with fail
          go_meet
          exact ⟨_, u, x, y, z, ok, rfl, rfl, hu, hat, At3.set hN _ _ _, ((((hS3).setCell (p := ⟨_, 0, none⟩) hge _).setCell (p := ⟨_, 1, none⟩) hge _).setCell (p := ⟨_, 2, none⟩) hge _), hge, New.lt3 hN _ _ _⟩
      obtain ⟨g1, u, x, y, z, ok, rfl, rfl, hu, hat, hA3, hBx, hg1, hg2⟩ := hcut
      have HA3 := Frame.hid hA3
      have hCx := HCP.out.go hBx
      have HSx := Frame.hid (HS3.out.below hBx)
      have HQU := Frame.hid hu
      have HAT := Frame.hid hat
      have HLX := Frame.hid hCx.l
      clear hBx hu hat
      cases ok
      · clear hCx hA3
        go_wp2_with fail
        go_ret
        exact ⟨HLX.out, .inr ⟨rfl, j, u, x, y, z, by omega, HQU.out, HAT.out⟩⟩
      · obtain ⟨⟨u0, k0⟩, ⟨u1, k1⟩, ⟨u2, k2⟩, kf, kl⟩ := hCx.here hlt
        have HCX := Frame.hid hCx
        obtain ⟨a0, a1, a2⟩ := hA3
        clear hCx
        go_wp2_with fail
        go_roundw
        case rel =>
          have hz := HZJ.out
          have hge := HGE.out
          refine ⟨j + 1, zs ++ [(x, y, z)], by omega, by go_num, by rw [List.length_append, hz]; rfl, TileL.snoc HZL.out (by rw [hz]; exact HQU.out) HAT.out, HCX.out.snoc (by omega) hlt hz _ _ _, ((HSx.out.put ?_ _ _).put ?_ _ _).put ?_ _ _⟩ <;> omega
        case measure => simp [intOf]; omega
    · have hjq : j = m + 1 := by omega
      subst hjq
      have b0 : ¬ (((m + 1 : Nat) : Int) < (m : Int) + 1) := by omega
      have HRZ := Frame.hid (CopyS.done (by rw [HZJ.out]; exact HCP.out))
      have HL := Frame.hid HCP.out.l
      clear hS3
      go_wp2_with fail
      go_ret
      exact ⟨HL.out, .inl ⟨g, by have := HGE.out; omega, rfl, zs, HZJ.out, HZL.out, HRZ.out⟩⟩

end Go.Proofs.Ytnhpiebddelebaa
