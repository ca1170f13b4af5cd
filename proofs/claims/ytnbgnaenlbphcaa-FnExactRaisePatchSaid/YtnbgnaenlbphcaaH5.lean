/-
  Cutting lists of spots: the next step's relation; the specification's next step.
-/
import Derived.Test.YtnbgnaenlbphcaaK9
import Derived.Test.YtnbgnaenlbphcaaG5
import Derived.Deep.RegionLaw
namespace Go.Proofs.Ytnbgnaenlbphcaa
open Go.RowKit Fl Go.WideShapes Go.Deep
attribute [local go_sem] kstore_f kalloc_drewN kset_drewN hstore_i hstore_s

theorem ownsRow_past {w W : World} {base : Nat} {e : TypeId} {size : Nat} {v : Value} {n : Nat} {xs : List Value} (h : w.ownsRow base e size v n xs) (hB : Below w.heap.size w W) : W.ownsRow base e size v n xs :=
  ⟨h.1, h.2.imp id fun ⟨g, cap, cur, h1, h2, h3, h4⟩ => ⟨g, cap, cur, h1, h2, (by rw [hB.block g (Array.getElem?_eq_some_iff.1 h3).1]; exact h3), h4⟩⟩

/-- A spot of the next step of a cutting, between two. -/
def BlendP (t : Nat) (x y z x' y' z' a b c : Nat) : Prop := ∃ s p q r p' q' r', FOp .sub .f32 1065353216 t s ∧ TimesR x y z s p q r ∧ TimesR x' y' z' t p' q' r' ∧ PlusR p q r p' q' r' a b c
theorem BlendP.same {t t' x y z x' y' z' a b c X Y Z X' Y' Z' A B C : Nat} (ht : FSame .f32 t t') (h1 : S3 x y z X Y Z) (h2 : S3 x' y' z' X' Y' Z') (h : BlendP t x y z x' y' z' a b c) (g : BlendP t' X Y Z X' Y' Z' A B C) : S3 a b c A B C := by
  obtain ⟨s, p, q, r, p', q', r', e1, e2, e3, e4⟩ := h
  obtain ⟨S, P, Q, R, P', Q', R', f1, f2, f3, f4⟩ := g
  exact PlusR.same (TimesR.same h1 (FOp.same (FSame.refl _ _) ht e1 f1) e2 f2) (TimesR.same h2 ht e3 f3) e4 f4
/-- The first spots of the next step. -/
def NextL (t : Nat) (xs zs : List (Nat × Nat × Nat)) : Prop := ∀ k, k < zs.length → BlendP t (sx xs k) (sy xs k) (sz xs k) (sx xs (k + 1)) (sy xs (k + 1)) (sz xs (k + 1)) (sx zs k) (sy zs k) (sz zs k)
theorem NextL.nil {t : Nat} {xs : List (Nat × Nat × Nat)} : NextL t xs [] := fun k h => absurd h (by simp)
theorem NextL.snoc {t : Nat} {xs zs : List (Nat × Nat × Nat)} {z : Nat × Nat × Nat} (h : NextL t xs zs) (hz : BlendP t (sx xs zs.length) (sy xs zs.length) (sz xs zs.length) (sx xs (zs.length + 1)) (sy xs (zs.length + 1)) (sz xs (zs.length + 1)) z.1 z.2.1 z.2.2) : NextL t xs (zs ++ [z]) := fun k hk => by
  rcases Nat.lt_or_ge k zs.length with hlt | hge
  · have e : (zs ++ [z]).getD k (0, 0, 0) = zs.getD k (0, 0, 0) := by simp [List.getD, List.getElem?_append_left hlt]
    have h0 := h k hlt
    unfold sx sy sz at h0 ⊢
    rw [e]
    exact h0
  · have h0 : k = zs.length := by simp at hk; omega
    subst h0
    have e : (zs ++ [z]).getD zs.length (0, 0, 0) = z := by simp [List.getD]
    unfold sx sy sz at hz ⊢
    rw [e]
    exact hz
/-- The next step of a cutting. -/
def NextR (t : Nat) (xs zs : List (Nat × Nat × Nat)) : Prop := zs.length = xs.length - 1 ∧ NextL t xs zs
theorem NextR.same {t t' : Nat} {xs ys zs zs' : List (Nat × Nat × Nat)} (ht : FSame .f32 t t') (hS : LS xs ys) (h : NextR t xs zs) (g : NextR t' ys zs') : LS zs zs' := by
  have hl : zs.length = zs'.length := by rw [h.1, g.1, hS.1]
  refine ⟨hl, fun j hj => ?_⟩
  have h1 := h.1
  exact BlendP.same ht (hS.2 j (by omega)) (hS.2 (j + 1) (by omega)) (h.2 j hj) (g.2 j (by omega))
/-- Some steps of a cutting. -/
def CutR (t : Nat) : Nat → List (Nat × Nat × Nat) → List (Nat × Nat × Nat) → Prop
  | 0, xs, ys => ys = xs
  | k + 1, xs, ys => ∃ zs, CutR t k xs zs ∧ NextR t zs ys
theorem CutR.same {t t' : Nat} (ht : FSame .f32 t t') : ∀ {k : Nat} {xs ys zs zs' : List (Nat × Nat × Nat)}, LS xs ys → CutR t k xs zs → CutR t' k ys zs' → LS zs zs'
  | 0, _, _, _, _, hS, h, g => by rw [h, g]; exact hS
  | _ + 1, _, _, _, _, hS, ⟨_, h1, h2⟩, ⟨_, g1, g2⟩ => NextR.same ht (CutR.same ht hS h1 g1) h2 g2
theorem CutR.len {t : Nat} : ∀ {k : Nat} {xs ys : List (Nat × Nat × Nat)}, CutR t k xs ys → ys.length = xs.length - k
  | 0, _, _, h => by rw [h]; rfl
  | k + 1, _, _, ⟨_, h1, h2⟩ => by rw [h2.1, CutR.len h1]; omega

set_option maxRecDepth 100000 in
set_option maxHeartbeats 400000 in
theorem times_calls (x y z t : Nat) (w : World) : Calls Try.prog 119 #[.agg #[.float .f32 x, .float .f32 y, .float .f32 z], .float .f32 t] w fun e w' => ∃ a b c, e = .returned (.agg #[.float .f32 a, .float .f32 b, .float .f32 c]) ∧ TimesR x y z t a b c ∧ Below w.heap.size w w' := by
  go_enter Try.func119, Try.ntmps119
  go_wp2_with (refine wpList_arith rfl _ _ _ _ _ rfl rfl _ _ _ rfl rfl ?_; intro r n hr hl)
  rename_i r1 n1 hr1 hl1 r2 n2 hr2 hl2
  refine bodyPost_ret (v := .agg #[.float .f32 r1, .float .f32 r2, .float .f32 r]) (by simp [results, Try.results119, go_sem]) rfl ⟨_, _, _, rfl, ⟨hr1, hr2, hr⟩, ?_⟩
  (apply bel_of; (repeat (first | apply below_dn | apply below_al)); exact below_st _)

set_option maxRecDepth 100000 in
set_option maxHeartbeats 400000 in
theorem l04Times_calls (x y z t : Nat) (w : World) : Calls Try.prog 108 #[.agg #[.float .f32 x, .float .f32 y, .float .f32 z], .float .f32 t] w fun e w' => ∃ a b c, e = .returned (.agg #[.float .f32 a, .float .f32 b, .float .f32 c]) ∧ TimesR x y z t a b c ∧ Below w.heap.size w w' := by
  go_enter Try.func108, Try.ntmps108
  go_wp2_with (refine wpList_arith rfl _ _ _ _ _ rfl rfl _ _ _ rfl rfl ?_; intro r n hr hl)
  rename_i r1 n1 hr1 hl1 r2 n2 hr2 hl2
  refine bodyPost_ret (v := .agg #[.float .f32 r1, .float .f32 r2, .float .f32 r]) (by simp [results, Try.results108, go_sem]) rfl ⟨_, _, _, rfl, ⟨hr1, hr2, hr⟩, ?_⟩
  (apply bel_of; (repeat (first | apply below_dn | apply below_al)); exact below_st _)

set_option maxRecDepth 100000 in
set_option maxHeartbeats 4000000 in
theorem l04Next_calls (A : Option Addr) (xs : List (Nat × Nat × Nat)) (n c t : Nat) (hxn : n = xs.length) (hn : n ≤ 100000) (w : World) (hr : RdS w A xs) :
    Calls Try.prog 59 #[.slice A n c, .float .f32 t] w fun e w' => ∃ v zs, e = .returned v ∧ NextR t xs zs ∧ OwnedS w' w.heap.size v zs ∧ Below w.heap.size w w' := by
  obtain ⟨i0, hi, hz0, hz1, hz2⟩ := info_parts infoSpot
  have HX := Frame.hid hxn
  have HR := Frame.hid hr
  clear hxn hr
  go_enter Try.func59, Try.ntmps59
  go_wp2_with fail
  go_loopw [5, 6] (fun v iv wr => ∃ k zs, k ≤ n ∧ iv = .int .i64 (k : Nat) ∧ zs.length = k ∧ (k = 0 ∨ k + 1 ≤ n) ∧ NextL t xs zs ∧ OwnedS wr w.heap.size v zs ∧ Below w.heap.size w wr) (fun _ iv _ => n - (intOf iv).toNat)
  case atStart => exact ⟨0, [], Nat.zero_le _, rfl, rfl, .inl rfl, NextL.nil, none_litS w, (Below.refl _ w).alloc (Nat.le_refl _) _⟩
  case round =>
    obtain ⟨k, zs, hk, rfl, hzk, hkn, hZL, hO, hB⟩ := hrel
    have hkw : IntKind.i64.wrap ((k : Int) + 1) = ((k + 1 : Nat) : Int) := by rw [IntKind.wrap_i64]; omega
    by_cases hlt : k + 1 < n
    · have hlt1 : k < n := by omega
      have hk0 : (0 : Int) ≤ (k : Int) + 1 := by omega
      obtain ⟨b, off, rfl, hb, hc⟩ := HR.out.h (by have := HX.out; omega)
      have h3 := (hc k (by have := HX.out; omega)).keep hB hb
      have h4 := (hc (k + 1) (by have := HX.out; omega)).keep hB hb
      have hgo : ∀ a b c, BlendP t (sx xs k) (sy xs k) (sz xs k) (sx xs (k + 1)) (sy xs (k + 1)) (sz xs (k + 1)) a b c → BlendP t (sx xs k) (sy xs k) (sz xs k) (sx xs (k + 1)) (sy xs (k + 1)) (sz xs (k + 1)) a b c := fun _ _ _ h => h
      obtain ⟨x, hx⟩ : ∃ x, x = sx xs k := ⟨_, rfl⟩
      obtain ⟨y, hy⟩ : ∃ y, y = sy xs k := ⟨_, rfl⟩
      obtain ⟨z, hz⟩ : ∃ z, z = sz xs k := ⟨_, rfl⟩
      obtain ⟨x', hx'⟩ : ∃ x, x = sx xs (k + 1) := ⟨_, rfl⟩
      obtain ⟨y', hy'⟩ : ∃ y, y = sy xs (k + 1) := ⟨_, rfl⟩
      obtain ⟨z', hz'⟩ : ∃ z, z = sz xs (k + 1) := ⟨_, rfl⟩
      rw [← hx, ← hy, ← hz] at h3
      rw [← hx', ← hy', ← hz'] at h4
      conv at hgo => { enter [a, b, c, 1]; rw [← hx, ← hy, ← hz, ← hx', ← hy', ← hz'] }
      have hk6 : ∀ W, Below w.heap.size wr W → (W.cell? ⟨b, off + k * 3, none⟩ = some (.float .f32 x) ∧ W.cell? ⟨b, off + k * 3 + 1, none⟩ = some (.float .f32 y) ∧ W.cell? ⟨b, off + k * 3 + 2, none⟩ = some (.float .f32 z) ∧ W.cell? ⟨b, off + (k + 1) * 3, none⟩ = some (.float .f32 x') ∧ W.cell? ⟨b, off + (k + 1) * 3 + 1, none⟩ = some (.float .f32 y') ∧ W.cell? ⟨b, off + (k + 1) * 3 + 2, none⟩ = some (.float .f32 z')) := fun W h => ⟨(h3.keep h hb).c0, (h3.keep h hb).c1, (h3.keep h hb).c2, (h4.keep h hb).c0, (h4.keep h hb).c1, (h4.keep h hb).c2⟩
      have HG := Frame.hid hgo
      have HZL := Frame.hid hZL
      have HZK := Frame.hid hzk
      have HB := Frame.hid hB
      have hown : wr.ownsRow w.heap.size 57 3 u5 k (cellsS zs) := by have h := hO; unfold OwnedS at h; rw [hzk] at h; exact h
      have HO := Frame.hid hown
      have hsz : w.heap.size ≤ wr.heap.size := hB.size
      clear hc h3 h4 hgo hZL hzk hB hO hown hx hy hz hx' hy' hz'
      go_wp2_with fail
      have hS0 : Below wr.heap.size wr wr.drew := (Below.refl _ _).drew
      have hS0 : Below w.heap.size wr wr.drew := (Below.refl _ _).drew
      refine region_hand 18 (fun W => Below w.heap.size wr W) (by kernel_rfl) ?_
      refine' wpEnd_take 0 rfl (by kernel_rfl) hS0 (Or.inl ⟨by rfl, fun wq hSq => _⟩) _
      rotate_left
      · (obtain ⟨q0, q1, q2, q3, q4, q5⟩ := hk6 _ hSq; go_simp; (try with_reducible rfl))
      simp only [Act.put, List.setIfInBounds_toArray, List.set_cons_zero, List.set_cons_succ]
      refine' wpEnd_take 1 rfl (by kernel_rfl) hS0 (Or.inl ⟨by rfl, fun wq hSq => _⟩) _
      rotate_left
      · (obtain ⟨q0, q1, q2, q3, q4, q5⟩ := hk6 _ hSq; go_simp; (try with_reducible rfl))
      simp only [Act.put, List.setIfInBounds_toArray, List.set_cons_zero, List.set_cons_succ]
      refine' wpEnd_take 2 rfl (by kernel_rfl) hS0 (Or.inl ⟨by rfl, fun wq hSq => _⟩) _
      rotate_left
      · (obtain ⟨q0, q1, q2, q3, q4, q5⟩ := hk6 _ hSq; go_simp; (try with_reducible rfl))
      simp only [Act.put, List.setIfInBounds_toArray, List.set_cons_zero, List.set_cons_succ]
      refine' wpEnd_take 3 rfl (by kernel_rfl) hS0 (Or.inl ⟨by rfl, fun wq hSq => _⟩) _
      rotate_left
      · (obtain ⟨q0, q1, q2, q3, q4, q5⟩ := hk6 _ hSq; go_simp; (try with_reducible rfl))
      simp only [Act.put, List.setIfInBounds_toArray, List.set_cons_zero, List.set_cons_succ]
      refine' wpEnd_take 4 rfl (by kernel_rfl) hS0 (Or.inl ⟨by rfl, fun wq hSq => _⟩) _
      rotate_left
      · (obtain ⟨q0, q1, q2, q3, q4, q5⟩ := hk6 _ hSq; go_simp; (try with_reducible rfl))
      simp only [Act.put, List.setIfInBounds_toArray, List.set_cons_zero, List.set_cons_succ]
      refine' wpEnd_take 5 rfl (by kernel_rfl) hS0 (Or.inl ⟨by rfl, fun wq hSq => _⟩) _
      rotate_left
      · (obtain ⟨q0, q1, q2, q3, q4, q5⟩ := hk6 _ hSq; go_simp; (try with_reducible rfl))
      simp only [Act.put, List.setIfInBounds_toArray, List.set_cons_zero, List.set_cons_succ]
      refine' wpEnd_take 8 rfl (by kernel_rfl) hS0 (Or.inl ⟨by rfl, fun wq hSq => _⟩) _
      rotate_left
      · (obtain ⟨q0, q1, q2, q3, q4, q5⟩ := hk6 _ hSq; go_simp; (try with_reducible rfl))
      simp only [Act.put, List.setIfInBounds_toArray, List.set_cons_zero, List.set_cons_succ]
      refine' wpEnd_take 9 rfl (by kernel_rfl) hS0 (Or.inl ⟨by rfl, fun wq hSq => _⟩) _
      rotate_left
      · (obtain ⟨q0, q1, q2, q3, q4, q5⟩ := hk6 _ hSq; go_simp; (try with_reducible rfl))
      simp only [Act.put, List.setIfInBounds_toArray, List.set_cons_zero, List.set_cons_succ]
      refine' wpEnd_take 10 rfl (by kernel_rfl) hS0 (Or.inl ⟨by rfl, fun wq hSq => _⟩) _
      rotate_left
      · (obtain ⟨q0, q1, q2, q3, q4, q5⟩ := hk6 _ hSq; go_simp; (try with_reducible rfl))
      simp only [Act.put, List.setIfInBounds_toArray, List.set_cons_zero, List.set_cons_succ]
      refine' wpEnd_take 11 rfl (by kernel_rfl) hS0 (Or.inl ⟨by rfl, fun wq hSq => _⟩) _
      rotate_left
      · (obtain ⟨q0, q1, q2, q3, q4, q5⟩ := hk6 _ hSq; go_simp; (try with_reducible rfl))
      simp only [Act.put, List.setIfInBounds_toArray, List.set_cons_zero, List.set_cons_succ]
      refine' wpEnd_take 12 rfl (by kernel_rfl) hS0 (Or.inl ⟨by rfl, fun wq hSq => _⟩) _
      rotate_left
      · (obtain ⟨q0, q1, q2, q3, q4, q5⟩ := hk6 _ hSq; go_simp; (try with_reducible rfl))
      simp only [Act.put, List.setIfInBounds_toArray, List.set_cons_zero, List.set_cons_succ]
      refine' wpEnd_take 13 rfl (by kernel_rfl) hS0 (Or.inl ⟨by rfl, fun wq hSq => _⟩) _
      rotate_left
      · (obtain ⟨q0, q1, q2, q3, q4, q5⟩ := hk6 _ hSq; go_simp; (try with_reducible rfl))
      simp only [Act.put, List.setIfInBounds_toArray, List.set_cons_zero, List.set_cons_succ]
      refine wpEnd_ready [6] (by kernel_rfl) rfl (AllE.cons rfl (fun K hK => ?_) AllE.nil)
      refine step_arith rfl _ _ _ _ _ rfl rfl _ _ _ rfl rfl ?_
      intro s n1 hs _
      have HS := Frame.hid hs
      clear hs
      have hW1 : Below wr.heap.size wr (wr.drew.drewN n1) := below_drewN (Below.refl _ _).drew n1
      generalize wr.drew.drewN n1 = w1 at hW1 ⊢
      refine hK.out _ _ (.inr (hW1.mono hsz)) ?_
      clear hK K
      (try simp only [Act.put, List.setIfInBounds_toArray, List.set_cons_zero, List.set_cons_succ])
      refine wpEnd_ready [7] (by kernel_rfl) rfl (AllE.cons rfl (fun K hK => ?_) AllE.nil)
      go_simp
      go_at_call 108
      refine (l04Times_calls _ _ _ _ _).mono ?_
      rintro e w2 ⟨p, q, r, rfl, hT1, hB2⟩
      have HT1 := Frame.hid hT1
      have hW2 : Below wr.heap.size wr w2 := hW1.trans (hB2.mono hW1.size)
      clear hT1 hB2
      refine hK.out _ _ (.inr (hW2.mono hsz)) ?_
      clear hK K
      (try simp only [Act.put, List.setIfInBounds_toArray, List.set_cons_zero, List.set_cons_succ])
      refine wpEnd_ready [14] (by kernel_rfl) rfl (AllE.cons rfl (fun K hK => ?_) AllE.nil)
      go_simp
      go_at_call 108
      refine (l04Times_calls _ _ _ _ _).mono ?_
      rintro e w3 ⟨p', q', r', rfl, hT2, hB3⟩
      have HT2 := Frame.hid hT2
      have hW3 : Below wr.heap.size wr w3 := hW2.trans (hB3.mono hW2.size)
      clear hT2 hB3
      refine hK.out _ _ (.inr (hW3.mono hsz)) ?_
      clear hK K
      (try simp only [Act.put, List.setIfInBounds_toArray, List.set_cons_zero, List.set_cons_succ])
      refine wpEnd_ready [15] (by kernel_rfl) rfl (AllE.cons rfl (fun K hK => ?_) AllE.nil)
      go_simp
      go_at_call 110
      refine (l04Add_calls _ _ _ _ _ _ _).mono ?_
      rintro e w4 ⟨a1, b1, c1, rfl, hT3, hB4⟩
      have HT3 := Frame.hid hT3
      have hW4 : Below wr.heap.size wr w4 := hW3.trans (hB4.mono hW3.size)
      clear hT3 hB4
      refine hK.out _ _ (.inr (hW4.mono hsz)) ?_
      clear hK K
      (try simp only [Act.put, List.setIfInBounds_toArray, List.set_cons_zero, List.set_cons_succ])
      refine wpEnd_ready [16] (by kernel_rfl) rfl (AllE.cons rfl (fun K hK => ?_) AllE.nil)
      go_simp
      refine hK.out _ _ (.inr ((hW4.mono hsz).alloc (Nat.le_trans hsz hW4.size) _)) ?_
      clear hK K
      (try simp only [Act.put, List.setIfInBounds_toArray, List.set_cons_zero, List.set_cons_succ])
      refine wpEnd_ready [17] (by kernel_rfl) rfl (AllE.cons rfl (fun K hK => ?_) AllE.nil)
      refine step_append_any rfl _ _ 27 rfl w.heap.size 57 i0 (.agg #[.float .f32 0, .float .f32 0, .float .f32 0]) 3 12 Try.underlying27 hi hz0 hz1 hz2 rfl (by decide) u5 k (cellsS zs) rfl ?_ ⟨w4.heap.size, 0, none⟩ 1 1 (cellsS [(a1, b1, c1)]) rfl rfl (news3' _ _ _ _ _) (cellsS_one _) (by unfold maxLen; omega) (by omega) (by have := hW4.size; simp; omega) ?_
      · exact World.ownsRow.alloc (ownsRow_past HO.out hW4) _
      intro v3 w5 hown3 hgrow3 hnil3
      have hS3 : Below w.heap.size wr w5 := Below.grown ((hW4.mono hsz).alloc (Nat.le_trans hsz hW4.size) _) hgrow3 (by have := hW4.size; simp; omega) (fun k' hk' => (World.ownsRow.lt HO.out k' hk').1)
      have HOX := Frame.hid hown3
      clear hgrow3 hnil3 hown3
      refine hK.out _ _ (.inr hS3) ?_
      clear hK K
      (try simp only [Act.put, List.setIfInBounds_toArray, List.set_cons_zero, List.set_cons_succ])
      refine wpEnd_ready [18] (by kernel_rfl) rfl (AllE.cons rfl (fun K hK => ?_) AllE.nil)
      go_simp
      refine hK.out _ _ (.inl rfl) ?_
      clear hK K
      refine wpEnd_done (by kernel_rfl) ?_
      go_wp2_with fail
      go_roundw
      case rel =>
        have hz := HZK.out
        have hsn := (HZL.out).snoc (z := (a1, b1, c1)) (by rw [hz]; exact HG.out _ _ _ ⟨_, _, _, _, _, _, _, HS.out, HT1.out, HT2.out, HT3.out⟩)
        refine ⟨k + 1, _, by omega, by go_num, by rw [List.length_append, hz]; rfl, .inr (by omega), hsn, ?_, HB.out.trans hS3⟩
        unfold OwnedS
        rw [cellsS_append, List.length_append, hz]
        exact HOX.out
      case measure => simp [intOf]; omega
    · have hx := HX.out
      have hN : NextR t xs zs := ⟨by omega, hZL⟩
      have HN := Frame.hid hN
      have HO := Frame.hid hO
      have HB := Frame.hid hB
      have hge : ¬ (((k + 1 : Nat) : Int) < (n : Int)) := by omega
      clear hN hO hB hZL hx
      go_wp2_with fail
      go_ret
      exact ⟨_, rfl, zs, HN.out, HO.out, HB.out⟩

end Go.Proofs.Ytnbgnaenlbphcaa
