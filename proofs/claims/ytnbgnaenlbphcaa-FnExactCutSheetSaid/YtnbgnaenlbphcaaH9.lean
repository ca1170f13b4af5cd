/-
  The program's steps of a cutting.
-/
import Derived.Test.YtnbgnaenlbphcaaH7
import Derived.Test.YtnbgnaenlbphcaaH2
import Derived.Test.YtnbgnaenlbphcaaG5
namespace Go.Proofs.Ytnbgnaenlbphcaa
open Go.RowKit Fl Go.WideShapes Go.Deep
attribute [local go_sem] kstore_f kalloc_drewN kset_drewN hstore_i hstore_s

theorem infoSpots : (Try.prog.info? 27).map (fun i => (i.zero, i.size, i.bytes)) = some (some (.slice none 0 0), 1, 24) := by kernel_rfl

/-- The spots of a step lie in no slice of slices of the call's own. -/
def Off (w wr : World) (A : Option Addr) : Prop := ∀ b off, A = some ⟨b, off, none⟩ → b < w.heap.size ∨ ∃ cs, wr.heap[b]? = some (.cells cs 57 (0, 0))
/-- One of the steps of a cutting. -/
def StepAt (w : World) (t n : Nat) (xs : List (Nat × Nat × Nat)) (wr : World) (k : Nat) (v : Value) : Prop := ∃ A c ys, v = .slice A (n - k) c ∧ ys.length = n - k ∧ CutR t k xs ys ∧ RdS wr A ys ∧ Off w wr A
theorem Off.below {w wr w' : World} {A : Option Addr} (h : Off w wr A) (hB : Below wr.heap.size wr w') : Off w w' A := fun b off e => (h b off e).imp id fun ⟨cs, hc⟩ => ⟨cs, by rw [hB.block b (Array.getElem?_eq_some_iff.1 hc).1]; exact hc⟩
theorem StepAt.below {w wr w' : World} {t n k : Nat} {xs : List (Nat × Nat × Nat)} {v : Value} (h : StepAt w t n xs wr k v) (hB : Below wr.heap.size wr w') : StepAt w t n xs w' k v := by
  obtain ⟨A, c, ys, h1, h2, h3, h4, h5⟩ := h
  exact ⟨A, c, ys, h1, h2, h3, h4.below hB, h5.below hB⟩
theorem off_ne {w wr : World} {A : Option Addr} {v : Value} {m : Nat} {vs : List Value} (h : Off w wr A) (hO : wr.ownsRow w.heap.size 27 1 v m vs) {b off : Nat} (e : A = some ⟨b, off, none⟩) : some b ≠ v.ownBlock := by
  intro he
  rcases hO.2 with ⟨rfl, _⟩ | ⟨g, cap, cur, rfl, hg, hh, _⟩
  · simp [Value.ownBlock] at he
  · simp [Value.ownBlock] at he
    subst he
    rcases h b off e with h1 | ⟨cs, h1⟩
    · omega
    · rw [h1] at hh
      simp at hh
theorem StepAt.grown {w wr w' : World} {t n k m : Nat} {xs : List (Nat × Nat × Nat)} {v s : Value} {vs : List Value} (h : StepAt w t n xs wr k v) (hO : wr.ownsRow w.heap.size 27 1 s m vs) (hg : wr.grownBy w' s.ownBlock) : StepAt w t n xs w' k v := by
  obtain ⟨A, c, ys, h1, h2, h3, h4, h5⟩ := h
  refine ⟨A, c, ys, h1, h2, h3, ⟨fun h0 => ?_⟩, fun b off e => (h5 b off e).imp id fun ⟨cs, hc⟩ => ⟨cs, by rw [hg.block b (Array.getElem?_eq_some_iff.1 hc).1 (off_ne h5 hO e)]; exact hc⟩⟩
  obtain ⟨b, off, e, hlt, hc⟩ := h4.h h0
  have he := hg.block b hlt (off_ne h5 hO e)
  refine ⟨b, off, e, Nat.lt_of_lt_of_le hlt hg.size, fun j hj => ?_⟩
  obtain ⟨c0, c1, c2⟩ := hc j hj
  exact ⟨(World.cell?_of_block (w := wr) (a := ⟨b, _, none⟩) he).trans c0, (World.cell?_of_block (w := wr) (a := ⟨b, _, none⟩) he).trans c1, (World.cell?_of_block (w := wr) (a := ⟨b, _, none⟩) he).trans c2⟩

theorem CopyS.snoc {w wr : World} {g n k : Nat} {zs : List (Nat × Nat × Nat)} (h : CopyS w g n zs k wr) (hg : w.heap.size ≤ g) (hk : k < n) (hz : zs.length = k) (x y z : Nat) :
    CopyS w g n (zs ++ [(x, y, z)]) (k + 1) (((wr.setCell ⟨g, k * 3, none⟩ (.float .f32 x)).setCell ⟨g, k * 3 + 1, none⟩ (.float .f32 y)).setCell ⟨g, k * 3 + 2, none⟩ (.float .f32 z)) := by
  have e0 : ∀ j, j < k → (zs ++ [(x, y, z)]).getD j (0, 0, 0) = zs.getD j (0, 0, 0) := fun j hj => by simp [List.getD, List.getElem?_append_left (show j < zs.length by omega)]
  have e1 : (zs ++ [(x, y, z)]).getD k (0, 0, 0) = (x, y, z) := by subst hz; simp [List.getD]
  have h' : CopyS w g n (zs ++ [(x, y, z)]) k wr := by
    obtain ⟨⟨cs, h1, h2, h3⟩, hl⟩ := h
    refine ⟨⟨cs, h1, h2, fun j hj => ?_⟩, hl⟩
    have := h3 j hj
    unfold sx sy sz at this ⊢
    rw [e0 j hj]
    exact this
  have h2 := h'.step hg hk
  unfold sx sy sz at h2
  rw [e1] at h2
  exact h2
theorem step_news (w : World) (v : Value) (t : TypeId) : ∀ j u, [v][j]? = some u → (w.alloc (.cells #[v] t)).cell? ((⟨w.heap.size, 0, none⟩ : Addr).add j) = some u := by
  intro j u h
  rw [add_plain, Nat.zero_add, World.cell?_alloc_new]
  simpa using h

/-- All steps of a cutting. -/
def StepsO (w : World) (t n : Nat) (xs : List (Nat × Nat × Nat)) (m : Nat) (v : Value) (w' : World) : Prop :=
  ∃ vs, vs.length = m ∧ w'.ownsRow w.heap.size 27 1 v m vs ∧ (∀ j, j < m → StepAt w t n xs w' j (vs.getD j undef)) ∧ Below w.heap.size w w'
theorem StepsO.start {w : World} {t n c : Nat} {A : Option Addr} {xs : List (Nat × Nat × Nat)} (hn : n = xs.length) (h1 : 1 ≤ n) (hr : RdS w A xs) : StepsO w t n xs 1 (.slice (some ⟨w.heap.size, 0, none⟩) 1 1) (w.alloc (.cells #[.slice A n c] 27)) := by
  have hB : Below w.heap.size w (w.alloc (.cells #[.slice A n c] 27)) := (Below.refl _ _).alloc (Nat.le_refl _) _
  refine ⟨[.slice A n c], rfl, World.ownsRow_lit w #[.slice A n c] 1 (Nat.le_refl _) (by unfold maxLen; omega) rfl, fun j hj => ?_, hB⟩
  have h0 : j = 0 := by omega
  subst h0
  refine ⟨A, c, xs, rfl, hn.symm, rfl, hr.below hB, fun b off e => .inl ?_⟩
  obtain ⟨b', off', e', hlt, _⟩ := hr.h (by omega)
  rw [e] at e'
  injection e' with e'
  injection e' with e1 e2
  omega

set_option maxRecDepth 100000 in
set_option maxHeartbeats 4000000 in
theorem stepsOf_calls (A : Option Addr) (xs : List (Nat × Nat × Nat)) (n c t : Nat) (hxn : n = xs.length) (hn : 1 ≤ n ∧ n ≤ 36) (w : World) (hr : RdS w A xs) :
    Calls Try.prog 62 #[.slice A n c, .float .f32 t] w fun e w' => ∃ v, e = .returned v ∧ StepsO w t n xs n v w' := by
  obtain ⟨i0, hi, hz0, hz1, hz2⟩ := info_parts infoSpot
  obtain ⟨i1, gi, gz0, gz1, gz2⟩ := info_parts infoSpots
  have HX := Frame.hid hxn
  have HR := Frame.hid hr
  clear hxn hr
  go_enter Try.func62, Try.ntmps62
  go_wp2_with fail
  go_loopw [0, 5] (fun s v wr => ∃ k A' c' ys, k + 1 ≤ n ∧ s = .slice A' (n - k) c' ∧ ys.length = n - k ∧ CutR t k xs ys ∧ RdS wr A' ys ∧ StepsO w t n xs (k + 1) v wr) (fun s _ _ => sliceLen s)
  case atStart => exact ⟨0, A, c, xs, hn.1, rfl, HX.out.symm, rfl, HR.out.below ((Below.refl _ _).alloc (Nat.le_refl _) _), StepsO.start HX.out hn.1 HR.out⟩
  case round =>
    obtain ⟨k, A', c', ys, hk, rfl, hyl, hC, hR, hO⟩ := hrel
    obtain ⟨wo, hwo⟩ : ∃ wo, wo = wr := ⟨_, rfl⟩
    subst hwo
    have HC := Frame.hid hC
    have HR' := Frame.hid hR
    have HO := Frame.hid hO
    clear hC hR hO HR
    by_cases hlt : k + 1 < n
    · obtain ⟨m, hm⟩ : ∃ m, m = n - (k + 1) := ⟨_, rfl⟩
      obtain ⟨L, hL⟩ : ∃ L, L = n - k := ⟨_, rfl⟩
      rw [← hL] at hyl ⊢
      have hLm : L = m + 1 := by omega
      subst hLm
      have hm36 : m ≤ 36 := by omega
      have hm1 : 1 ≤ m := by omega
      have HML := Frame.hid (And.intro hm hL)
      have HYL := Frame.hid hyl
      clear hm hL hyl
      go_wp2_with (at_make; refine wpList_make_full _ rfl _ _ 27 rfl wo.heap.size 57 i0 (.agg #[.float .f32 0, .float .f32 0, .float .f32 0]) 3 Try.underlying27 hi hz0 hz1 _ _ _ _ m rfl rfl rfl rfl ?c1 ?c2 ?c3 ?_)
      case c1 => rw [hz2]; omega
      case c2 => unfold maxLen; omega
      case c3 => simp
      intro w1 hown hgrow
      obtain ⟨g, hg⟩ : ∃ g, g = wo.heap.size := ⟨_, rfl⟩
      have hblk : CopyS wo g m [] 0 w1 := by
        rcases hown.2 with ⟨h0, _⟩ | ⟨g', cap, cur, hv, _, hh, _, _, hsz, _⟩
        · cases h0
        · cases hv
          exact ⟨⟨cur, by rw [hg]; exact hh, by simpa using hsz, fun j hj => absurd hj (by omega)⟩, (Below.refl _ _).grown hgrow (Nat.le_refl _) (by simp)⟩
      rw [← hg]
      have HGE := Frame.hid hg
      have HBK := Frame.hid hblk
      clear hown hgrow hg hblk
      go_wp2_with fail
      go_loopw [19] (fun jv wr => ∃ j zs, j ≤ m ∧ jv = .int .i64 (j : Nat) ∧ zs.length = j ∧ NextL t ys zs ∧ CopyS wo g m zs j wr) (fun jv _ => m - (intOf jv).toNat)
      case atStart => exact ⟨0, [], Nat.zero_le _, rfl, rfl, NextL.nil, HBK.out⟩
      case round =>
        obtain ⟨j, zs, hj, rfl, hzj, hZL, hCP⟩ := hrel
        have hkw : IntKind.i64.wrap ((j : Int) + 1) = ((j + 1 : Nat) : Int) := by rw [IntKind.wrap_i64]; omega
        by_cases hlt2 : j < m
        · have hlt1 : j < m + 1 := by omega
          have hlt3 : (j : Int) < (m : Int) + 1 := by omega
          have hk0 : (0 : Int) ≤ (j : Int) + 1 := by omega
          obtain ⟨b, off, rfl, hb, hc⟩ := HR'.out.h (by have := HYL.out; omega)
          have hBi : Below wo.heap.size wo wr := hCP.l
          have h3 := (hc j (by have := HYL.out; omega)).keep hBi hb
          have h4 := (hc (j + 1) (by have := HYL.out; omega)).keep hBi hb
          have hgo : ∀ a b c, BlendP t (sx ys j) (sy ys j) (sz ys j) (sx ys (j + 1)) (sy ys (j + 1)) (sz ys (j + 1)) a b c → BlendP t (sx ys j) (sy ys j) (sz ys j) (sx ys (j + 1)) (sy ys (j + 1)) (sz ys (j + 1)) a b c := fun _ _ _ h => h
          obtain ⟨x, hx⟩ : ∃ x, x = sx ys j := ⟨_, rfl⟩
          obtain ⟨y, hy⟩ : ∃ y, y = sy ys j := ⟨_, rfl⟩
          obtain ⟨z, hz⟩ : ∃ z, z = sz ys j := ⟨_, rfl⟩
          obtain ⟨x', hx'⟩ : ∃ x, x = sx ys (j + 1) := ⟨_, rfl⟩
          obtain ⟨y', hy'⟩ : ∃ y, y = sy ys (j + 1) := ⟨_, rfl⟩
          obtain ⟨z', hz'⟩ : ∃ z, z = sz ys (j + 1) := ⟨_, rfl⟩
          rw [← hx, ← hy, ← hz] at h3
          rw [← hx', ← hy', ← hz'] at h4
          conv at hgo => { enter [a, b, c, 1]; rw [← hx, ← hy, ← hz, ← hx', ← hy', ← hz'] }
          have hk6 : ∀ W, Below wo.heap.size wr W → (W.cell? ⟨b, off + j * 3, none⟩ = some (.float .f32 x) ∧ W.cell? ⟨b, off + j * 3 + 1, none⟩ = some (.float .f32 y) ∧ W.cell? ⟨b, off + j * 3 + 2, none⟩ = some (.float .f32 z) ∧ W.cell? ⟨b, off + (j + 1) * 3, none⟩ = some (.float .f32 x') ∧ W.cell? ⟨b, off + (j + 1) * 3 + 1, none⟩ = some (.float .f32 y') ∧ W.cell? ⟨b, off + (j + 1) * 3 + 2, none⟩ = some (.float .f32 z')) := fun W h => ⟨(h3.keep h hb).c0, (h3.keep h hb).c1, (h3.keep h hb).c2, (h4.keep h hb).c0, (h4.keep h hb).c1, (h4.keep h hb).c2⟩
          have HG := Frame.hid hgo
          have HZL := Frame.hid hZL
          have HZJ := Frame.hid hzj
          have HCP := Frame.hid hCP
          have hsz : wo.heap.size ≤ wr.heap.size := hBi.size
          clear hc h3 h4 hgo hZL hzj hCP hBi hx hy hz hx' hy' hz'
          go_wp2_with fail
          have hS0 : Below wo.heap.size wr wr.drew := (Below.refl _ _).drew
          refine region_hand 18 (fun W => Below wo.heap.size wr W) (by kernel_rfl) ?_
          refine' wpEnd_take 0 rfl (by kernel_rfl) hS0 (Or.inl ⟨by rfl, fun wq hSq => _⟩) _
          rotate_left
          · (obtain ⟨q0, q1, q2, q3, q4, q5⟩ := hk6 _ hSq; go_simp; (try with_reducible rfl))
          simp only [Act.put, List.setIfInBounds_toArray, List.set_cons_zero, List.set_cons_succ]
          refine' wpEnd_take 1 rfl (by kernel_rfl) hS0 (Or.inl ⟨by rfl, fun wq hSq => _⟩) _
          rotate_left
          · (obtain ⟨q0, q1, q2, q3, q4, q5⟩ := hk6 _ hSq; go_simp; (try with_reducible rfl))
          simp only [Act.put, List.setIfInBounds_toArray, List.set_cons_zero, List.set_cons_succ]
          refine' wpEnd_take 2 rfl (by kernel_rfl) hS0 (Or.inl ⟨by rfl, fun wq hSq => _⟩) _
          rotate_left
          · (obtain ⟨q0, q1, q2, q3, q4, q5⟩ := hk6 _ hSq; go_simp; (try with_reducible rfl))
          simp only [Act.put, List.setIfInBounds_toArray, List.set_cons_zero, List.set_cons_succ]
          refine' wpEnd_take 3 rfl (by kernel_rfl) hS0 (Or.inl ⟨by rfl, fun wq hSq => _⟩) _
          rotate_left
          · (obtain ⟨q0, q1, q2, q3, q4, q5⟩ := hk6 _ hSq; go_simp; (try with_reducible rfl))
          simp only [Act.put, List.setIfInBounds_toArray, List.set_cons_zero, List.set_cons_succ]
          refine' wpEnd_take 4 rfl (by kernel_rfl) hS0 (Or.inl ⟨by rfl, fun wq hSq => _⟩) _
          rotate_left
          · (obtain ⟨q0, q1, q2, q3, q4, q5⟩ := hk6 _ hSq; go_simp; (try with_reducible rfl))
          simp only [Act.put, List.setIfInBounds_toArray, List.set_cons_zero, List.set_cons_succ]
          refine' wpEnd_take 5 rfl (by kernel_rfl) hS0 (Or.inl ⟨by rfl, fun wq hSq => _⟩) _
          rotate_left
          · (obtain ⟨q0, q1, q2, q3, q4, q5⟩ := hk6 _ hSq; go_simp; (try with_reducible rfl))
          simp only [Act.put, List.setIfInBounds_toArray, List.set_cons_zero, List.set_cons_succ]
          refine' wpEnd_take 6 rfl (by kernel_rfl) hS0 (Or.inl ⟨by rfl, fun wq hSq => _⟩) _
          rotate_left
          · (obtain ⟨q0, q1, q2, q3, q4, q5⟩ := hk6 _ hSq; go_simp; (try with_reducible rfl))
          simp only [Act.put, List.setIfInBounds_toArray, List.set_cons_zero, List.set_cons_succ]
          refine' wpEnd_take 9 rfl (by kernel_rfl) hS0 (Or.inl ⟨by rfl, fun wq hSq => _⟩) _
          rotate_left
          · (obtain ⟨q0, q1, q2, q3, q4, q5⟩ := hk6 _ hSq; go_simp; (try with_reducible rfl))
          simp only [Act.put, List.setIfInBounds_toArray, List.set_cons_zero, List.set_cons_succ]
          refine' wpEnd_take 10 rfl (by kernel_rfl) hS0 (Or.inl ⟨by rfl, fun wq hSq => _⟩) _
          rotate_left
          · (obtain ⟨q0, q1, q2, q3, q4, q5⟩ := hk6 _ hSq; go_simp; (try with_reducible rfl))
          simp only [Act.put, List.setIfInBounds_toArray, List.set_cons_zero, List.set_cons_succ]
          refine' wpEnd_take 11 rfl (by kernel_rfl) hS0 (Or.inl ⟨by rfl, fun wq hSq => _⟩) _
          rotate_left
          · (obtain ⟨q0, q1, q2, q3, q4, q5⟩ := hk6 _ hSq; go_simp; (try with_reducible rfl))
          simp only [Act.put, List.setIfInBounds_toArray, List.set_cons_zero, List.set_cons_succ]
          refine' wpEnd_take 12 rfl (by kernel_rfl) hS0 (Or.inl ⟨by rfl, fun wq hSq => _⟩) _
          rotate_left
          · (obtain ⟨q0, q1, q2, q3, q4, q5⟩ := hk6 _ hSq; go_simp; (try with_reducible rfl))
          simp only [Act.put, List.setIfInBounds_toArray, List.set_cons_zero, List.set_cons_succ]
          refine' wpEnd_take 13 rfl (by kernel_rfl) hS0 (Or.inl ⟨by rfl, fun wq hSq => _⟩) _
          rotate_left
          · (obtain ⟨q0, q1, q2, q3, q4, q5⟩ := hk6 _ hSq; go_simp; (try with_reducible rfl))
          simp only [Act.put, List.setIfInBounds_toArray, List.set_cons_zero, List.set_cons_succ]
          refine' wpEnd_take 14 rfl (by kernel_rfl) hS0 (Or.inl ⟨by rfl, fun wq hSq => _⟩) _
          rotate_left
          · (obtain ⟨q0, q1, q2, q3, q4, q5⟩ := hk6 _ hSq; go_simp; (try with_reducible rfl))
          simp only [Act.put, List.setIfInBounds_toArray, List.set_cons_zero, List.set_cons_succ]
          refine wpEnd_ready [7] (by kernel_rfl) rfl (AllE.cons rfl (fun K hK => ?_) AllE.nil)
          refine step_arith rfl _ _ _ _ _ rfl rfl _ _ _ rfl rfl ?_
          intro s n1 hs _
          have HS := Frame.hid hs
          clear hs
          have hW1 : Below wr.heap.size wr (wr.drew.drewN n1) := below_drewN (Below.refl _ _).drew n1
          generalize wr.drew.drewN n1 = w2 at hW1 ⊢
          refine hK.out _ _ (.inr (hW1.mono hsz)) ?_
          clear hK K
          (try simp only [Act.put, List.setIfInBounds_toArray, List.set_cons_zero, List.set_cons_succ])
          refine wpEnd_ready [8] (by kernel_rfl) rfl (AllE.cons rfl (fun K hK => ?_) AllE.nil)
          go_simp
          go_at_call 119
          refine (times_calls _ _ _ _ _).mono ?_
          rintro e w3 ⟨p, q, r, rfl, hT1, hB2⟩
          have HT1 := Frame.hid hT1
          have hW2 : Below wr.heap.size wr w3 := hW1.trans (hB2.mono hW1.size)
          clear hT1 hB2
          refine hK.out _ _ (.inr (hW2.mono hsz)) ?_
          clear hK K
          (try simp only [Act.put, List.setIfInBounds_toArray, List.set_cons_zero, List.set_cons_succ])
          refine wpEnd_ready [15] (by kernel_rfl) rfl (AllE.cons rfl (fun K hK => ?_) AllE.nil)
          go_simp
          go_at_call 119
          refine (times_calls _ _ _ _ _).mono ?_
          rintro e w4 ⟨p', q', r', rfl, hT2, hB3⟩
          have HT2 := Frame.hid hT2
          have hW3 : Below wr.heap.size wr w4 := hW2.trans (hB3.mono hW2.size)
          clear hT2 hB3
          refine hK.out _ _ (.inr (hW3.mono hsz)) ?_
          clear hK K
          (try simp only [Act.put, List.setIfInBounds_toArray, List.set_cons_zero, List.set_cons_succ])
          refine wpEnd_ready [16] (by kernel_rfl) rfl (AllE.cons rfl (fun K hK => ?_) AllE.nil)
          go_simp
          go_at_call 120
          refine (plus_calls _ _ _ _ _ _ _).mono ?_
          rintro e w5 ⟨a1, b1, c1, rfl, hT3, hB4⟩
          have HT3 := Frame.hid hT3
          have hW4 : Below wr.heap.size wr w5 := hW3.trans (hB4.mono hW3.size)
          clear hT3 hB4
          refine hK.out _ _ (.inr (hW4.mono hsz)) ?_
          clear hK K
          (try simp only [Act.put, List.setIfInBounds_toArray, List.set_cons_zero, List.set_cons_succ])
          refine wpEnd_ready [17] (by kernel_rfl) rfl (AllE.cons rfl (fun K hK => ?_) AllE.nil)
          go_simp
          refine hK.out _ _ (.inr (hW4.mono hsz)) ?_
          clear hK K
          (try simp only [Act.put, List.setIfInBounds_toArray, List.set_cons_zero, List.set_cons_succ])
          have hC5 := HCP.out.go hW4
          obtain ⟨⟨u0, k0⟩, ⟨u1, k1⟩, ⟨u2, k2⟩, kf, kl⟩ := hC5.here hlt2
          have HC5 := Frame.hid hC5
          clear hC5
          refine wpEnd_ready [18] (by kernel_rfl) rfl (AllE.cons rfl (fun K hK => ?_) AllE.nil)
          go_simp
          refine hK.out _ _ (.inl rfl) ?_
          clear hK K
          refine wpEnd_done (by kernel_rfl) ?_
          go_wp2_with fail
          go_roundw
          case rel =>
            have hz := HZJ.out
            have hsn := (HZL.out).snoc (z := (a1, b1, c1)) (by rw [hz]; exact HG.out _ _ _ ⟨_, _, _, _, _, _, _, HS.out, HT1.out, HT2.out, HT3.out⟩)
            exact ⟨j + 1, _, by omega, by go_num, by rw [List.length_append, hz]; rfl, hsn, HC5.out.snoc (by rw [HGE.out]; exact Nat.le_refl _) hlt2 hz _ _ _⟩
          case measure => simp [intOf]; omega
        · have hjm : j = m := by omega
          subst hjm
          have hyl := HYL.out
          obtain ⟨hm, hL⟩ := HML.out
          have hNR : NextR t ys zs := ⟨by omega, hZL⟩
          have hB : Below wo.heap.size wo wr := hCP.l
          have hRz : RdS wr (some ⟨g, 0, none⟩) zs := CopyS.done (by rw [hzj]; exact hCP)
          obtain ⟨cs, hcs, -, -⟩ := hCP.r
          have hlast : StepAt w t n xs wr (k + 1) (.slice (some ⟨g, 0, none⟩) j j) := ⟨some ⟨g, 0, none⟩, j, zs, by rw [← hm], by rw [hzj, hm], ⟨ys, HC.out, hNR⟩, hRz, fun b off e => .inr ⟨cs, by injection e with e; injection e with e1 e2; subst e1; exact hcs⟩⟩
          obtain ⟨vs, v1, v2, v3, v4⟩ := HO.out
          have hst : ∀ i, i < k + 2 → StepAt w t n xs wr i ((vs ++ [Value.slice (some ⟨g, 0, none⟩) j j]).getD i undef) := fun i hi => by
            rcases Nat.lt_or_ge i vs.length with h | h
            · have e : (vs ++ [Value.slice (some ⟨g, 0, none⟩) j j]).getD i undef = vs.getD i undef := by simp [List.getD, List.getElem?_append_left h]
              rw [e]
              exact (v3 i (by omega)).below hB
            · have hi' : i = vs.length := by omega
              have e : (vs ++ [Value.slice (some ⟨g, 0, none⟩) j j]).getD vs.length undef = .slice (some ⟨g, 0, none⟩) j j := by simp [List.getD]
              rw [hi', e, v1]
              exact hlast
          have HST := Frame.hid hst
          have HLA := Frame.hid hlast
          have HO2 := Frame.hid (ownsRow_past v2 hB)
          have HB2 := Frame.hid (v4.trans (hB.mono v4.size))
          have HV := Frame.hid v1
          have hwsz : w.heap.size ≤ wr.heap.size := (v4.trans (hB.mono v4.size)).size
          clear hyl hm hL hNR hB hRz hcs hlast v1 v2 v3 v4 hst hzj hZL hCP
          go_wp2_with (at_builtin; refine wpList_append_own _ rfl _ _ 82 rfl w.heap.size 27 i1 (.slice none 0 0) 1 24 Try.underlying82 gi gz0 gz1 gz2 rfl (by decide) u5 (k + 1) vs rfl ?_ ⟨wr.heap.size, 0, none⟩ 1 1 [.slice (some ⟨g, 0, none⟩) j j] rfl rfl (step_news _ _ _) (by intro u hu; simp at hu; subst hu; rfl) (by unfold maxLen; omega) (by omega) (by simp; omega) ?_; (· exact World.ownsRow.alloc HO2.out _); intro v3 w3 hown3 hgrow3 hnil3; have HOX := Frame.hid hown3; have HGX := Frame.hid hgrow3; clear hown3 hgrow3 hnil3)
          go_roundw
          case rel =>
            have hal : Below wr.heap.size wr (wr.alloc (.cells #[.slice (some ⟨g, 0, none⟩) j j] 27)) := (Below.refl _ _).alloc (Nat.le_refl _) _
            have hOA := World.ownsRow.alloc HO2.out (.cells #[.slice (some ⟨g, 0, none⟩) j j] 27)
            obtain ⟨A2, c2, ys2, e2, l2, C2, R2, -⟩ := (HLA.out.below hal).grown hOA HGX.out
            refine ⟨k + 1, A2, c2, ys2, by omega, e2, l2, C2, R2, _, by rw [List.length_append, HV.out]; rfl, HOX.out, fun i hi => ((HST.out i hi).below hal).grown hOA HGX.out, ?_⟩
            exact Below.grown (HB2.out.trans (hal.mono hwsz)) HGX.out (by simp; omega) (fun k' hk' => (World.ownsRow.lt HO2.out k' hk').1)
          case measure => simp [sliceLen]
    · have hkn : k + 1 = n := by omega
      have h1 : n - k = 1 := by omega
      rw [h1]
      have hfin : StepsO w t n xs n u5 wo := by have h := HO.out; rw [hkn] at h; exact h
      have HF := Frame.hid hfin
      clear hfin hkn h1 hyl
      go_wp2_with fail
      go_ret
      exact ⟨_, rfl, HF.out⟩

end Go.Proofs.Ytnbgnaenlbphcaa
