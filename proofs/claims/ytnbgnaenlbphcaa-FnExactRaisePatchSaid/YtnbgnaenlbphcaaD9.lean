/-
  A spot of a raised patch: what both sides reckon; the program's side.
-/
import Derived.Test.YtnbgnaenlbphcaaD4
import Derived.Deep.Cut
import Derived.Deep.DeepCutAuto
namespace Go.Proofs.Ytnbgnaenlbphcaa
open Go.RowKit Fl Go.WideShapes Go.Deep
attribute [local go_sem] kstore_f kalloc_drewN kset_drewN hstore_i hstore_s

/-- A spot and a part of another one. -/
def AddR (s p : Nat × Nat × Nat) (a b : Int) (o : Nat × Nat × Nat) : Prop := ∃ u t1 t2 t3, QuoI a b u ∧ TimesR p.1 p.2.1 p.2.2 u t1 t2 t3 ∧ PlusR s.1 s.2.1 s.2.2 t1 t2 t3 o.1 o.2.1 o.2.2
theorem AddR.same {s s' p p' o o' : Nat × Nat × Nat} {a b : Int} (hs : S3p s s') (hp : S3p p p') (h : AddR s p a b o) (g : AddR s' p' a b o') : S3p o o' := by
  obtain ⟨u, t1, t2, t3, h1, h2, h3⟩ := h
  obtain ⟨u', v1, v2, v3, g1, g2, g3⟩ := g
  exact PlusR.same hs (TimesR.same hp (FOp.same (FSame.refl _ _) (FSame.refl _ _) h1 g1) h2 g2) h3 g3
theorem S3p.refl (p : Nat × Nat × Nat) : S3p p p := S3.refl _ _ _
/-- The three parts of a raised spot. -/
def Rz1 (d i j : Nat) (xs : List (Nat × Nat × Nat)) (s : Nat × Nat × Nat) : Prop := (i + j ≤ d ∧ AddR (0, 0, 0) (spt xs (plO d j + i)) ((d + 1 - i - j : Nat) : Int) ((d + 1 : Nat) : Int) s) ∨ (¬ i + j ≤ d ∧ s = (0, 0, 0))
def Rz2 (d i j : Nat) (xs : List (Nat × Nat × Nat)) (s : Nat × Nat × Nat) : Prop := ∃ r, Rz1 d i j xs r ∧ ((1 ≤ i ∧ AddR r (spt xs (plO d j + (i - 1))) (i : Int) ((d + 1 : Nat) : Int) s) ∨ (¬ 1 ≤ i ∧ s = r))
def Rz3 (d i j : Nat) (xs : List (Nat × Nat × Nat)) (s : Nat × Nat × Nat) : Prop := ∃ r, Rz2 d i j xs r ∧ ((1 ≤ j ∧ AddR r (spt xs (plO d (j - 1) + i)) (j : Int) ((d + 1 : Nat) : Int) s) ∨ (¬ 1 ≤ j ∧ s = r))
theorem Rz3.same {d i j : Nat} {xs ys : List (Nat × Nat × Nat)} {s s' : Nat × Nat × Nat} (hs : ∀ k, k < plO d (d + 1) → S3p (spt xs k) (spt ys k)) (hd : d ≤ 2) (hij : i + j ≤ d + 1) (h : Rz3 d i j xs s) (g : Rz3 d i j ys s') : S3p s s' := by
  obtain ⟨r, ⟨q, h1, h2⟩, h3⟩ := h
  obtain ⟨r', ⟨q', g1, g2⟩, g3⟩ := g
  have e1 : S3p q q' := by
    rcases h1 with ⟨h0, h1⟩ | ⟨h0, rfl⟩ <;> rcases g1 with ⟨g0, g1⟩ | ⟨g0, rfl⟩
    · exact AddR.same (S3p.refl _) (hs _ (crd_at (by omega) h0).2) h1 g1
    · exact absurd h0 g0
    · exact absurd g0 h0
    · exact S3p.refl _
  have e2 : S3p r r' := by
    rcases h2 with ⟨h0, h2⟩ | ⟨h0, rfl⟩ <;> rcases g2 with ⟨g0, g2⟩ | ⟨g0, rfl⟩
    · exact AddR.same e1 (hs _ (crd_at (by omega) (by omega)).2) h2 g2
    · exact absurd h0 g0
    · exact absurd g0 h0
    · exact e1
  rcases h3 with ⟨h0, h3⟩ | ⟨h0, rfl⟩ <;> rcases g3 with ⟨g0, g3⟩ | ⟨g0, rfl⟩
  · exact AddR.same e2 (hs _ (crd_at (by omega) (by omega)).2) h3 g3
  · exact absurd h0 g0
  · exact absurd g0 h0
  · exact e2

/-- What the calls may give. -/
def RelRt (pv : Value) (xs : List (Nat × Nat × Nat)) (D : Nat) (f : FuncId) (args : Array Value) (v : Value) : Prop :=
  RelPt pv xs D f args v ∨ (f = 155 ∧ ∃ (a b : Int) (u : Nat), args = #[.int .i64 a, .int .i64 b] ∧ v = .float .f32 u ∧ QuoI a b u)
theorem RelRt.quo {pv : Value} {xs : List (Nat × Nat × Nat)} {D : Nat} {a b : Int} {v : Value} (h : RelRt pv xs D 155 #[.int .i64 a, .int .i64 b] v) : ∃ u, v = .float .f32 u ∧ QuoI a b u := by
  rcases h with h | ⟨_, a', b', u, ha, hv, hu⟩
  · rcases h with ⟨hf, _⟩ | ⟨hf, _⟩ | ⟨hf, _⟩ <;> exact absurd hf (by decide)
  · simp at ha
    obtain ⟨rfl, rfl⟩ := ha
    exact ⟨u, hv, hu⟩
theorem RelRt.pt {pv : Value} {xs : List (Nat × Nat × Nat)} {D : Nat} {f : FuncId} {args : Array Value} {v : Value} (h : RelRt pv xs D f args v) (hf : f ≠ 155) : RelPt pv xs D f args v := by
  rcases h with h | ⟨h, _⟩
  · exact h
  · exact absurd h hf

/-- What lies in memory while a raised spot is summed up. -/
structure RsS (w W : World) (d bk off n cp : Nat) (s : Nat × Nat × Nat) : Prop where
  p0 : W.cell? ⟨w.heap.size, 0, none⟩ = some (.int .i64 d)
  p1 : W.cell? ⟨w.heap.size, 1, none⟩ = some (.slice (some ⟨bk, off, none⟩) n cp)
  rz : New W (w.heap.size + 1)
  sm : At3 W (w.heap.size + 1 + 1) s.1 s.2.1 s.2.2
  sf : ∀ i, W.frozen? ⟨w.heap.size + 1 + 1, i, none⟩ = false
  sl : w.heap.size + 1 + 1 < W.heap.size
  bel : Below w.heap.size w W
theorem RsS.go {w W W' : World} {d bk off n cp : Nat} {s : Nat × Nat × Nat} (h : RsS w W d bk off n cp s) (hB : Below W.heap.size W W') : RsS w W' d bk off n cp s :=
  ⟨(hB.cell (p := ⟨w.heap.size, 0, none⟩) (by have := h.sl; simp; omega)).trans h.p0, (hB.cell (p := ⟨w.heap.size, 1, none⟩) (by have := h.sl; simp; omega)).trans h.p1, h.rz.go hB, h.sm.keep hB h.sl, fun i => (hB.frozen (p := ⟨w.heap.size + 1 + 1, i, none⟩) h.sl).trans (h.sf i), Nat.lt_of_lt_of_le h.sl hB.size, h.bel.trans (hB.mono h.bel.size)⟩
theorem RsS.put {w W : World} {d bk off n cp : Nat} {s : Nat × Nat × Nat} (h : RsS w W d bk off n cp s) (x y z : Nat) : RsS w (((W.setCell ⟨w.heap.size + 1 + 1, 0, none⟩ (.float .f32 x)).setCell ⟨w.heap.size + 1 + 1, 1, none⟩ (.float .f32 y)).setCell ⟨w.heap.size + 1 + 1, 2, none⟩ (.float .f32 z)) d bk off n cp (x, y, z) := by
  have hne : ∀ b i j, b < w.heap.size + 1 + 1 → (⟨w.heap.size + 1 + 1, j, none⟩ : Addr) ≠ ⟨b, i, none⟩ := fun b i j hb e => by injection e with e; omega
  have hc : ∀ b i, b < w.heap.size + 1 + 1 → (((W.setCell ⟨w.heap.size + 1 + 1, 0, none⟩ (.float .f32 x)).setCell ⟨w.heap.size + 1 + 1, 1, none⟩ (.float .f32 y)).setCell ⟨w.heap.size + 1 + 1, 2, none⟩ (.float .f32 z)).cell? ⟨b, i, none⟩ = W.cell? ⟨b, i, none⟩ := fun b i hb => by
    rw [World.cell?_setCell_other _ _ _ _ (hne b i 2 hb), World.cell?_setCell_other _ _ _ _ (hne b i 1 hb), World.cell?_setCell_other _ _ _ _ (hne b i 0 hb)]
  obtain ⟨e0, e1, e2⟩ := set3_read (w := W) (v0 := .float .f32 x) (v1 := .float .f32 y) (v2 := .float .f32 z) h.sm.c0 h.sm.c1 h.sm.c2
  refine ⟨(hc _ _ (by omega)).trans h.p0, (hc _ _ (by omega)).trans h.p1, ⟨⟨(hc _ _ (by omega)).trans h.rz.a.c0, (hc _ _ (by omega)).trans h.rz.a.c1, (hc _ _ (by omega)).trans h.rz.a.c2⟩, fun i => ?_, by have := h.sl; simp; omega⟩, ⟨e0, e1, e2⟩, fun i => ?_, by simpa using h.sl, ((h.bel.setCell (p := ⟨w.heap.size + 1 + 1, 0, none⟩) (by simp; omega) _).setCell (p := ⟨w.heap.size + 1 + 1, 1, none⟩) (by simp; omega) _).setCell (p := ⟨w.heap.size + 1 + 1, 2, none⟩) (by simp; omega) _⟩
  · rw [World.frozen?_setCell, World.frozen?_setCell, World.frozen?_setCell]; exact h.rz.f i
  · rw [World.frozen?_setCell, World.frozen?_setCell, World.frozen?_setCell]; exact h.sf i

set_option maxRecDepth 100000 in
set_option maxHeartbeats 8000000 in
theorem raisedSpot_calls (d i j bk off n cp : Nat) (xs : List (Nat × Nat × Nat)) (hxn : n = xs.length) (hd : d ≤ 2) (hn : n = plO d (d + 1)) (hij : i + j ≤ d + 1) (w : World) (hr : RdS w (some ⟨bk, off, none⟩) xs) :
    Calls Try.prog 116 #[.agg #[.int .i64 d, .slice (some ⟨bk, off, none⟩) n cp], .int .i64 i, .int .i64 j] w fun e w' => ∃ x y z, e = .returned (.agg #[.float .f32 x, .float .f32 y, .float .f32 z]) ∧ Rz3 d i j xs (x, y, z) ∧ Below w.heap.size w w' := by
  obtain ⟨D, hD⟩ : ∃ D, D = d + 1 := ⟨_, rfl⟩
  obtain ⟨s, hs⟩ : ∃ s, s = i + j := ⟨_, rfl⟩
  have wD : IntKind.i64.wrap ((d : Int) + 1) = (D : Int) := by rw [IntKind.wrap_i64]; omega
  have ws : IntKind.i64.wrap ((i : Int) + (j : Int)) = (s : Int) := by rw [IntKind.wrap_i64]; omega
  have HS := Frame.hid (fun (i j : Nat) (h : i + j ≤ d) W (hB : Below w.heap.size w W) => patchSpotD_calls bk off cp n xs hxn d i j (by omega) h hn W (hr.below hB))
  have HDS := Frame.hid (And.intro hD (And.intro hs hij))
  have hD3 : D ≤ 3 := by omega
  have hi3 : i ≤ 3 := by omega
  have hj3 : j ≤ 3 := by omega
  clear hxn hn hr hD hs hij
  go_enter Try.func116, Try.ntmps116
  go_upto_if 16 with fail
  go_cut [7] (fun s7 wx => s7 = .int .i64 (D : Nat) ∧ ∃ s1 s2 s3, Rz1 d i j xs (s1, s2, s3) ∧ RsS w wx d bk off n cp (s1, s2, s3))
  case first =>
    have hS0 : RsS w (((w.alloc (.cells #[.int .i64 d, .slice (some ⟨bk, off, none⟩) n cp] 146)).alloc (.cells #[.float .f32 0, .float .f32 0, .float .f32 0] 57)).alloc (.cells #[.float .f32 0, .float .f32 0, .float .f32 0] 57)) d bk off n cp (0, 0, 0) := by
      refine ⟨by simp [go_sem], by simp [go_sem], ⟨⟨by simp [go_sem], by simp [go_sem], by simp [go_sem]⟩, fun i => by simp [go_sem], by simp⟩, ⟨by simp [go_sem], by simp [go_sem], by simp [go_sem]⟩, fun i => by simp [go_sem], by simp, (below_al _ (below_al _ (below_al _ (below_st _)))).2⟩
    have HSS := Frame.hid hS0
    clear hS0
    generalize ((w.alloc (.cells #[.int .i64 d, .slice (some ⟨bk, off, none⟩) n cp] 146)).alloc (.cells #[.float .f32 0, .float .f32 0, .float .f32 0] 57)).alloc (.cells #[.float .f32 0, .float .f32 0, .float .f32 0] 57) = wr at HSS ⊢
    by_cases hlt : s < D
    · obtain ⟨a1, ha1⟩ : ∃ a, a = D - i := ⟨_, rfl⟩
      obtain ⟨a2, ha2⟩ : ∃ a, a = D - i - j := ⟨_, rfl⟩
      have hij : i + j ≤ d := by have := HDS.out; omega
      have w1 : IntKind.i64.wrap ((D : Int) - (i : Int)) = (a1 : Int) := by rw [IntKind.wrap_i64]; have := HDS.out; omega
      have w2 : IntKind.i64.wrap ((a1 : Int) - (j : Int)) = (a2 : Int) := by rw [IntKind.wrap_i64]; have := HDS.out; omega
      have HA2 := Frame.hid ha2
      have HIJ := Frame.hid hij
      obtain ⟨s1, hs1⟩ : ∃ s : Nat, s = 0 := ⟨_, rfl⟩
      obtain ⟨s2, hs2⟩ : ∃ s : Nat, s = 0 := ⟨_, rfl⟩
      obtain ⟨s3, hs3⟩ : ∃ s : Nat, s = 0 := ⟨_, rfl⟩
      have hsx : ((0, 0, 0) : Nat × Nat × Nat) = (s1, s2, s3) := by rw [hs1, hs2, hs3]
      rw [hsx] at HSS
      have HSX := Frame.hid hsx
      clear ha1 ha2 hij hs1 hs2 hs3 hsx
      go_wp2_with fail
      have hQ : ∀ W, Below wr.heap.size wr W → W.cell? ⟨w.heap.size, 0, none⟩ = some (.int .i64 d) ∧ W.cell? ⟨w.heap.size, 1, none⟩ = some (.slice (some ⟨bk, off, none⟩) n cp) ∧ W.cell? ⟨w.heap.size + 1 + 1, 0, none⟩ = some (.float .f32 s1) ∧ W.cell? ⟨w.heap.size + 1 + 1, 1, none⟩ = some (.float .f32 s2) ∧ W.cell? ⟨w.heap.size + 1 + 1, 2, none⟩ = some (.float .f32 s3) := fun W h => by
        have hg := HSS.out.go h
        exact ⟨hg.p0, hg.p1, hg.sm.c0, hg.sm.c1, hg.sm.c2⟩
      have HQ := Frame.hid hQ
      have hCe : ∃ W, Below wr.heap.size wr W := ⟨wr, Below.refl _ _⟩
      have HCG := Frame.hid (fun W w' (h : Below wr.heap.size wr W) (g : Below W.heap.size W w') => h.trans (g.mono h.size))
      clear hQ
      refine region_may_n 14 (fun W => Below wr.heap.size wr W) (RelRt (.agg #[.int .i64 d, .slice (some ⟨bk, off, none⟩) n cp]) xs d) rfl (by kernel_rfl) (by kernel_rfl) (Below.refl _ _).drew ?_
      refine' rC_read hCe (Or.inl ⟨by rfl, fun wq hSq => _⟩) _
      rotate_left
      · obtain ⟨q0, q1, q2, q3, q4⟩ := HQ.out wq hSq
        go_simp
        try with_reducible rfl
      simp only [Act.put, List.setIfInBounds_toArray, List.set_cons_zero, List.set_cons_succ]
      refine' rC_read hCe (Or.inl ⟨by rfl, fun wq hSq => _⟩) _
      rotate_left
      · obtain ⟨q0, q1, q2, q3, q4⟩ := HQ.out wq hSq
        go_simp
        try with_reducible rfl
      simp only [Act.put, List.setIfInBounds_toArray, List.set_cons_zero, List.set_cons_succ]
      refine' rC_read hCe (Or.inl ⟨by rfl, fun wq hSq => _⟩) _
      rotate_left
      · obtain ⟨q0, q1, q2, q3, q4⟩ := HQ.out wq hSq
        go_simp
        try with_reducible rfl
      simp only [Act.put, List.setIfInBounds_toArray, List.set_cons_zero, List.set_cons_succ]
      refine' rC_read hCe (Or.inl ⟨by rfl, fun wq hSq => _⟩) _
      rotate_left
      · obtain ⟨q0, q1, q2, q3, q4⟩ := HQ.out wq hSq
        go_simp
        try with_reducible rfl
      simp only [Act.put, List.setIfInBounds_toArray, List.set_cons_zero, List.set_cons_succ]
      refine rC_call hCe (by rfl) 154 #[.agg #[.int .i64 d, .slice (some ⟨bk, off, none⟩) n cp], .int .i64 i, .int .i64 j] (fun wq hSq => ?_) (fun wq hSq => ?_) (fun u hu => ?_)
      · go_simp
      · refine (HS.out i j HIJ.out wq (HSS.out.bel.trans (hSq.mono HSS.out.bel.size))).mono ?_
        rintro e w' ⟨rfl, hB⟩
        exact ⟨_, rfl, .inl (.inl ⟨rfl, _, _, rfl, rfl⟩), HCG.out _ _ hSq hB⟩
      obtain rfl := (hu.pt (by decide)).spot
      clear hu
      obtain ⟨p, hp⟩ : ∃ p, p = spt xs (plO d j + i) := ⟨_, rfl⟩
      rw [← hp]
      obtain ⟨px, py, pz⟩ := p
      have Hp := Frame.hid hp
      clear hp
      dsimp only
      simp only [Act.put, List.setIfInBounds_toArray, List.set_cons_zero, List.set_cons_succ]
      refine' rC_read hCe (Or.inl ⟨by rfl, fun wq hSq => _⟩) _
      rotate_left
      · obtain ⟨q0, q1, q2, q3, q4⟩ := HQ.out wq hSq
        go_simp
        try with_reducible rfl
      simp only [Act.put, List.setIfInBounds_toArray, List.set_cons_zero, List.set_cons_succ]
      refine' rC_read hCe (Or.inl ⟨by rfl, fun wq hSq => _⟩) _
      rotate_left
      · obtain ⟨q0, q1, q2, q3, q4⟩ := HQ.out wq hSq
        go_simp
        try with_reducible rfl
      simp only [Act.put, List.setIfInBounds_toArray, List.set_cons_zero, List.set_cons_succ]
      refine' rC_read hCe (Or.inl ⟨by rfl, fun wq hSq => _⟩) _
      rotate_left
      · obtain ⟨q0, q1, q2, q3, q4⟩ := HQ.out wq hSq
        go_simp
        try with_reducible rfl
      simp only [Act.put, List.setIfInBounds_toArray, List.set_cons_zero, List.set_cons_succ]
      refine' rC_read hCe (Or.inl ⟨by rfl, fun wq hSq => _⟩) _
      rotate_left
      · obtain ⟨q0, q1, q2, q3, q4⟩ := HQ.out wq hSq
        go_simp
        try with_reducible rfl
      simp only [Act.put, List.setIfInBounds_toArray, List.set_cons_zero, List.set_cons_succ]
      refine' rC_read hCe (Or.inl ⟨by rfl, fun wq hSq => _⟩) _
      rotate_left
      · obtain ⟨q0, q1, q2, q3, q4⟩ := HQ.out wq hSq
        go_simp
        try with_reducible rfl
      simp only [Act.put, List.setIfInBounds_toArray, List.set_cons_zero, List.set_cons_succ]
      refine' rC_read hCe (Or.inl ⟨by rfl, fun wq hSq => _⟩) _
      rotate_left
      · obtain ⟨q0, q1, q2, q3, q4⟩ := HQ.out wq hSq
        go_simp
        try with_reducible rfl
      simp only [Act.put, List.setIfInBounds_toArray, List.set_cons_zero, List.set_cons_succ]
      refine rC_call hCe (by rfl) 155 #[.int .i64 a2, .int .i64 D] (fun wq hSq => ?_) (fun wq hSq => ?_) (fun u hu => ?_)
      · go_simp
      · refine (quotient_calls _ _ _).mono ?_
        rintro e w' ⟨r, m, rfl, hr, rfl⟩
        exact ⟨_, rfl, .inr ⟨rfl, _, _, _, rfl, rfl, hr⟩, below_drewN hSq m⟩
      obtain ⟨uq, rfl, kq⟩ := hu.quo
      have Kq := Frame.hid kq
      clear hu kq
      simp only [Act.put, List.setIfInBounds_toArray, List.set_cons_zero, List.set_cons_succ]
      refine rC_call hCe (by rfl) 119 #[.agg #[.float .f32 px, .float .f32 py, .float .f32 pz], .float .f32 uq] (fun wq hSq => ?_) (fun wq hSq => ?_) (fun u hu => ?_)
      · go_simp
      · refine (times_calls _ _ _ _ _).mono ?_
        rintro e w' ⟨x1, x2, x3, rfl, hT, hB⟩
        exact ⟨_, rfl, .inl (.inr (.inl ⟨rfl, _, _, _, _, _, _, _, rfl, rfl, hT⟩)), HCG.out _ _ hSq hB⟩
      obtain ⟨tx, ty, tz, rfl, kt⟩ := (hu.pt (by decide)).times
      have Kt := Frame.hid kt
      clear hu kt
      simp only [Act.put, List.setIfInBounds_toArray, List.set_cons_zero, List.set_cons_succ]
      refine rC_call hCe (by rfl) 120 #[.agg #[.float .f32 s1, .float .f32 s2, .float .f32 s3], .agg #[.float .f32 tx, .float .f32 ty, .float .f32 tz]] (fun wq hSq => ?_) (fun wq hSq => ?_) (fun u hu => ?_)
      · go_simp
      · refine (plus_calls _ _ _ _ _ _ _).mono ?_
        rintro e w' ⟨x1, x2, x3, rfl, hT, hB⟩
        exact ⟨_, rfl, .inl (.inr (.inr ⟨rfl, _, _, _, _, _, _, _, _, _, rfl, rfl, hT⟩)), HCG.out _ _ hSq hB⟩
      obtain ⟨zx, zy, zz, rfl, kz⟩ := (hu.pt (by decide)).plus
      have Kz := Frame.hid kz
      clear hu kz
      simp only [Act.put, List.setIfInBounds_toArray, List.set_cons_zero, List.set_cons_succ]
      refine rC_nil (fun w3 hw3 => ?_)
      have hg3 := HSS.out.go hw3
      have HG3 := Frame.hid (hg3.put zx zy zz)
      have k0 := hg3.sm.c0
      have k1 := hg3.sm.c1
      have k2 := hg3.sm.c2
      have kf := hg3.sf
      have kl := hg3.sl
      clear hw3 hg3
      refine wpTail_cons (fun K hK => ?_)
      go_simp
      refine hK.out _ _ (.inl rfl) ?_
      clear hK K
      refine wpTail_done ?_
      go_wp2_with fail
      go_meet
      case rel =>
        refine ⟨rfl, zx, zy, zz, .inl ⟨HIJ.out, uq, tx, ty, tz, ?_, ?_, ?_⟩, HG3.out⟩
        · have h1 := Kq.out
          rw [HA2.out, HDS.out.1] at h1
          exact h1
        · rw [← Hp.out]; exact Kt.out
        · rw [HSX.out]; exact Kz.out
    · have hij : ¬ i + j ≤ d := by have := HDS.out; omega
      have HIJ := Frame.hid hij
      clear hij
      go_wp2_with fail
      go_meet
      case rel => exact ⟨rfl, 0, 0, 0, .inr ⟨HIJ.out, rfl⟩, HSS.out⟩
  case rest =>
    obtain ⟨rfl, s1, s2, s3, hz1, hss⟩ := hcut
    have HZ1 := Frame.hid hz1
    have HSS := Frame.hid hss
    obtain ⟨wr, hwr⟩ : ∃ wr, wr = wc := ⟨_, rfl⟩
    subst hwr
    clear hz1 hss
    go_upto_if 32 with fail
    go_cut [7] (fun s7 wx => s7 = .int .i64 (D : Nat) ∧ ∃ s1 s2 s3, Rz2 d i j xs (s1, s2, s3) ∧ RsS w wx d bk off n cp (s1, s2, s3))
    case first =>
      by_cases hlt : 1 ≤ i
      · obtain ⟨im, him⟩ : ∃ a, a = i - 1 := ⟨_, rfl⟩
        have hij : im + j ≤ d := by have := HDS.out; omega
        have w1 : IntKind.i64.wrap ((i : Int) - 1) = (im : Int) := by rw [IntKind.wrap_i64]; omega
        have HIM := Frame.hid (And.intro hlt him)
        have hlt' : (1 : Int) ≤ (i : Int) := by omega
        clear him
        go_wp2_with fail
        have hQ : ∀ W, Below wr.heap.size wr W → W.cell? ⟨w.heap.size, 0, none⟩ = some (.int .i64 d) ∧ W.cell? ⟨w.heap.size, 1, none⟩ = some (.slice (some ⟨bk, off, none⟩) n cp) ∧ W.cell? ⟨w.heap.size + 1 + 1, 0, none⟩ = some (.float .f32 s1) ∧ W.cell? ⟨w.heap.size + 1 + 1, 1, none⟩ = some (.float .f32 s2) ∧ W.cell? ⟨w.heap.size + 1 + 1, 2, none⟩ = some (.float .f32 s3) := fun W h => by
          have hg := HSS.out.go h
          exact ⟨hg.p0, hg.p1, hg.sm.c0, hg.sm.c1, hg.sm.c2⟩
        have HQ := Frame.hid hQ
        have hCe : ∃ W, Below wr.heap.size wr W := ⟨wr, Below.refl _ _⟩
        have HCG := Frame.hid (fun W w' (h : Below wr.heap.size wr W) (g : Below W.heap.size W w') => h.trans (g.mono h.size))
        clear hQ
        refine region_may_n 11 (fun W => Below wr.heap.size wr W) (RelRt (.agg #[.int .i64 d, .slice (some ⟨bk, off, none⟩) n cp]) xs d) rfl (by kernel_rfl) (by kernel_rfl) (Below.refl _ _).drew ?_
        refine' rC_read hCe (Or.inl ⟨by rfl, fun wq hSq => _⟩) _
        rotate_left
        · obtain ⟨q0, q1, q2, q3, q4⟩ := HQ.out wq hSq
          go_simp
          try with_reducible rfl
        simp only [Act.put, List.setIfInBounds_toArray, List.set_cons_zero, List.set_cons_succ]
        refine' rC_read hCe (Or.inl ⟨by rfl, fun wq hSq => _⟩) _
        rotate_left
        · obtain ⟨q0, q1, q2, q3, q4⟩ := HQ.out wq hSq
          go_simp
          try with_reducible rfl
        simp only [Act.put, List.setIfInBounds_toArray, List.set_cons_zero, List.set_cons_succ]
        refine' rC_read hCe (Or.inl ⟨by rfl, fun wq hSq => _⟩) _
        rotate_left
        · obtain ⟨q0, q1, q2, q3, q4⟩ := HQ.out wq hSq
          go_simp
          try with_reducible rfl
        simp only [Act.put, List.setIfInBounds_toArray, List.set_cons_zero, List.set_cons_succ]
        refine' rC_read hCe (Or.inl ⟨by rfl, fun wq hSq => _⟩) _
        rotate_left
        · obtain ⟨q0, q1, q2, q3, q4⟩ := HQ.out wq hSq
          go_simp
          try with_reducible rfl
        simp only [Act.put, List.setIfInBounds_toArray, List.set_cons_zero, List.set_cons_succ]
        refine' rC_read hCe (Or.inl ⟨by rfl, fun wq hSq => _⟩) _
        rotate_left
        · obtain ⟨q0, q1, q2, q3, q4⟩ := HQ.out wq hSq
          go_simp
          try with_reducible rfl
        simp only [Act.put, List.setIfInBounds_toArray, List.set_cons_zero, List.set_cons_succ]
        refine rC_call hCe (by rfl) 154 #[.agg #[.int .i64 d, .slice (some ⟨bk, off, none⟩) n cp], .int .i64 im, .int .i64 j] (fun wq hSq => ?_) (fun wq hSq => ?_) (fun u hu => ?_)
        · go_simp
        · refine (HS.out im j hij wq (HSS.out.bel.trans (hSq.mono HSS.out.bel.size))).mono ?_
          rintro e w' ⟨rfl, hB⟩
          exact ⟨_, rfl, .inl (.inl ⟨rfl, _, _, rfl, rfl⟩), HCG.out _ _ hSq hB⟩
        obtain rfl := (hu.pt (by decide)).spot
        clear hu
        obtain ⟨p, hp⟩ : ∃ p, p = spt xs (plO d j + im) := ⟨_, rfl⟩
        rw [← hp]
        obtain ⟨px, py, pz⟩ := p
        have Hp := Frame.hid hp
        clear hp
        dsimp only
        simp only [Act.put, List.setIfInBounds_toArray, List.set_cons_zero, List.set_cons_succ]
        refine' rC_read hCe (Or.inl ⟨by rfl, fun wq hSq => _⟩) _
        rotate_left
        · obtain ⟨q0, q1, q2, q3, q4⟩ := HQ.out wq hSq
          go_simp
          try with_reducible rfl
        simp only [Act.put, List.setIfInBounds_toArray, List.set_cons_zero, List.set_cons_succ]
        refine' rC_read hCe (Or.inl ⟨by rfl, fun wq hSq => _⟩) _
        rotate_left
        · obtain ⟨q0, q1, q2, q3, q4⟩ := HQ.out wq hSq
          go_simp
          try with_reducible rfl
        simp only [Act.put, List.setIfInBounds_toArray, List.set_cons_zero, List.set_cons_succ]
        refine rC_call hCe (by rfl) 155 #[.int .i64 i, .int .i64 D] (fun wq hSq => ?_) (fun wq hSq => ?_) (fun u hu => ?_)
        · go_simp
        · refine (quotient_calls _ _ _).mono ?_
          rintro e w' ⟨r, m, rfl, hr, rfl⟩
          exact ⟨_, rfl, .inr ⟨rfl, _, _, _, rfl, rfl, hr⟩, below_drewN hSq m⟩
        obtain ⟨uq, rfl, kq⟩ := hu.quo
        have Kq := Frame.hid kq
        clear hu kq
        simp only [Act.put, List.setIfInBounds_toArray, List.set_cons_zero, List.set_cons_succ]
        refine rC_call hCe (by rfl) 119 #[.agg #[.float .f32 px, .float .f32 py, .float .f32 pz], .float .f32 uq] (fun wq hSq => ?_) (fun wq hSq => ?_) (fun u hu => ?_)
        · go_simp
        · refine (times_calls _ _ _ _ _).mono ?_
          rintro e w' ⟨x1, x2, x3, rfl, hT, hB⟩
          exact ⟨_, rfl, .inl (.inr (.inl ⟨rfl, _, _, _, _, _, _, _, rfl, rfl, hT⟩)), HCG.out _ _ hSq hB⟩
        obtain ⟨tx, ty, tz, rfl, kt⟩ := (hu.pt (by decide)).times
        have Kt := Frame.hid kt
        clear hu kt
        simp only [Act.put, List.setIfInBounds_toArray, List.set_cons_zero, List.set_cons_succ]
        refine rC_call hCe (by rfl) 120 #[.agg #[.float .f32 s1, .float .f32 s2, .float .f32 s3], .agg #[.float .f32 tx, .float .f32 ty, .float .f32 tz]] (fun wq hSq => ?_) (fun wq hSq => ?_) (fun u hu => ?_)
        · go_simp
        · refine (plus_calls _ _ _ _ _ _ _).mono ?_
          rintro e w' ⟨x1, x2, x3, rfl, hT, hB⟩
          exact ⟨_, rfl, .inl (.inr (.inr ⟨rfl, _, _, _, _, _, _, _, _, _, rfl, rfl, hT⟩)), HCG.out _ _ hSq hB⟩
        obtain ⟨zx, zy, zz, rfl, kz⟩ := (hu.pt (by decide)).plus
        have Kz := Frame.hid kz
        clear hu kz
        simp only [Act.put, List.setIfInBounds_toArray, List.set_cons_zero, List.set_cons_succ]
        refine rC_nil (fun w3 hw3 => ?_)
        have hg3 := HSS.out.go hw3
        have HG3 := Frame.hid (hg3.put zx zy zz)
        have k0 := hg3.sm.c0
        have k1 := hg3.sm.c1
        have k2 := hg3.sm.c2
        have kf := hg3.sf
        have kl := hg3.sl
        clear hw3 hg3
        refine wpTail_cons (fun K hK => ?_)
        go_simp
        refine hK.out _ _ (.inl rfl) ?_
        clear hK K
        refine wpTail_done ?_
        go_wp2_with fail
        go_meet
        case rel =>
          refine ⟨rfl, zx, zy, zz, ⟨(s1, s2, s3), HZ1.out, .inl ⟨HIM.out.1, uq, tx, ty, tz, ?_, ?_, Kz.out⟩⟩, HG3.out⟩
          · have h1 := Kq.out
            rw [HDS.out.1] at h1
            exact h1
          · rw [← HIM.out.2, ← Hp.out]; exact Kt.out
      · have HIM := Frame.hid hlt
        have hi0 : i = 0 := by omega
        have hlt' : ¬ (1 : Int) ≤ (i : Int) := by omega
        clear hi0
        go_wp2_with fail
        go_meet
        case rel => exact ⟨rfl, s1, s2, s3, ⟨(s1, s2, s3), HZ1.out, .inr ⟨HIM.out, rfl⟩⟩, HSS.out⟩
    case rest =>
      obtain ⟨rfl, s1', s2', s3', hz1, hss⟩ := hcut
      have HZ2 := Frame.hid hz1
      have HSS2 := Frame.hid hss
      clear hz1 hss HSS HZ1
      have HSS := HSS2
      clear HSS2
      obtain ⟨wr', hwr⟩ : ∃ wr, wr = wc := ⟨_, rfl⟩
      subst hwr
      clear s1 s2 s3
      obtain ⟨s1, rfl⟩ : ∃ s, s = s1' := ⟨_, rfl⟩
      obtain ⟨s2, rfl⟩ : ∃ s, s = s2' := ⟨_, rfl⟩
      obtain ⟨s3, rfl⟩ : ∃ s, s = s3' := ⟨_, rfl⟩
      clear wr
      obtain ⟨wr, hwr⟩ : ∃ wr, wr = wr' := ⟨_, rfl⟩
      subst hwr
      go_upto_if 45 with fail
      go_cut [7] (fun s7 wx => s7 = .int .i64 (D : Nat) ∧ ∃ s1 s2 s3, Rz3 d i j xs (s1, s2, s3) ∧ RsS w wx d bk off n cp (s1, s2, s3))
      case first =>
        by_cases hlt : 1 ≤ j
        · obtain ⟨jm, hjm⟩ : ∃ a, a = j - 1 := ⟨_, rfl⟩
          have hij : i + jm ≤ d := by have := HDS.out; omega
          have w1 : IntKind.i64.wrap ((j : Int) - 1) = (jm : Int) := by rw [IntKind.wrap_i64]; omega
          have HIM := Frame.hid (And.intro hlt hjm)
          have hlt' : (1 : Int) ≤ (j : Int) := by omega
          clear hjm
          go_wp2_with fail
          have hQ : ∀ W, Below wr.heap.size wr W → W.cell? ⟨w.heap.size, 0, none⟩ = some (.int .i64 d) ∧ W.cell? ⟨w.heap.size, 1, none⟩ = some (.slice (some ⟨bk, off, none⟩) n cp) ∧ W.cell? ⟨w.heap.size + 1 + 1, 0, none⟩ = some (.float .f32 s1) ∧ W.cell? ⟨w.heap.size + 1 + 1, 1, none⟩ = some (.float .f32 s2) ∧ W.cell? ⟨w.heap.size + 1 + 1, 2, none⟩ = some (.float .f32 s3) := fun W h => by
            have hg := HSS.out.go h
            exact ⟨hg.p0, hg.p1, hg.sm.c0, hg.sm.c1, hg.sm.c2⟩
          have HQ := Frame.hid hQ
          have hCe : ∃ W, Below wr.heap.size wr W := ⟨wr, Below.refl _ _⟩
          have HCG := Frame.hid (fun W w' (h : Below wr.heap.size wr W) (g : Below W.heap.size W w') => h.trans (g.mono h.size))
          clear hQ
          refine region_may_n 11 (fun W => Below wr.heap.size wr W) (RelRt (.agg #[.int .i64 d, .slice (some ⟨bk, off, none⟩) n cp]) xs d) rfl (by kernel_rfl) (by kernel_rfl) (Below.refl _ _).drew ?_
          refine' rC_read hCe (Or.inl ⟨by rfl, fun wq hSq => _⟩) _
          rotate_left
          · obtain ⟨q0, q1, q2, q3, q4⟩ := HQ.out wq hSq
            go_simp
            try with_reducible rfl
          simp only [Act.put, List.setIfInBounds_toArray, List.set_cons_zero, List.set_cons_succ]
          refine' rC_read hCe (Or.inl ⟨by rfl, fun wq hSq => _⟩) _
          rotate_left
          · obtain ⟨q0, q1, q2, q3, q4⟩ := HQ.out wq hSq
            go_simp
            try with_reducible rfl
          simp only [Act.put, List.setIfInBounds_toArray, List.set_cons_zero, List.set_cons_succ]
          refine' rC_read hCe (Or.inl ⟨by rfl, fun wq hSq => _⟩) _
          rotate_left
          · obtain ⟨q0, q1, q2, q3, q4⟩ := HQ.out wq hSq
            go_simp
            try with_reducible rfl
          simp only [Act.put, List.setIfInBounds_toArray, List.set_cons_zero, List.set_cons_succ]
          refine' rC_read hCe (Or.inl ⟨by rfl, fun wq hSq => _⟩) _
          rotate_left
          · obtain ⟨q0, q1, q2, q3, q4⟩ := HQ.out wq hSq
            go_simp
            try with_reducible rfl
          simp only [Act.put, List.setIfInBounds_toArray, List.set_cons_zero, List.set_cons_succ]
          refine' rC_read hCe (Or.inl ⟨by rfl, fun wq hSq => _⟩) _
          rotate_left
          · obtain ⟨q0, q1, q2, q3, q4⟩ := HQ.out wq hSq
            go_simp
            try with_reducible rfl
          simp only [Act.put, List.setIfInBounds_toArray, List.set_cons_zero, List.set_cons_succ]
          refine rC_call hCe (by rfl) 154 #[.agg #[.int .i64 d, .slice (some ⟨bk, off, none⟩) n cp], .int .i64 i, .int .i64 jm] (fun wq hSq => ?_) (fun wq hSq => ?_) (fun u hu => ?_)
          · go_simp
          · refine (HS.out i jm hij wq (HSS.out.bel.trans (hSq.mono HSS.out.bel.size))).mono ?_
            rintro e w' ⟨rfl, hB⟩
            exact ⟨_, rfl, .inl (.inl ⟨rfl, _, _, rfl, rfl⟩), HCG.out _ _ hSq hB⟩
          obtain rfl := (hu.pt (by decide)).spot
          clear hu
          obtain ⟨p, hp⟩ : ∃ p, p = spt xs (plO d jm + i) := ⟨_, rfl⟩
          rw [← hp]
          obtain ⟨px, py, pz⟩ := p
          have Hp := Frame.hid hp
          clear hp
          dsimp only
          simp only [Act.put, List.setIfInBounds_toArray, List.set_cons_zero, List.set_cons_succ]
          refine' rC_read hCe (Or.inl ⟨by rfl, fun wq hSq => _⟩) _
          rotate_left
          · obtain ⟨q0, q1, q2, q3, q4⟩ := HQ.out wq hSq
            go_simp
            try with_reducible rfl
          simp only [Act.put, List.setIfInBounds_toArray, List.set_cons_zero, List.set_cons_succ]
          refine' rC_read hCe (Or.inl ⟨by rfl, fun wq hSq => _⟩) _
          rotate_left
          · obtain ⟨q0, q1, q2, q3, q4⟩ := HQ.out wq hSq
            go_simp
            try with_reducible rfl
          simp only [Act.put, List.setIfInBounds_toArray, List.set_cons_zero, List.set_cons_succ]
          refine rC_call hCe (by rfl) 155 #[.int .i64 j, .int .i64 D] (fun wq hSq => ?_) (fun wq hSq => ?_) (fun u hu => ?_)
          · go_simp
          · refine (quotient_calls _ _ _).mono ?_
            rintro e w' ⟨r, m, rfl, hr, rfl⟩
            exact ⟨_, rfl, .inr ⟨rfl, _, _, _, rfl, rfl, hr⟩, below_drewN hSq m⟩
          obtain ⟨uq, rfl, kq⟩ := hu.quo
          have Kq := Frame.hid kq
          clear hu kq
          simp only [Act.put, List.setIfInBounds_toArray, List.set_cons_zero, List.set_cons_succ]
          refine rC_call hCe (by rfl) 119 #[.agg #[.float .f32 px, .float .f32 py, .float .f32 pz], .float .f32 uq] (fun wq hSq => ?_) (fun wq hSq => ?_) (fun u hu => ?_)
          · go_simp
          · refine (times_calls _ _ _ _ _).mono ?_
            rintro e w' ⟨x1, x2, x3, rfl, hT, hB⟩
            exact ⟨_, rfl, .inl (.inr (.inl ⟨rfl, _, _, _, _, _, _, _, rfl, rfl, hT⟩)), HCG.out _ _ hSq hB⟩
          obtain ⟨tx, ty, tz, rfl, kt⟩ := (hu.pt (by decide)).times
          have Kt := Frame.hid kt
          clear hu kt
          simp only [Act.put, List.setIfInBounds_toArray, List.set_cons_zero, List.set_cons_succ]
          refine rC_call hCe (by rfl) 120 #[.agg #[.float .f32 s1, .float .f32 s2, .float .f32 s3], .agg #[.float .f32 tx, .float .f32 ty, .float .f32 tz]] (fun wq hSq => ?_) (fun wq hSq => ?_) (fun u hu => ?_)
          · go_simp
          · refine (plus_calls _ _ _ _ _ _ _).mono ?_
            rintro e w' ⟨x1, x2, x3, rfl, hT, hB⟩
            exact ⟨_, rfl, .inl (.inr (.inr ⟨rfl, _, _, _, _, _, _, _, _, _, rfl, rfl, hT⟩)), HCG.out _ _ hSq hB⟩
          obtain ⟨zx, zy, zz, rfl, kz⟩ := (hu.pt (by decide)).plus
          have Kz := Frame.hid kz
          clear hu kz
          simp only [Act.put, List.setIfInBounds_toArray, List.set_cons_zero, List.set_cons_succ]
          refine rC_nil (fun w3 hw3 => ?_)
          have hg3 := HSS.out.go hw3
          have HG3 := Frame.hid (hg3.put zx zy zz)
          have k0 := hg3.sm.c0
          have k1 := hg3.sm.c1
          have k2 := hg3.sm.c2
          have kf := hg3.sf
          have kl := hg3.sl
          clear hw3 hg3
          refine wpTail_cons (fun K hK => ?_)
          go_simp
          refine hK.out _ _ (.inl rfl) ?_
          clear hK K
          refine wpTail_done ?_
          go_wp2_with fail
          go_meet
          case rel =>
            refine ⟨rfl, zx, zy, zz, ⟨(s1, s2, s3), HZ2.out, .inl ⟨HIM.out.1, uq, tx, ty, tz, ?_, ?_, Kz.out⟩⟩, HG3.out⟩
            · have h1 := Kq.out
              rw [HDS.out.1] at h1
              exact h1
            · rw [← HIM.out.2, ← Hp.out]; exact Kt.out
        · have HIM := Frame.hid hlt
          have hlt' : ¬ (1 : Int) ≤ (j : Int) := by omega
          go_wp2_with fail
          go_meet
          case rel => exact ⟨rfl, s1, s2, s3, ⟨(s1, s2, s3), HZ2.out, .inr ⟨HIM.out, rfl⟩⟩, HSS.out⟩
      case rest =>
        obtain ⟨-, x, y, z, hz3, hss⟩ := hcut
        have HZ3 := Frame.hid hz3
        have HSF := Frame.hid hss
        have m0 := hss.sm.c0
        have m1 := hss.sm.c1
        have m2 := hss.sm.c2
        have k0 := hss.rz.a.c0
        have k1 := hss.rz.a.c1
        have k2 := hss.rz.a.c2
        have kf := hss.rz.f
        have kl := hss.rz.l
        dsimp only at m0 m1 m2
        obtain ⟨e0, e1, e2⟩ := set3_read (w := wc) (v0 := .float .f32 x) (v1 := .float .f32 y) (v2 := .float .f32 z) k0 k1 k2
        clear hz3 hss
        go_wp2_with fail
        refine bodyPost_ret (v := .agg #[.float .f32 x, .float .f32 y, .float .f32 z]) (by simp [results, Try.results116, go_sem, e0, e1, e2]) rfl ⟨x, y, z, rfl, HZ3.out, ?_⟩
        exact ((HSF.out.bel.setCell (p := ⟨w.heap.size + 1, 0, none⟩) (by simp) _).setCell (p := ⟨w.heap.size + 1, 1, none⟩) (by simp) _).setCell (p := ⟨w.heap.size + 1, 2, none⟩) (by simp) _

end Go.Proofs.Ytnbgnaenlbphcaa
