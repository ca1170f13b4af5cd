/-
  The smaller patch: the program's side.
-/
import Derived.Test.YtnbgnaenlbphcaaD1
namespace Go.Proofs.Ytnbgnaenlbphcaa
open Go.RowKit Fl Go.WideShapes Go.Deep
attribute [local go_sem] kstore_f kalloc_drewN kset_drewN hstore_i hstore_s

theorem place_ok {D i j : Nat} (hD : D ≤ 3) (hij : i + j ≤ D) : ∃ d1 m1 j1 m2 m3 m4 : Int, IntKind.i64.wrap ((D : Int) + 1) = d1 ∧ IntKind.i64.wrap ((j : Int) * d1) = m1 ∧ IntKind.i64.wrap ((j : Int) - 1) = j1 ∧ IntKind.i64.wrap ((j : Int) * j1) = m2 ∧ IntKind.i64.wrap (m2.tdiv 2) = m3 ∧ IntKind.i64.wrap (m1 - m3) = m4 ∧ IntKind.i64.wrap (m4 + (i : Int)) = ((plO D j + i : Nat) : Int) := by
  refine ⟨_, _, _, _, _, _, rfl, rfl, rfl, rfl, rfl, rfl, ?_⟩
  rcases (by omega : D = 0 ∨ D = 1 ∨ D = 2 ∨ D = 3) with rfl | rfl | rfl | rfl <;>
    rcases (by omega : j = 0 ∨ j = 1 ∨ j = 2 ∨ j = 3) with rfl | rfl | rfl | rfl <;>
    rcases (by omega : i = 0 ∨ i = 1 ∨ i = 2 ∨ i = 3) with rfl | rfl | rfl | rfl <;> first | omega | decide +kernel
theorem patchSpotD_calls (bk off c n : Nat) (xs : List (Nat × Nat × Nat)) (hxn : n = xs.length) (D i j : Nat) (hD : D ≤ 3) (hij : i + j ≤ D) (hn : n = plO D (D + 1)) (w : World) (hr : RdS w (some ⟨bk, off, none⟩) xs) :
    Calls Try.prog 154 #[.agg #[.int .i64 D, .slice (some ⟨bk, off, none⟩) n c], .int .i64 i, .int .i64 j] w fun e w' => e = .returned (.agg #[.float .f32 (spt xs (plO D j + i)).1, .float .f32 (spt xs (plO D j + i)).2.1, .float .f32 (spt xs (plO D j + i)).2.2]) ∧ Below w.heap.size w w' := by
  obtain ⟨d1, m1, j1, m2, m3, m4, e1, e2, e3, e4, e5, e6, e7⟩ := place_ok hD hij
  exact patchSpot_calls bk off c n xs hxn D i j d1 m1 j1 m2 m3 m4 (plO D j + i) (by rw [hn]; exact (crd_at hD hij).2) e1 e2 e3 e4 e5 e6 e7 w hr

/-- What the calls of the smaller patch's closure may give. -/
def RelPt (pv : Value) (xs : List (Nat × Nat × Nat)) (D : Nat) (f : FuncId) (args : Array Value) (v : Value) : Prop :=
  (f = 154 ∧ ∃ i j : Nat, args = #[pv, .int .i64 i, .int .i64 j] ∧ v = .agg #[.float .f32 (spt xs (plO D j + i)).1, .float .f32 (spt xs (plO D j + i)).2.1, .float .f32 (spt xs (plO D j + i)).2.2]) ∨
  (f = 119 ∧ ∃ x y z t a b c, args = #[.agg #[.float .f32 x, .float .f32 y, .float .f32 z], .float .f32 t] ∧ v = .agg #[.float .f32 a, .float .f32 b, .float .f32 c] ∧ TimesR x y z t a b c) ∨
  (f = 120 ∧ ∃ x y z x' y' z' a b c, args = #[.agg #[.float .f32 x, .float .f32 y, .float .f32 z], .agg #[.float .f32 x', .float .f32 y', .float .f32 z']] ∧ v = .agg #[.float .f32 a, .float .f32 b, .float .f32 c] ∧ PlusR x y z x' y' z' a b c)
theorem RelPt.spot {pv : Value} {xs : List (Nat × Nat × Nat)} {D i j : Nat} {v : Value} (h : RelPt pv xs D 154 #[pv, .int .i64 i, .int .i64 j] v) : v = .agg #[.float .f32 (spt xs (plO D j + i)).1, .float .f32 (spt xs (plO D j + i)).2.1, .float .f32 (spt xs (plO D j + i)).2.2] := by
  rcases h with ⟨_, i', j', ha, hv⟩ | ⟨hf, _⟩ | ⟨hf, _⟩
  · simp at ha
    obtain ⟨h1, h2⟩ := ha
    obtain rfl : i = i' := by omega
    obtain rfl : j = j' := by omega
    exact hv
  · exact absurd hf (by decide)
  · exact absurd hf (by decide)
theorem RelPt.times {pv : Value} {xs : List (Nat × Nat × Nat)} {D x y z t : Nat} {v : Value} (h : RelPt pv xs D 119 #[.agg #[.float .f32 x, .float .f32 y, .float .f32 z], .float .f32 t] v) : ∃ a b c, v = .agg #[.float .f32 a, .float .f32 b, .float .f32 c] ∧ TimesR x y z t a b c := by
  rcases h with ⟨hf, _⟩ | ⟨_, x', y', z', t', a, b, c, ha, hv, hr⟩ | ⟨hf, _⟩
  · exact absurd hf (by decide)
  · simp at ha
    obtain ⟨⟨rfl, rfl, rfl⟩, rfl⟩ := ha
    exact ⟨_, _, _, hv, hr⟩
  · exact absurd hf (by decide)
theorem RelPt.plus {pv : Value} {xs : List (Nat × Nat × Nat)} {D x y z x' y' z' : Nat} {v : Value} (h : RelPt pv xs D 120 #[.agg #[.float .f32 x, .float .f32 y, .float .f32 z], .agg #[.float .f32 x', .float .f32 y', .float .f32 z']] v) : ∃ a b c, v = .agg #[.float .f32 a, .float .f32 b, .float .f32 c] ∧ PlusR x y z x' y' z' a b c := by
  rcases h with ⟨hf, _⟩ | ⟨hf, _⟩ | ⟨_, x1, y1, z1, x2, y2, z2, a, b, c, ha, hv, hr⟩
  · exact absurd hf (by decide)
  · exact absurd hf (by decide)
  · simp at ha
    obtain ⟨⟨rfl, rfl, rfl⟩, rfl, rfl, rfl⟩ := ha
    exact ⟨_, _, _, hv, hr⟩

set_option maxRecDepth 100000 in
set_option maxHeartbeats 4000000 in
theorem smallSpot_calls (gp gc ga gb D i j a b c bk off n cp : Nat) (xs : List (Nat × Nat × Nat)) (hxn : n = xs.length) (hD : D ≤ 3) (hn : n = plO D (D + 1)) (hij : i + j + 1 ≤ D) (w : World)
    (hp0 : w.cell? ⟨gp, 0, none⟩ = some (.int .i64 D)) (hp1 : w.cell? ⟨gp, 1, none⟩ = some (.slice (some ⟨bk, off, none⟩) n cp)) (hc : w.cell? ⟨gc, 0, none⟩ = some (.float .f32 c)) (ha : w.cell? ⟨ga, 0, none⟩ = some (.float .f32 a)) (hb : w.cell? ⟨gb, 0, none⟩ = some (.float .f32 b))
    (lp : gp < w.heap.size) (lc : gc < w.heap.size) (la : ga < w.heap.size) (lb : gb < w.heap.size) (hr : RdS w (some ⟨bk, off, none⟩) xs) :
    Calls Try.prog 153 #[.int .i64 i, .int .i64 j, .pointer (some ⟨gp, 0, none⟩), .pointer (some ⟨gc, 0, none⟩), .pointer (some ⟨ga, 0, none⟩), .pointer (some ⟨gb, 0, none⟩)] w fun e w' => ∃ x y z, e = .returned (.agg #[.float .f32 x, .float .f32 y, .float .f32 z]) ∧ BlR a b c (spt xs (plO D j + i)) (spt xs (plO D j + (i + 1))) (spt xs (plO D (j + 1) + i)) x y z ∧ Below w.heap.size w w' := by
  obtain ⟨i1, hi1⟩ : ∃ i1, i1 = i + 1 := ⟨_, rfl⟩
  obtain ⟨j1, hj1⟩ : ∃ j1, j1 = j + 1 := ⟨_, rfl⟩
  have wi1 : IntKind.i64.wrap ((i : Int) + 1) = (i1 : Int) := by rw [IntKind.wrap_i64]; omega
  have wj1 : IntKind.i64.wrap ((j : Int) + 1) = (j1 : Int) := by rw [IntKind.wrap_i64]; omega
  rw [← hi1, ← hj1]
  have HS := Frame.hid (fun (i j : Nat) (h : i + j ≤ D) W (hB : Below w.heap.size w W) => patchSpotD_calls bk off cp n xs hxn D i j hD h hn W (hr.below hB))
  have h0 : i + j ≤ D := by omega
  have h1 : i1 + j ≤ D := by omega
  have h2 : i + j1 ≤ D := by omega
  clear hxn hn hr hi1 hj1 hij
  go_enter Try.func153, Try.ntmps153
  go_wp2_with fail
  obtain ⟨w2, hw2⟩ : ∃ w2, w2 = w.alloc (.cells #[.float .f32 0, .float .f32 0, .float .f32 0] 57) := ⟨_, rfl⟩
  rw [← hw2]
  have hB2 : Below w.heap.size w w2 := by rw [hw2]; exact (Below.refl _ _).alloc (Nat.le_refl _) _
  have hQ : ∀ W, Below w2.heap.size w2 W → W.cell? ⟨gp, 0, none⟩ = some (.int .i64 D) ∧ W.cell? ⟨gp, 1, none⟩ = some (.slice (some ⟨bk, off, none⟩) n cp) ∧ W.cell? ⟨gc, 0, none⟩ = some (.float .f32 c) ∧ W.cell? ⟨ga, 0, none⟩ = some (.float .f32 a) ∧ W.cell? ⟨gb, 0, none⟩ = some (.float .f32 b) := fun W h => by
    have hBW := hB2.trans (h.mono hB2.size)
    exact ⟨(hBW.cell lp).trans hp0, (hBW.cell lp).trans hp1, (hBW.cell lc).trans hc, (hBW.cell la).trans ha, (hBW.cell lb).trans hb⟩
  have HQ := Frame.hid hQ
  have HB2 := Frame.hid hB2
  have HN := Frame.hid (show New w2 w.heap.size by rw [hw2]; exact New.here _ _)
  have hCe : ∃ W, Below w2.heap.size w2 W := ⟨w2, Below.refl _ _⟩
  have hCg : ∀ W w', Below w2.heap.size w2 W → Below W.heap.size W w' → Below w2.heap.size w2 w' := fun W w' h g => h.trans (g.mono h.size)
  have HCG := Frame.hid hCg
  clear hQ hw2 hB2 hp0 hp1 hc ha hb hCg lp lc la lb
  refine region_may_n 22 (fun W => Below w2.heap.size w2 W) (RelPt (.agg #[.int .i64 D, .slice (some ⟨bk, off, none⟩) n cp]) xs D) rfl (by kernel_rfl) (by kernel_rfl) (Below.refl _ _).drew ?_
  refine' rC_read hCe (Or.inl ⟨by rfl, fun wq hSq => _⟩) _
  rotate_left
  · obtain ⟨q0, q1, q2, q3, q4⟩ := HQ.out wq hSq
    go_simp
    try with_reducible rfl
  simp only [Act.put, List.setIfInBounds_toArray, List.set_cons_zero, List.set_cons_succ]
  refine' rC_read hCe (Or.inl ⟨by rfl, fun wq hSq => _⟩) _
  rotate_left
  · obtain ⟨q0, q1, q2, q3, q4⟩ := HQ.out wq hSq
    go_simp
    try with_reducible rfl
  simp only [Act.put, List.setIfInBounds_toArray, List.set_cons_zero, List.set_cons_succ]
  refine' rC_read hCe (Or.inl ⟨by rfl, fun wq hSq => _⟩) _
  rotate_left
  · obtain ⟨q0, q1, q2, q3, q4⟩ := HQ.out wq hSq
    go_simp
    try with_reducible rfl
  simp only [Act.put, List.setIfInBounds_toArray, List.set_cons_zero, List.set_cons_succ]
  refine rC_call hCe (by rfl) 154 #[.agg #[.int .i64 D, .slice (some ⟨bk, off, none⟩) n cp], .int .i64 i, .int .i64 j] (fun wq hSq => ?_) (fun wq hSq => ?_) (fun u hu => ?_)
  · go_simp
  · refine (HS.out i j h0 wq (HB2.out.trans (hSq.mono HB2.out.size))).mono ?_
    rintro e w' ⟨rfl, hB⟩
    exact ⟨_, rfl, .inl ⟨rfl, _, _, rfl, rfl⟩, HCG.out _ _ hSq hB⟩
  obtain rfl := hu.spot
  clear hu
  obtain ⟨p, hp⟩ : ∃ p, p = spt xs (plO D j + i) := ⟨_, rfl⟩
  rw [← hp]
  obtain ⟨px, py, pz⟩ := p
  have Hp := Frame.hid hp
  clear hp
  dsimp only
  simp only [Act.put, List.setIfInBounds_toArray, List.set_cons_zero, List.set_cons_succ]
  refine' rC_read hCe (Or.inl ⟨by rfl, fun wq hSq => _⟩) _
  rotate_left
  · obtain ⟨q0, q1, q2, q3, q4⟩ := HQ.out wq hSq
    go_simp
    try with_reducible rfl
  simp only [Act.put, List.setIfInBounds_toArray, List.set_cons_zero, List.set_cons_succ]
  refine rC_call hCe (by rfl) 119 #[.agg #[.float .f32 px, .float .f32 py, .float .f32 pz], .float .f32 c] (fun wq hSq => ?_) (fun wq hSq => ?_) (fun u hu => ?_)
  · go_simp
  · refine (times_calls _ _ _ _ _).mono ?_
    rintro e w' ⟨x1, x2, x3, rfl, hT, hB⟩
    exact ⟨_, rfl, .inr (.inl ⟨rfl, _, _, _, _, _, _, _, rfl, rfl, hT⟩), HCG.out _ _ hSq hB⟩
  obtain ⟨tpx, tpy, tpz, rfl, ktp⟩ := hu.times
  have Ktp := Frame.hid ktp
  clear hu ktp
  simp only [Act.put, List.setIfInBounds_toArray, List.set_cons_zero, List.set_cons_succ]
  refine' rC_read hCe (Or.inl ⟨by rfl, fun wq hSq => _⟩) _
  rotate_left
  · obtain ⟨q0, q1, q2, q3, q4⟩ := HQ.out wq hSq
    go_simp
    try with_reducible rfl
  simp only [Act.put, List.setIfInBounds_toArray, List.set_cons_zero, List.set_cons_succ]
  refine' rC_read hCe (Or.inl ⟨by rfl, fun wq hSq => _⟩) _
  rotate_left
  · obtain ⟨q0, q1, q2, q3, q4⟩ := HQ.out wq hSq
    go_simp
    try with_reducible rfl
  simp only [Act.put, List.setIfInBounds_toArray, List.set_cons_zero, List.set_cons_succ]
  refine' rC_read hCe (Or.inl ⟨by rfl, fun wq hSq => _⟩) _
  rotate_left
  · obtain ⟨q0, q1, q2, q3, q4⟩ := HQ.out wq hSq
    go_simp
    try with_reducible rfl
  simp only [Act.put, List.setIfInBounds_toArray, List.set_cons_zero, List.set_cons_succ]
  refine' rC_read hCe (Or.inl ⟨by rfl, fun wq hSq => _⟩) _
  rotate_left
  · obtain ⟨q0, q1, q2, q3, q4⟩ := HQ.out wq hSq
    go_simp
    try with_reducible rfl
  simp only [Act.put, List.setIfInBounds_toArray, List.set_cons_zero, List.set_cons_succ]
  refine rC_call hCe (by rfl) 154 #[.agg #[.int .i64 D, .slice (some ⟨bk, off, none⟩) n cp], .int .i64 i1, .int .i64 j] (fun wq hSq => ?_) (fun wq hSq => ?_) (fun u hu => ?_)
  · go_simp
  · refine (HS.out i1 j h1 wq (HB2.out.trans (hSq.mono HB2.out.size))).mono ?_
    rintro e w' ⟨rfl, hB⟩
    exact ⟨_, rfl, .inl ⟨rfl, _, _, rfl, rfl⟩, HCG.out _ _ hSq hB⟩
  obtain rfl := hu.spot
  clear hu
  obtain ⟨q, hq⟩ : ∃ p, p = spt xs (plO D j + i1) := ⟨_, rfl⟩
  rw [← hq]
  obtain ⟨qx, qy, qz⟩ := q
  have Hq := Frame.hid hq
  clear hq
  dsimp only
  simp only [Act.put, List.setIfInBounds_toArray, List.set_cons_zero, List.set_cons_succ]
  refine' rC_read hCe (Or.inl ⟨by rfl, fun wq hSq => _⟩) _
  rotate_left
  · obtain ⟨q0, q1, q2, q3, q4⟩ := HQ.out wq hSq
    go_simp
    try with_reducible rfl
  simp only [Act.put, List.setIfInBounds_toArray, List.set_cons_zero, List.set_cons_succ]
  refine rC_call hCe (by rfl) 119 #[.agg #[.float .f32 qx, .float .f32 qy, .float .f32 qz], .float .f32 a] (fun wq hSq => ?_) (fun wq hSq => ?_) (fun u hu => ?_)
  · go_simp
  · refine (times_calls _ _ _ _ _).mono ?_
    rintro e w' ⟨x1, x2, x3, rfl, hT, hB⟩
    exact ⟨_, rfl, .inr (.inl ⟨rfl, _, _, _, _, _, _, _, rfl, rfl, hT⟩), HCG.out _ _ hSq hB⟩
  obtain ⟨tqx, tqy, tqz, rfl, ktq⟩ := hu.times
  have Ktq := Frame.hid ktq
  clear hu ktq
  simp only [Act.put, List.setIfInBounds_toArray, List.set_cons_zero, List.set_cons_succ]
  refine rC_call hCe (by rfl) 120 #[.agg #[.float .f32 tpx, .float .f32 tpy, .float .f32 tpz], .agg #[.float .f32 tqx, .float .f32 tqy, .float .f32 tqz]] (fun wq hSq => ?_) (fun wq hSq => ?_) (fun u hu => ?_)
  · go_simp
  · refine (plus_calls _ _ _ _ _ _ _).mono ?_
    rintro e w' ⟨x1, x2, x3, rfl, hT, hB⟩
    exact ⟨_, rfl, .inr (.inr ⟨rfl, _, _, _, _, _, _, _, _, _, rfl, rfl, hT⟩), HCG.out _ _ hSq hB⟩
  obtain ⟨sx, sy, sz, rfl, ks⟩ := hu.plus
  have Ks := Frame.hid ks
  clear hu ks
  simp only [Act.put, List.setIfInBounds_toArray, List.set_cons_zero, List.set_cons_succ]
  refine' rC_read hCe (Or.inl ⟨by rfl, fun wq hSq => _⟩) _
  rotate_left
  · obtain ⟨q0, q1, q2, q3, q4⟩ := HQ.out wq hSq
    go_simp
    try with_reducible rfl
  simp only [Act.put, List.setIfInBounds_toArray, List.set_cons_zero, List.set_cons_succ]
  refine' rC_read hCe (Or.inl ⟨by rfl, fun wq hSq => _⟩) _
  rotate_left
  · obtain ⟨q0, q1, q2, q3, q4⟩ := HQ.out wq hSq
    go_simp
    try with_reducible rfl
  simp only [Act.put, List.setIfInBounds_toArray, List.set_cons_zero, List.set_cons_succ]
  refine' rC_read hCe (Or.inl ⟨by rfl, fun wq hSq => _⟩) _
  rotate_left
  · obtain ⟨q0, q1, q2, q3, q4⟩ := HQ.out wq hSq
    go_simp
    try with_reducible rfl
  simp only [Act.put, List.setIfInBounds_toArray, List.set_cons_zero, List.set_cons_succ]
  refine' rC_read hCe (Or.inl ⟨by rfl, fun wq hSq => _⟩) _
  rotate_left
  · obtain ⟨q0, q1, q2, q3, q4⟩ := HQ.out wq hSq
    go_simp
    try with_reducible rfl
  simp only [Act.put, List.setIfInBounds_toArray, List.set_cons_zero, List.set_cons_succ]
  refine rC_call hCe (by rfl) 154 #[.agg #[.int .i64 D, .slice (some ⟨bk, off, none⟩) n cp], .int .i64 i, .int .i64 j1] (fun wq hSq => ?_) (fun wq hSq => ?_) (fun u hu => ?_)
  · go_simp
  · refine (HS.out i j1 h2 wq (HB2.out.trans (hSq.mono HB2.out.size))).mono ?_
    rintro e w' ⟨rfl, hB⟩
    exact ⟨_, rfl, .inl ⟨rfl, _, _, rfl, rfl⟩, HCG.out _ _ hSq hB⟩
  obtain rfl := hu.spot
  clear hu
  obtain ⟨r, hr⟩ : ∃ p, p = spt xs (plO D j1 + i) := ⟨_, rfl⟩
  rw [← hr]
  obtain ⟨rx, ry, rz⟩ := r
  have Hr := Frame.hid hr
  clear hr
  dsimp only
  simp only [Act.put, List.setIfInBounds_toArray, List.set_cons_zero, List.set_cons_succ]
  refine' rC_read hCe (Or.inl ⟨by rfl, fun wq hSq => _⟩) _
  rotate_left
  · obtain ⟨q0, q1, q2, q3, q4⟩ := HQ.out wq hSq
    go_simp
    try with_reducible rfl
  simp only [Act.put, List.setIfInBounds_toArray, List.set_cons_zero, List.set_cons_succ]
  refine rC_call hCe (by rfl) 119 #[.agg #[.float .f32 rx, .float .f32 ry, .float .f32 rz], .float .f32 b] (fun wq hSq => ?_) (fun wq hSq => ?_) (fun u hu => ?_)
  · go_simp
  · refine (times_calls _ _ _ _ _).mono ?_
    rintro e w' ⟨x1, x2, x3, rfl, hT, hB⟩
    exact ⟨_, rfl, .inr (.inl ⟨rfl, _, _, _, _, _, _, _, rfl, rfl, hT⟩), HCG.out _ _ hSq hB⟩
  obtain ⟨urx, ury, urz, rfl, kur⟩ := hu.times
  have Kur := Frame.hid kur
  clear hu kur
  simp only [Act.put, List.setIfInBounds_toArray, List.set_cons_zero, List.set_cons_succ]
  refine rC_call hCe (by rfl) 120 #[.agg #[.float .f32 sx, .float .f32 sy, .float .f32 sz], .agg #[.float .f32 urx, .float .f32 ury, .float .f32 urz]] (fun wq hSq => ?_) (fun wq hSq => ?_) (fun u hu => ?_)
  · go_simp
  · refine (plus_calls _ _ _ _ _ _ _).mono ?_
    rintro e w' ⟨x1, x2, x3, rfl, hT, hB⟩
    exact ⟨_, rfl, .inr (.inr ⟨rfl, _, _, _, _, _, _, _, _, _, rfl, rfl, hT⟩), HCG.out _ _ hSq hB⟩
  obtain ⟨zx, zy, zz, rfl, kz⟩ := hu.plus
  have Kz := Frame.hid kz
  clear hu kz
  simp only [Act.put, List.setIfInBounds_toArray, List.set_cons_zero, List.set_cons_succ]
  refine rC_nil (fun w3 hw3 => ?_)
  have hN3 := HN.out.go hw3
  have k0 := hN3.a.c0
  have k1 := hN3.a.c1
  have k2 := hN3.a.c2
  have kf := hN3.f
  obtain ⟨e0, e1, e2⟩ := set3_read (w := w3) (v0 := .float .f32 zx) (v1 := .float .f32 zy) (v2 := .float .f32 zz) k0 k1 k2
  have HB3 := Frame.hid (HB2.out.trans (hw3.mono HB2.out.size))
  clear hw3 hN3
  refine wpTail_cons (fun K hK => ?_)
  go_simp
  refine hK.out _ _ (.inl rfl) ?_
  clear hK K
  refine wpTail_done ?_
  go_wp2_with fail
  refine bodyPost_ret (v := .agg #[.float .f32 zx, .float .f32 zy, .float .f32 zz]) (by simp [results, Try.results153, go_sem, e0, e1, e2]) rfl ⟨zx, zy, zz, rfl, ?_, ?_⟩
  · rw [← Hp.out, ← Hq.out, ← Hr.out]
    exact ⟨_, _, _, _, _, _, _, _, _, _, _, _, Ktp.out, Ktq.out, Ks.out, Kur.out, Kz.out⟩
  · exact ((HB3.out.setCell (p := ⟨w.heap.size, 0, none⟩) (Nat.le_refl _) _).setCell (p := ⟨w.heap.size, 1, none⟩) (Nat.le_refl _) _).setCell (p := ⟨w.heap.size, 2, none⟩) (Nat.le_refl _) _

end Go.Proofs.Ytnbgnaenlbphcaa
