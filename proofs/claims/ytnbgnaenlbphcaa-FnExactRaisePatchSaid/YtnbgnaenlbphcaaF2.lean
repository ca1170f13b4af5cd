/-
  RaisePatch: the specification's side.
-/
import Derived.Test.YtnbgnaenlbphcaaF1
import Derived.Deep.CutRange
import Derived.Deep.AppendLies
namespace Go.Proofs.Ytnbgnaenlbphcaa
open Go.RowKit Fl Go.WideShapes Go.Deep
attribute [local go_sem] kstore_f kalloc_drewN kset_drewN hstore_i hstore_s

theorem RdS.at' (w : World) (b off : Nat) (xs : List (Nat × Nat × Nat)) (h : RdS w (some ⟨b, off, none⟩) xs) (k : Nat) (hk : k < xs.length) : At3o w b (off + k * 3) (spt xs k).1 (spt xs k).2.1 (spt xs k).2.2 ∧ b < w.heap.size := by
  obtain ⟨b', off', e, hb, hc⟩ := h.h (by omega)
  injection e with e
  injection e with e1 e2
  subst e1 e2
  exact ⟨hc k hk, hb⟩

/-- What the calls may give. -/
def RelSt (d : Nat) (f : FuncId) (args : Array Value) (v : Value) : Prop :=
  (f = 109 ∧ ∃ i j : Nat, args = #[.int .i64 d, .int .i64 i, .int .i64 j] ∧ v = .int .i64 ((plO d j + i : Nat) : Int)) ∨
  (f = 108 ∧ ∃ x y z t a b c, args = #[.agg #[.float .f32 x, .float .f32 y, .float .f32 z], .float .f32 t] ∧ v = .agg #[.float .f32 a, .float .f32 b, .float .f32 c] ∧ TimesR x y z t a b c) ∨
  (f = 110 ∧ ∃ x y z x' y' z' a b c, args = #[.agg #[.float .f32 x, .float .f32 y, .float .f32 z], .agg #[.float .f32 x', .float .f32 y', .float .f32 z']] ∧ v = .agg #[.float .f32 a, .float .f32 b, .float .f32 c] ∧ PlusR x y z x' y' z' a b c)
theorem RelSt.place {d i j : Nat} {v : Value} (h : RelSt d 109 #[.int .i64 d, .int .i64 i, .int .i64 j] v) : v = .int .i64 ((plO d j + i : Nat) : Int) := by
  rcases h with ⟨_, i', j', ha, hv⟩ | ⟨hf, _⟩ | ⟨hf, _⟩
  · simp at ha
    obtain ⟨h1, h2⟩ := ha
    obtain rfl : i = i' := by omega
    obtain rfl : j = j' := by omega
    exact hv
  · exact absurd hf (by decide)
  · exact absurd hf (by decide)
theorem RelSt.times {d x y z t : Nat} {v : Value} (h : RelSt d 108 #[.agg #[.float .f32 x, .float .f32 y, .float .f32 z], .float .f32 t] v) : ∃ a b c, v = .agg #[.float .f32 a, .float .f32 b, .float .f32 c] ∧ TimesR x y z t a b c := by
  rcases h with ⟨hf, _⟩ | ⟨_, x', y', z', t', a, b, c, ha, hv, hr⟩ | ⟨hf, _⟩
  · exact absurd hf (by decide)
  · simp at ha
    obtain ⟨⟨rfl, rfl, rfl⟩, rfl⟩ := ha
    exact ⟨_, _, _, hv, hr⟩
  · exact absurd hf (by decide)
theorem RelSt.plus {d x y z x' y' z' : Nat} {v : Value} (h : RelSt d 110 #[.agg #[.float .f32 x, .float .f32 y, .float .f32 z], .agg #[.float .f32 x', .float .f32 y', .float .f32 z']] v) : ∃ a b c, v = .agg #[.float .f32 a, .float .f32 b, .float .f32 c] ∧ PlusR x y z x' y' z' a b c := by
  rcases h with ⟨hf, _⟩ | ⟨hf, _⟩ | ⟨_, x1, y1, z1, x2, y2, z2, a, b, c, ha, hv, hr⟩
  · exact absurd hf (by decide)
  · exact absurd hf (by decide)
  · simp at ha
    obtain ⟨⟨rfl, rfl, rfl⟩, rfl, rfl, rfl⟩ := ha
    exact ⟨_, _, _, hv, hr⟩

/-- What lies in memory while a raised spot is summed up. -/
structure SmT (wi W : World) (s : Nat × Nat × Nat) : Prop where
  sm : At3 W wi.heap.size s.1 s.2.1 s.2.2
  sf : ∀ i, W.frozen? ⟨wi.heap.size, i, none⟩ = false
  sl : wi.heap.size < W.heap.size
  bel : Below wi.heap.size wi W
theorem SmT.go {wi W W' : World} {s : Nat × Nat × Nat} (h : SmT wi W s) (hB : Below W.heap.size W W') : SmT wi W' s :=
  ⟨h.sm.keep hB h.sl, fun i => (hB.frozen (p := ⟨wi.heap.size, i, none⟩) h.sl).trans (h.sf i), Nat.lt_of_lt_of_le h.sl hB.size, h.bel.trans (hB.mono h.bel.size)⟩
theorem SmT.put {wi W : World} {s : Nat × Nat × Nat} (h : SmT wi W s) (x y z : Nat) : SmT wi (((W.setCell ⟨wi.heap.size, 0, none⟩ (.float .f32 x)).setCell ⟨wi.heap.size, 1, none⟩ (.float .f32 y)).setCell ⟨wi.heap.size, 2, none⟩ (.float .f32 z)) (x, y, z) := by
  obtain ⟨e0, e1, e2⟩ := set3_read (w := W) (v0 := .float .f32 x) (v1 := .float .f32 y) (v2 := .float .f32 z) h.sm.c0 h.sm.c1 h.sm.c2
  refine ⟨⟨e0, e1, e2⟩, fun i => ?_, by simpa using h.sl, ((h.bel.setCell (p := ⟨wi.heap.size, 0, none⟩) (Nat.le_refl _) _).setCell (p := ⟨wi.heap.size, 1, none⟩) (Nat.le_refl _) _).setCell (p := ⟨wi.heap.size, 2, none⟩) (Nat.le_refl _) _⟩
  rw [World.frozen?_setCell, World.frozen?_setCell, World.frozen?_setCell]; exact h.sf i

set_option maxRecDepth 100000 in
set_option maxHeartbeats 8000000 in
theorem specRaisePatch_yes (bk off cx n : Nat) (xs : List (Nat × Nat × Nat)) (hxn : n = xs.length) (d : Nat) (hd : d ≤ 2) (hn : n = plO d (d + 1)) (hp : patB (d : Int) xs = true) (w : World) (hr : RdS w (some ⟨bk, off, none⟩) xs) :
    Calls Try.prog 52 #[.slice (some ⟨bk, off, none⟩) n cx, .int .i64 d] w fun e w' => ∃ v q, e = .returned (.tuple #[v, .bool (finS q)]) ∧ RaL d xs q ∧ OwnedS w' w.heap.size v (if finS q = true then q else []) ∧ Below w.heap.size w w' := by
  obtain ⟨i0, hi, hz0, hz1, hz2⟩ := info_parts infoSpot
  obtain ⟨D, hD⟩ : ∃ D, D = d + 1 := ⟨_, rfl⟩
  have wD : IntKind.i64.wrap ((d : Int) + 1) = (D : Int) := by rw [IntKind.wrap_i64]; omega
  have hD3 : D ≤ 3 := by omega
  have hd2 : ¬ (2 : Int) < (d : Int) := by omega
  have HPV := Frame.hid (fun W (hW : Below w.heap.size w W) => l04Patch_calls (some ⟨bk, off, none⟩) xs cx n hxn (d : Int) W (by rw [hn]; have h : plO d (d + 1) ≤ 10 := (plO_le (d := d) (j := d + 1) (by omega) (Nat.le_refl _)).2; omega) (hr.below hW))
  rw [hp] at HPV
  have HX := Frame.hid (And.intro hxn hn)
  have HR := Frame.hid hr
  have HD := Frame.hid hD
  have HBK := Frame.hid (show bk < w.heap.size from (RdS.at' w bk off xs hr 0 (by rw [← hxn, hn]; exact Nat.lt_of_le_of_lt (Nat.zero_le _) (crd_at (d := d) (i := 0) (j := 0) (by omega) (by omega)).2)).2)
  clear hp hxn hn hr hD
  go_enter Try.func52, Try.ntmps52
  go_wp2_with fail
  refine (HPV.out _ (Below.refl _ _)).mono ?_
  rintro e1 w1 ⟨rfl, hB1⟩
  have HB1 := Frame.hid hB1
  clear hB1
  go_wp2_with fail
  go_loopw [7, 8] (fun v jv wr => ∃ (j : Nat) (zs : List (Nat × Nat × Nat)), j ≤ D + 1 ∧ jv = .int .i64 (j : Nat) ∧ zs.length = plO D j ∧ PL D (fun i j x y z => Rz3 d i j xs (x, y, z)) zs ∧ OwnedS wr w1.heap.size v zs ∧ Below w1.heap.size w1 wr) (fun _ jv _ => D + 1 - (intOf jv).toNat)
  case atStart => exact ⟨0, [], Nat.zero_le _, rfl, rfl, PL.nil, none_litS w1, (Below.refl _ _).alloc (Nat.le_refl _) _⟩
  case round =>
    obtain ⟨j, zs, hj, rfl, hzl, hP, hO, hB⟩ := hrel
    have HZL := Frame.hid hzl
    have HP := Frame.hid hP
    have HO := Frame.hid hO
    have HB := Frame.hid hB
    clear hzl hP hO hB
    have wj : IntKind.i64.wrap ((j : Int) + 1) = ((j + 1 : Nat) : Int) := by rw [IntKind.wrap_i64]; omega
    by_cases hlt : j ≤ D
    · go_wp2_with fail
      obtain ⟨wj0, hwj0⟩ : ∃ wj0, wj0 = wr := ⟨_, rfl⟩
      subst hwj0
      go_loopw [7, 9] (fun v iv wr => ∃ (i : Nat) (zs : List (Nat × Nat × Nat)), i + j ≤ D + 1 ∧ iv = .int .i64 (i : Nat) ∧ zs.length = plO D j + i ∧ PL D (fun i j x y z => Rz3 d i j xs (x, y, z)) zs ∧ OwnedS wr w1.heap.size v zs ∧ Below w1.heap.size w1 wr) (fun _ iv _ => D + 1 - (intOf iv).toNat)
      case atStart => exact ⟨0, zs, by omega, rfl, HZL.out, HP.out, HO.out, HB.out⟩
      case round =>
        obtain ⟨i, zs', hi2, rfl, hzl, hP, hO, hB⟩ := hrel
        obtain ⟨wi, hwi⟩ : ∃ wi, wi = wr := ⟨_, rfl⟩
        subst hwi
        have HYL2 := Frame.hid hzl
        have HP2 := Frame.hid hP
        have HB2 := Frame.hid hB
        obtain ⟨s, hs⟩ : ∃ s, s = i + j := ⟨_, rfl⟩
        have ws : IntKind.i64.wrap ((i : Int) + (j : Int)) = (s : Int) := by rw [IntKind.wrap_i64]; omega
        have wi' : IntKind.i64.wrap ((i : Int) + 1) = ((i + 1 : Nat) : Int) := by rw [IntKind.wrap_i64]; omega
        have HSS := Frame.hid hs
        have hown : wi.ownsRow w1.heap.size 57 3 u7 zs'.length (cellsS zs') := hO
        obtain ⟨L, hL⟩ : ∃ L, L = zs'.length := ⟨_, rfl⟩
        rw [← hL] at hown
        have hL10 : L ≤ 10 := by
          have h1 : plO D (D + 1) ≤ 10 := (plO_le (d := D) (j := D + 1) hD3 (Nat.le_refl _)).2
          rcases Nat.lt_or_ge D s with h3 | h3
          · have h4 := (plO_le (d := D) (j := j + 1) hD3 (by omega)).1
            have h5 : plO D (j + 1) = plO D j + (D + 1 - j) := rfl
            omega
          · have h4 := (crd_at (d := D) (i := i) (j := j) hD3 (by omega)).2
            omega
        have HLL := Frame.hid hL
        have HO2 := Frame.hid hown
        have HOS := Frame.hid hO
        clear hzl hP hO hB hown hL
        by_cases hlt2 : s ≤ D
        · have HCE := Frame.hid (fun k (hk : k < n) W (hW : Below wi.heap.size wi W) => ((RdS.at' w bk off xs HR.out k (by rw [← HX.out.1]; exact hk)).1.keep ((HB1.out.trans (HB2.out.mono HB1.out.size)).trans (hW.mono ((HB1.out.trans (HB2.out.mono HB1.out.size)).size))) HBK.out))
          have hL1 : i ≤ 3 := by omega
          have hL2 : j ≤ 3 := by omega
          clear hs
          go_upto_if 39 with fail
          go_cut [10] from 27 to 98 (fun s10 wx => s10 = .pointer (some ⟨wi.heap.size, 0, none⟩) ∧ ∃ s1 s2 s3, Rz1 d i j xs (s1, s2, s3) ∧ SmT wi wx (s1, s2, s3))
          case first =>
            obtain ⟨s1, hs1⟩ : ∃ s : Nat, s = 0 := ⟨_, rfl⟩
            obtain ⟨s2, hs2⟩ : ∃ s : Nat, s = 0 := ⟨_, rfl⟩
            obtain ⟨s3, hs3⟩ : ∃ s : Nat, s = 0 := ⟨_, rfl⟩
            have hsx : ((0, 0, 0) : Nat × Nat × Nat) = (s1, s2, s3) := by rw [hs1, hs2, hs3]
            have hS0 : SmT wi (wi.alloc (.cells #[.float .f32 0, .float .f32 0, .float .f32 0] 57)) (s1, s2, s3) := by
              rw [← hsx]
              exact ⟨At3.here _ _ _ _ _, fun i => by simp [go_sem], by simp, (Below.refl _ _).alloc (Nat.le_refl _) _⟩
            have HSM := Frame.hid hS0
            have HSX := Frame.hid hsx
            clear hS0 hs1 hs2 hs3 hsx
            generalize wi.alloc (.cells #[.float .f32 0, .float .f32 0, .float .f32 0] 57) = wr at HSM ⊢
            by_cases hlt3 : s < D
            · obtain ⟨a1, ha1⟩ : ∃ a, a = D - i := ⟨_, rfl⟩
              obtain ⟨a2, ha2⟩ : ∃ a, a = D - i - j := ⟨_, rfl⟩
              have hij : i + j ≤ d := by have := HSS.out; have := HD.out; omega
              have w1' : IntKind.i64.wrap ((D : Int) - (i : Int)) = (a1 : Int) := by rw [IntKind.wrap_i64]; have := HSS.out; omega
              have w2' : IntKind.i64.wrap ((a1 : Int) - (j : Int)) = (a2 : Int) := by rw [IntKind.wrap_i64]; have := HSS.out; omega
              have HA2 := Frame.hid ha2
              have HIJ := Frame.hid hij
              clear ha1 ha2 hij
              go_wp2_with fail
              obtain ⟨k, hk⟩ : ∃ k, k = plO d j + i := ⟨_, rfl⟩
              have lk : k < n := by rw [hk, HX.out.2]; exact (crd_at (d := d) (i := i) (j := j) (by omega) HIJ.out).2
              obtain ⟨p, hp⟩ : ∃ p, p = spt xs k := ⟨_, rfl⟩
              have hce := HCE.out k lk
              rw [← hp] at hce
              obtain ⟨px, py, pz⟩ := p
              have hQ : ∀ W, Below wr.heap.size wr W → W.cell? ⟨wi.heap.size, 0, none⟩ = some (.float .f32 s1) ∧ W.cell? ⟨wi.heap.size, 1, none⟩ = some (.float .f32 s2) ∧ W.cell? ⟨wi.heap.size, 2, none⟩ = some (.float .f32 s3) ∧ W.cell? ⟨bk, off + k * 3, none⟩ = some (.float .f32 px) ∧ W.cell? ⟨bk, off + k * 3 + 1, none⟩ = some (.float .f32 py) ∧ W.cell? ⟨bk, off + k * 3 + 2, none⟩ = some (.float .f32 pz) := fun W h => by
                have hg := HSM.out.go h
                have hq := hce W hg.bel
                exact ⟨hg.sm.c0, hg.sm.c1, hg.sm.c2, hq.c0, hq.c1, hq.c2⟩
              have HQ := Frame.hid hQ
              have HPL := Frame.hid (fun W => by have h := l04Place_calls d i j (by omega) HIJ.out W; exact h)
              have Hk := Frame.hid hk
              have Hp := Frame.hid hp
              have hCe : ∃ W, Below wr.heap.size wr W := ⟨wr, Below.refl _ _⟩
              have hCd : ∀ W n, Below wr.heap.size wr W → Below wr.heap.size wr (W.drewN n) := fun W n h => below_drewN h n
              have HCG := Frame.hid (fun W w' (h : Below wr.heap.size wr W) (g : Below W.heap.size W w') => h.trans (g.mono h.size))
              clear hQ hce hp hk
              refine region_may_n 19 (fun W => Below wr.heap.size wr W) (RelSt d) rfl (by kernel_rfl) (by kernel_rfl) (Below.refl _ _).drew ?_
              refine' rC_read hCe (Or.inl ⟨by rfl, fun wq hSq => _⟩) _
              rotate_left
              · obtain ⟨q0, q1, q2, q3, q4, q5⟩ := HQ.out wq hSq
                go_simp
                try with_reducible rfl
              simp only [Act.put, List.setIfInBounds_toArray, List.set_cons_zero, List.set_cons_succ]
              refine' rC_read hCe (Or.inl ⟨by rfl, fun wq hSq => _⟩) _
              rotate_left
              · obtain ⟨q0, q1, q2, q3, q4, q5⟩ := HQ.out wq hSq
                go_simp
                try with_reducible rfl
              simp only [Act.put, List.setIfInBounds_toArray, List.set_cons_zero, List.set_cons_succ]
              refine' rC_read hCe (Or.inl ⟨by rfl, fun wq hSq => _⟩) _
              rotate_left
              · obtain ⟨q0, q1, q2, q3, q4, q5⟩ := HQ.out wq hSq
                go_simp
                try with_reducible rfl
              simp only [Act.put, List.setIfInBounds_toArray, List.set_cons_zero, List.set_cons_succ]
              refine' rC_read hCe (Or.inl ⟨by rfl, fun wq hSq => _⟩) _
              rotate_left
              · obtain ⟨q0, q1, q2, q3, q4, q5⟩ := HQ.out wq hSq
                go_simp
                try with_reducible rfl
              simp only [Act.put, List.setIfInBounds_toArray, List.set_cons_zero, List.set_cons_succ]
              refine' rC_read hCe (Or.inl ⟨by rfl, fun wq hSq => _⟩) _
              rotate_left
              · obtain ⟨q0, q1, q2, q3, q4, q5⟩ := HQ.out wq hSq
                go_simp
                try with_reducible rfl
              simp only [Act.put, List.setIfInBounds_toArray, List.set_cons_zero, List.set_cons_succ]
              refine rC_call hCe (by rfl) 109 #[.int .i64 d, .int .i64 i, .int .i64 j] (fun wq hSq => ?_) (fun wq hSq => ?_) (fun u hu => ?_)
              · go_simp
              · refine (HPL.out wq).mono ?_
                rintro e w' ⟨rfl, rfl⟩
                exact ⟨_, rfl, .inl ⟨rfl, _, _, rfl, rfl⟩, hSq⟩
              obtain rfl := hu.place
              clear hu
              rw [← Hk.out]
              simp only [Act.put, List.setIfInBounds_toArray, List.set_cons_zero, List.set_cons_succ]
              refine' rC_read hCe (Or.inl ⟨by rfl, fun wq hSq => _⟩) _
              rotate_left
              · obtain ⟨q0, q1, q2, q3, q4, q5⟩ := HQ.out wq hSq
                go_simp
                try with_reducible rfl
              simp only [Act.put, List.setIfInBounds_toArray, List.set_cons_zero, List.set_cons_succ]
              refine' rC_read hCe (Or.inl ⟨by rfl, fun wq hSq => _⟩) _
              rotate_left
              · obtain ⟨q0, q1, q2, q3, q4, q5⟩ := HQ.out wq hSq
                go_simp
                try with_reducible rfl
              simp only [Act.put, List.setIfInBounds_toArray, List.set_cons_zero, List.set_cons_succ]
              refine' rC_read hCe (Or.inl ⟨by rfl, fun wq hSq => _⟩) _
              rotate_left
              · obtain ⟨q0, q1, q2, q3, q4, q5⟩ := HQ.out wq hSq
                go_simp
                try with_reducible rfl
              simp only [Act.put, List.setIfInBounds_toArray, List.set_cons_zero, List.set_cons_succ]
              refine' rC_read hCe (Or.inl ⟨by rfl, fun wq hSq => _⟩) _
              rotate_left
              · obtain ⟨q0, q1, q2, q3, q4, q5⟩ := HQ.out wq hSq
                go_simp
                try with_reducible rfl
              simp only [Act.put, List.setIfInBounds_toArray, List.set_cons_zero, List.set_cons_succ]
              refine' rC_read hCe (Or.inl ⟨by rfl, fun wq hSq => _⟩) _
              rotate_left
              · obtain ⟨q0, q1, q2, q3, q4, q5⟩ := HQ.out wq hSq
                go_simp
                try with_reducible rfl
              simp only [Act.put, List.setIfInBounds_toArray, List.set_cons_zero, List.set_cons_succ]
              refine' rC_read hCe (Or.inl ⟨by rfl, fun wq hSq => _⟩) _
              rotate_left
              · obtain ⟨q0, q1, q2, q3, q4, q5⟩ := HQ.out wq hSq
                go_simp
                try with_reducible rfl
              simp only [Act.put, List.setIfInBounds_toArray, List.set_cons_zero, List.set_cons_succ]
              refine' rC_read hCe (Or.inl ⟨by rfl, fun wq hSq => _⟩) _
              rotate_left
              · obtain ⟨q0, q1, q2, q3, q4, q5⟩ := HQ.out wq hSq
                go_simp
                try with_reducible rfl
              simp only [Act.put, List.setIfInBounds_toArray, List.set_cons_zero, List.set_cons_succ]
              refine' rC_read hCe (Or.inl ⟨by rfl, fun wq hSq => _⟩) _
              rotate_left
              · obtain ⟨q0, q1, q2, q3, q4, q5⟩ := HQ.out wq hSq
                go_simp
                try with_reducible rfl
              simp only [Act.put, List.setIfInBounds_toArray, List.set_cons_zero, List.set_cons_succ]
              refine' rC_read hCe (Or.inl ⟨by rfl, fun wq hSq => _⟩) _
              rotate_left
              · obtain ⟨q0, q1, q2, q3, q4, q5⟩ := HQ.out wq hSq
                go_simp
                try with_reducible rfl
              simp only [Act.put, List.setIfInBounds_toArray, List.set_cons_zero, List.set_cons_succ]
              refine' rC_read hCe (Or.inl ⟨by rfl, fun wq hSq => _⟩) _
              rotate_left
              · obtain ⟨q0, q1, q2, q3, q4, q5⟩ := HQ.out wq hSq
                go_simp
                try with_reducible rfl
              simp only [Act.put, List.setIfInBounds_toArray, List.set_cons_zero, List.set_cons_succ]
              refine rC_arith hCe hCd rfl _ _ _ _ _ rfl rfl _ _ _ rfl rfl ?_
              intro uq kq
              have Kq : Hid (QuoI ((a2 : Nat) : Int) ((D : Nat) : Int) uq) := Frame.hid kq
              clear kq
              simp only [Act.put, List.setIfInBounds_toArray, List.set_cons_zero, List.set_cons_succ]
              refine rC_call hCe (by rfl) 108 #[.agg #[.float .f32 px, .float .f32 py, .float .f32 pz], .float .f32 uq] (fun wq hSq => ?_) (fun wq hSq => ?_) (fun u hu => ?_)
              · go_simp
              · refine (l04Times_calls _ _ _ _ _).mono ?_
                rintro e w' ⟨x1, x2, x3, rfl, hT, hB⟩
                exact ⟨_, rfl, .inr (.inl ⟨rfl, _, _, _, _, _, _, _, rfl, rfl, hT⟩), HCG.out _ _ hSq hB⟩
              obtain ⟨tx, ty, tz, rfl, kt⟩ := hu.times
              have Kt := Frame.hid kt
              clear hu kt
              simp only [Act.put, List.setIfInBounds_toArray, List.set_cons_zero, List.set_cons_succ]
              refine rC_call hCe (by rfl) 110 #[.agg #[.float .f32 s1, .float .f32 s2, .float .f32 s3], .agg #[.float .f32 tx, .float .f32 ty, .float .f32 tz]] (fun wq hSq => ?_) (fun wq hSq => ?_) (fun u hu => ?_)
              · go_simp
              · refine (l04Add_calls _ _ _ _ _ _ _).mono ?_
                rintro e w' ⟨x1, x2, x3, rfl, hT, hB⟩
                exact ⟨_, rfl, .inr (.inr ⟨rfl, _, _, _, _, _, _, _, _, _, rfl, rfl, hT⟩), HCG.out _ _ hSq hB⟩
              obtain ⟨zx, zy, zz, rfl, kz⟩ := hu.plus
              have Kz := Frame.hid kz
              clear hu kz
              simp only [Act.put, List.setIfInBounds_toArray, List.set_cons_zero, List.set_cons_succ]
              refine rC_nil (fun w3 hw3 => ?_)
              have hg3 := HSM.out.go hw3
              have HG3 := Frame.hid (hg3.put zx zy zz)
              have k0 := hg3.sm.c0
              have k1 := hg3.sm.c1
              have k2 := hg3.sm.c2
              have kf := hg3.sf
              have kl := hg3.sl
              clear hw3 hg3
              refine wpTail_cons (fun K hK => ?_)
              go_simp
              refine hK.out _ _ (.inl rfl) ?_
              clear hK K
              refine wpTail_done ?_
              go_wp2_with fail
              go_meet
              case rel =>
                refine ⟨rfl, zx, zy, zz, .inl ⟨HIJ.out, uq, tx, ty, tz, ?_, ?_, ?_⟩, HG3.out⟩
                · have h1 := Kq.out
                  rw [HA2.out, HD.out] at h1
                  exact h1
                · rw [← Hk.out, ← Hp.out]; exact Kt.out
                · rw [HSX.out]; exact Kz.out
            · have hij : ¬ i + j ≤ d := by have := HSS.out; have := HD.out; omega
              have HIJ := Frame.hid hij
              clear hij
              go_wp2_with fail
              go_meet
              case rel => exact ⟨rfl, 0, 0, 0, .inr ⟨HIJ.out, rfl⟩, by rw [HSX.out]; exact HSM.out⟩
          case rest =>
            obtain ⟨rfl, s1, s2, s3, hz1, hss⟩ := hcut
            have HZ1 := Frame.hid hz1
            have HSM := Frame.hid hss
            obtain ⟨wr, hwr⟩ : ∃ wr, wr = wc := ⟨_, rfl⟩
            subst hwr
            clear hz1 hss
            go_upto_if 60 with fail
            go_cut [10] from 27 to 98 (fun s10 wx => s10 = .pointer (some ⟨wi.heap.size, 0, none⟩) ∧ ∃ s1 s2 s3, Rz2 d i j xs (s1, s2, s3) ∧ SmT wi wx (s1, s2, s3))
            case first =>
              by_cases hlt : 0 < i
              · obtain ⟨im, him⟩ : ∃ a, a = i - 1 := ⟨_, rfl⟩
                have hij : im + j ≤ d := by have := HSS.out; have := HD.out; omega
                have w1' : IntKind.i64.wrap ((i : Int) - 1) = (im : Int) := by rw [IntKind.wrap_i64]; omega
                have HIM := Frame.hid (And.intro hlt him)
                have hlt' : (0 : Int) < (i : Int) := by omega
                clear him
                go_wp2_with fail
                obtain ⟨k, hk⟩ : ∃ k, k = plO d j + im := ⟨_, rfl⟩
                have lk : k < n := by rw [hk, HX.out.2]; exact (crd_at (d := d) (i := im) (j := j) (by omega) hij).2
                obtain ⟨p, hp⟩ : ∃ p, p = spt xs k := ⟨_, rfl⟩
                have hce := HCE.out k lk
                rw [← hp] at hce
                obtain ⟨px, py, pz⟩ := p
                have hQ : ∀ W, Below wr.heap.size wr W → W.cell? ⟨wi.heap.size, 0, none⟩ = some (.float .f32 s1) ∧ W.cell? ⟨wi.heap.size, 1, none⟩ = some (.float .f32 s2) ∧ W.cell? ⟨wi.heap.size, 2, none⟩ = some (.float .f32 s3) ∧ W.cell? ⟨bk, off + k * 3, none⟩ = some (.float .f32 px) ∧ W.cell? ⟨bk, off + k * 3 + 1, none⟩ = some (.float .f32 py) ∧ W.cell? ⟨bk, off + k * 3 + 2, none⟩ = some (.float .f32 pz) := fun W h => by
                  have hg := HSM.out.go h
                  have hq := hce W hg.bel
                  exact ⟨hg.sm.c0, hg.sm.c1, hg.sm.c2, hq.c0, hq.c1, hq.c2⟩
                have HQ := Frame.hid hQ
                have HPL := Frame.hid (fun W => by have h := l04Place_calls d im j (by omega) hij W; exact h)
                have Hk := Frame.hid hk
                have Hp := Frame.hid hp
                have hCe : ∃ W, Below wr.heap.size wr W := ⟨wr, Below.refl _ _⟩
                have hCd : ∀ W n, Below wr.heap.size wr W → Below wr.heap.size wr (W.drewN n) := fun W n h => below_drewN h n
                have HCG := Frame.hid (fun W w' (h : Below wr.heap.size wr W) (g : Below W.heap.size W w') => h.trans (g.mono h.size))
                clear hQ hce hp hk
                refine region_may_n 16 (fun W => Below wr.heap.size wr W) (RelSt d) rfl (by kernel_rfl) (by kernel_rfl) (Below.refl _ _).drew ?_
                refine' rC_read hCe (Or.inl ⟨by rfl, fun wq hSq => _⟩) _
                rotate_left
                · obtain ⟨q0, q1, q2, q3, q4, q5⟩ := HQ.out wq hSq
                  go_simp
                  try with_reducible rfl
                simp only [Act.put, List.setIfInBounds_toArray, List.set_cons_zero, List.set_cons_succ]
                refine' rC_read hCe (Or.inl ⟨by rfl, fun wq hSq => _⟩) _
                rotate_left
                · obtain ⟨q0, q1, q2, q3, q4, q5⟩ := HQ.out wq hSq
                  go_simp
                  try with_reducible rfl
                simp only [Act.put, List.setIfInBounds_toArray, List.set_cons_zero, List.set_cons_succ]
                refine' rC_read hCe (Or.inl ⟨by rfl, fun wq hSq => _⟩) _
                rotate_left
                · obtain ⟨q0, q1, q2, q3, q4, q5⟩ := HQ.out wq hSq
                  go_simp
                  try with_reducible rfl
                simp only [Act.put, List.setIfInBounds_toArray, List.set_cons_zero, List.set_cons_succ]
                refine' rC_read hCe (Or.inl ⟨by rfl, fun wq hSq => _⟩) _
                rotate_left
                · obtain ⟨q0, q1, q2, q3, q4, q5⟩ := HQ.out wq hSq
                  go_simp
                  try with_reducible rfl
                simp only [Act.put, List.setIfInBounds_toArray, List.set_cons_zero, List.set_cons_succ]
                refine' rC_read hCe (Or.inl ⟨by rfl, fun wq hSq => _⟩) _
                rotate_left
                · obtain ⟨q0, q1, q2, q3, q4, q5⟩ := HQ.out wq hSq
                  go_simp
                  try with_reducible rfl
                simp only [Act.put, List.setIfInBounds_toArray, List.set_cons_zero, List.set_cons_succ]
                refine' rC_read hCe (Or.inl ⟨by rfl, fun wq hSq => _⟩) _
                rotate_left
                · obtain ⟨q0, q1, q2, q3, q4, q5⟩ := HQ.out wq hSq
                  go_simp
                  try with_reducible rfl
                simp only [Act.put, List.setIfInBounds_toArray, List.set_cons_zero, List.set_cons_succ]
                refine rC_call hCe (by rfl) 109 #[.int .i64 d, .int .i64 im, .int .i64 j] (fun wq hSq => ?_) (fun wq hSq => ?_) (fun u hu => ?_)
                · go_simp
                · refine (HPL.out wq).mono ?_
                  rintro e w' ⟨rfl, rfl⟩
                  exact ⟨_, rfl, .inl ⟨rfl, _, _, rfl, rfl⟩, hSq⟩
                obtain rfl := hu.place
                clear hu
                rw [← Hk.out]
                simp only [Act.put, List.setIfInBounds_toArray, List.set_cons_zero, List.set_cons_succ]
                refine' rC_read hCe (Or.inl ⟨by rfl, fun wq hSq => _⟩) _
                rotate_left
                · obtain ⟨q0, q1, q2, q3, q4, q5⟩ := HQ.out wq hSq
                  go_simp
                  try with_reducible rfl
                simp only [Act.put, List.setIfInBounds_toArray, List.set_cons_zero, List.set_cons_succ]
                refine' rC_read hCe (Or.inl ⟨by rfl, fun wq hSq => _⟩) _
                rotate_left
                · obtain ⟨q0, q1, q2, q3, q4, q5⟩ := HQ.out wq hSq
                  go_simp
                  try with_reducible rfl
                simp only [Act.put, List.setIfInBounds_toArray, List.set_cons_zero, List.set_cons_succ]
                refine' rC_read hCe (Or.inl ⟨by rfl, fun wq hSq => _⟩) _
                rotate_left
                · obtain ⟨q0, q1, q2, q3, q4, q5⟩ := HQ.out wq hSq
                  go_simp
                  try with_reducible rfl
                simp only [Act.put, List.setIfInBounds_toArray, List.set_cons_zero, List.set_cons_succ]
                refine' rC_read hCe (Or.inl ⟨by rfl, fun wq hSq => _⟩) _
                rotate_left
                · obtain ⟨q0, q1, q2, q3, q4, q5⟩ := HQ.out wq hSq
                  go_simp
                  try with_reducible rfl
                simp only [Act.put, List.setIfInBounds_toArray, List.set_cons_zero, List.set_cons_succ]
                refine' rC_read hCe (Or.inl ⟨by rfl, fun wq hSq => _⟩) _
                rotate_left
                · obtain ⟨q0, q1, q2, q3, q4, q5⟩ := HQ.out wq hSq
                  go_simp
                  try with_reducible rfl
                simp only [Act.put, List.setIfInBounds_toArray, List.set_cons_zero, List.set_cons_succ]
                refine' rC_read hCe (Or.inl ⟨by rfl, fun wq hSq => _⟩) _
                rotate_left
                · obtain ⟨q0, q1, q2, q3, q4, q5⟩ := HQ.out wq hSq
                  go_simp
                  try with_reducible rfl
                simp only [Act.put, List.setIfInBounds_toArray, List.set_cons_zero, List.set_cons_succ]
                refine rC_arith hCe hCd rfl _ _ _ _ _ rfl rfl _ _ _ rfl rfl ?_
                intro uq kq
                have Kq : Hid (QuoI ((i : Nat) : Int) ((D : Nat) : Int) uq) := Frame.hid kq
                clear kq
                simp only [Act.put, List.setIfInBounds_toArray, List.set_cons_zero, List.set_cons_succ]
                refine rC_call hCe (by rfl) 108 #[.agg #[.float .f32 px, .float .f32 py, .float .f32 pz], .float .f32 uq] (fun wq hSq => ?_) (fun wq hSq => ?_) (fun u hu => ?_)
                · go_simp
                · refine (l04Times_calls _ _ _ _ _).mono ?_
                  rintro e w' ⟨x1, x2, x3, rfl, hT, hB⟩
                  exact ⟨_, rfl, .inr (.inl ⟨rfl, _, _, _, _, _, _, _, rfl, rfl, hT⟩), HCG.out _ _ hSq hB⟩
                obtain ⟨tx, ty, tz, rfl, kt⟩ := hu.times
                have Kt := Frame.hid kt
                clear hu kt
                simp only [Act.put, List.setIfInBounds_toArray, List.set_cons_zero, List.set_cons_succ]
                refine rC_call hCe (by rfl) 110 #[.agg #[.float .f32 s1, .float .f32 s2, .float .f32 s3], .agg #[.float .f32 tx, .float .f32 ty, .float .f32 tz]] (fun wq hSq => ?_) (fun wq hSq => ?_) (fun u hu => ?_)
                · go_simp
                · refine (l04Add_calls _ _ _ _ _ _ _).mono ?_
                  rintro e w' ⟨x1, x2, x3, rfl, hT, hB⟩
                  exact ⟨_, rfl, .inr (.inr ⟨rfl, _, _, _, _, _, _, _, _, _, rfl, rfl, hT⟩), HCG.out _ _ hSq hB⟩
                obtain ⟨zx, zy, zz, rfl, kz⟩ := hu.plus
                have Kz := Frame.hid kz
                clear hu kz
                simp only [Act.put, List.setIfInBounds_toArray, List.set_cons_zero, List.set_cons_succ]
                refine rC_nil (fun w3 hw3 => ?_)
                have hg3 := HSM.out.go hw3
                have HG3 := Frame.hid (hg3.put zx zy zz)
                have k0 := hg3.sm.c0
                have k1 := hg3.sm.c1
                have k2 := hg3.sm.c2
                have kf := hg3.sf
                have kl := hg3.sl
                clear hw3 hg3
                refine wpTail_cons (fun K hK => ?_)
                go_simp
                refine hK.out _ _ (.inl rfl) ?_
                clear hK K
                refine wpTail_done ?_
                go_wp2_with fail
                go_meet
                case rel =>
                  refine ⟨rfl, zx, zy, zz, ⟨(s1, s2, s3), HZ1.out, .inl ⟨HIM.out.1, uq, tx, ty, tz, ?_, ?_, Kz.out⟩⟩, HG3.out⟩
                  · have h1 := Kq.out
                    rw [HD.out] at h1
                    exact h1
                  · rw [← HIM.out.2, ← Hk.out, ← Hp.out]; exact Kt.out
              · have HIM := Frame.hid hlt
                have hlt' : ¬ (0 : Int) < (i : Int) := by omega
                go_wp2_with fail
                go_meet
                case rel => exact ⟨rfl, s1, s2, s3, ⟨(s1, s2, s3), HZ1.out, .inr ⟨HIM.out, rfl⟩⟩, HSM.out⟩
            case rest =>
              obtain ⟨rfl, s1', s2', s3', hz1, hss⟩ := hcut
              have HZ2 := Frame.hid hz1
              have HSM2 := Frame.hid hss
              clear hz1 hss HSM HZ1
              have HSM := HSM2
              clear HSM2
              obtain ⟨wr', hwr⟩ : ∃ wr, wr = wc := ⟨_, rfl⟩
              subst hwr
              clear s1 s2 s3
              obtain ⟨s1, rfl⟩ : ∃ s, s = s1' := ⟨_, rfl⟩
              obtain ⟨s2, rfl⟩ : ∃ s, s = s2' := ⟨_, rfl⟩
              obtain ⟨s3, rfl⟩ : ∃ s, s = s3' := ⟨_, rfl⟩
              clear wr
              obtain ⟨wr, hwr⟩ : ∃ wr, wr = wr' := ⟨_, rfl⟩
              subst hwr
              go_upto_if 78 with fail
              go_cut [10] from 27 to 98 (fun s10 wx => s10 = .pointer (some ⟨wi.heap.size, 0, none⟩) ∧ ∃ s1 s2 s3, Rz3 d i j xs (s1, s2, s3) ∧ SmT wi wx (s1, s2, s3))
              case first =>
                by_cases hlt : 0 < j
                · obtain ⟨jm, hjm⟩ : ∃ a, a = j - 1 := ⟨_, rfl⟩
                  have hij : i + jm ≤ d := by have := HSS.out; have := HD.out; omega
                  have w1' : IntKind.i64.wrap ((j : Int) - 1) = (jm : Int) := by rw [IntKind.wrap_i64]; omega
                  have HIM := Frame.hid (And.intro hlt hjm)
                  have hlt' : (0 : Int) < (j : Int) := by omega
                  clear hjm
                  go_wp2_with fail
                  obtain ⟨k, hk⟩ : ∃ k, k = plO d jm + i := ⟨_, rfl⟩
                  have lk : k < n := by rw [hk, HX.out.2]; exact (crd_at (d := d) (i := i) (j := jm) (by omega) hij).2
                  obtain ⟨p, hp⟩ : ∃ p, p = spt xs k := ⟨_, rfl⟩
                  have hce := HCE.out k lk
                  rw [← hp] at hce
                  obtain ⟨px, py, pz⟩ := p
                  have hQ : ∀ W, Below wr.heap.size wr W → W.cell? ⟨wi.heap.size, 0, none⟩ = some (.float .f32 s1) ∧ W.cell? ⟨wi.heap.size, 1, none⟩ = some (.float .f32 s2) ∧ W.cell? ⟨wi.heap.size, 2, none⟩ = some (.float .f32 s3) ∧ W.cell? ⟨bk, off + k * 3, none⟩ = some (.float .f32 px) ∧ W.cell? ⟨bk, off + k * 3 + 1, none⟩ = some (.float .f32 py) ∧ W.cell? ⟨bk, off + k * 3 + 2, none⟩ = some (.float .f32 pz) := fun W h => by
                    have hg := HSM.out.go h
                    have hq := hce W hg.bel
                    exact ⟨hg.sm.c0, hg.sm.c1, hg.sm.c2, hq.c0, hq.c1, hq.c2⟩
                  have HQ := Frame.hid hQ
                  have HPL := Frame.hid (fun W => by have h := l04Place_calls d i jm (by omega) hij W; exact h)
                  have Hk := Frame.hid hk
                  have Hp := Frame.hid hp
                  have hCe : ∃ W, Below wr.heap.size wr W := ⟨wr, Below.refl _ _⟩
                  have hCd : ∀ W n, Below wr.heap.size wr W → Below wr.heap.size wr (W.drewN n) := fun W n h => below_drewN h n
                  have HCG := Frame.hid (fun W w' (h : Below wr.heap.size wr W) (g : Below W.heap.size W w') => h.trans (g.mono h.size))
                  clear hQ hce hp hk
                  refine region_may_n 16 (fun W => Below wr.heap.size wr W) (RelSt d) rfl (by kernel_rfl) (by kernel_rfl) (Below.refl _ _).drew ?_
                  refine' rC_read hCe (Or.inl ⟨by rfl, fun wq hSq => _⟩) _
                  rotate_left
                  · obtain ⟨q0, q1, q2, q3, q4, q5⟩ := HQ.out wq hSq
                    go_simp
                    try with_reducible rfl
                  simp only [Act.put, List.setIfInBounds_toArray, List.set_cons_zero, List.set_cons_succ]
                  refine' rC_read hCe (Or.inl ⟨by rfl, fun wq hSq => _⟩) _
                  rotate_left
                  · obtain ⟨q0, q1, q2, q3, q4, q5⟩ := HQ.out wq hSq
                    go_simp
                    try with_reducible rfl
                  simp only [Act.put, List.setIfInBounds_toArray, List.set_cons_zero, List.set_cons_succ]
                  refine' rC_read hCe (Or.inl ⟨by rfl, fun wq hSq => _⟩) _
                  rotate_left
                  · obtain ⟨q0, q1, q2, q3, q4, q5⟩ := HQ.out wq hSq
                    go_simp
                    try with_reducible rfl
                  simp only [Act.put, List.setIfInBounds_toArray, List.set_cons_zero, List.set_cons_succ]
                  refine' rC_read hCe (Or.inl ⟨by rfl, fun wq hSq => _⟩) _
                  rotate_left
                  · obtain ⟨q0, q1, q2, q3, q4, q5⟩ := HQ.out wq hSq
                    go_simp
                    try with_reducible rfl
                  simp only [Act.put, List.setIfInBounds_toArray, List.set_cons_zero, List.set_cons_succ]
                  refine' rC_read hCe (Or.inl ⟨by rfl, fun wq hSq => _⟩) _
                  rotate_left
                  · obtain ⟨q0, q1, q2, q3, q4, q5⟩ := HQ.out wq hSq
                    go_simp
                    try with_reducible rfl
                  simp only [Act.put, List.setIfInBounds_toArray, List.set_cons_zero, List.set_cons_succ]
                  refine' rC_read hCe (Or.inl ⟨by rfl, fun wq hSq => _⟩) _
                  rotate_left
                  · obtain ⟨q0, q1, q2, q3, q4, q5⟩ := HQ.out wq hSq
                    go_simp
                    try with_reducible rfl
                  simp only [Act.put, List.setIfInBounds_toArray, List.set_cons_zero, List.set_cons_succ]
                  refine rC_call hCe (by rfl) 109 #[.int .i64 d, .int .i64 i, .int .i64 jm] (fun wq hSq => ?_) (fun wq hSq => ?_) (fun u hu => ?_)
                  · go_simp
                  · refine (HPL.out wq).mono ?_
                    rintro e w' ⟨rfl, rfl⟩
                    exact ⟨_, rfl, .inl ⟨rfl, _, _, rfl, rfl⟩, hSq⟩
                  obtain rfl := hu.place
                  clear hu
                  rw [← Hk.out]
                  simp only [Act.put, List.setIfInBounds_toArray, List.set_cons_zero, List.set_cons_succ]
                  refine' rC_read hCe (Or.inl ⟨by rfl, fun wq hSq => _⟩) _
                  rotate_left
                  · obtain ⟨q0, q1, q2, q3, q4, q5⟩ := HQ.out wq hSq
                    go_simp
                    try with_reducible rfl
                  simp only [Act.put, List.setIfInBounds_toArray, List.set_cons_zero, List.set_cons_succ]
                  refine' rC_read hCe (Or.inl ⟨by rfl, fun wq hSq => _⟩) _
                  rotate_left
                  · obtain ⟨q0, q1, q2, q3, q4, q5⟩ := HQ.out wq hSq
                    go_simp
                    try with_reducible rfl
                  simp only [Act.put, List.setIfInBounds_toArray, List.set_cons_zero, List.set_cons_succ]
                  refine' rC_read hCe (Or.inl ⟨by rfl, fun wq hSq => _⟩) _
                  rotate_left
                  · obtain ⟨q0, q1, q2, q3, q4, q5⟩ := HQ.out wq hSq
                    go_simp
                    try with_reducible rfl
                  simp only [Act.put, List.setIfInBounds_toArray, List.set_cons_zero, List.set_cons_succ]
                  refine' rC_read hCe (Or.inl ⟨by rfl, fun wq hSq => _⟩) _
                  rotate_left
                  · obtain ⟨q0, q1, q2, q3, q4, q5⟩ := HQ.out wq hSq
                    go_simp
                    try with_reducible rfl
                  simp only [Act.put, List.setIfInBounds_toArray, List.set_cons_zero, List.set_cons_succ]
                  refine' rC_read hCe (Or.inl ⟨by rfl, fun wq hSq => _⟩) _
                  rotate_left
                  · obtain ⟨q0, q1, q2, q3, q4, q5⟩ := HQ.out wq hSq
                    go_simp
                    try with_reducible rfl
                  simp only [Act.put, List.setIfInBounds_toArray, List.set_cons_zero, List.set_cons_succ]
                  refine' rC_read hCe (Or.inl ⟨by rfl, fun wq hSq => _⟩) _
                  rotate_left
                  · obtain ⟨q0, q1, q2, q3, q4, q5⟩ := HQ.out wq hSq
                    go_simp
                    try with_reducible rfl
                  simp only [Act.put, List.setIfInBounds_toArray, List.set_cons_zero, List.set_cons_succ]
                  refine rC_arith hCe hCd rfl _ _ _ _ _ rfl rfl _ _ _ rfl rfl ?_
                  intro uq kq
                  have Kq : Hid (QuoI ((j : Nat) : Int) ((D : Nat) : Int) uq) := Frame.hid kq
                  clear kq
                  simp only [Act.put, List.setIfInBounds_toArray, List.set_cons_zero, List.set_cons_succ]
                  refine rC_call hCe (by rfl) 108 #[.agg #[.float .f32 px, .float .f32 py, .float .f32 pz], .float .f32 uq] (fun wq hSq => ?_) (fun wq hSq => ?_) (fun u hu => ?_)
                  · go_simp
                  · refine (l04Times_calls _ _ _ _ _).mono ?_
                    rintro e w' ⟨x1, x2, x3, rfl, hT, hB⟩
                    exact ⟨_, rfl, .inr (.inl ⟨rfl, _, _, _, _, _, _, _, rfl, rfl, hT⟩), HCG.out _ _ hSq hB⟩
                  obtain ⟨tx, ty, tz, rfl, kt⟩ := hu.times
                  have Kt := Frame.hid kt
                  clear hu kt
                  simp only [Act.put, List.setIfInBounds_toArray, List.set_cons_zero, List.set_cons_succ]
                  refine rC_call hCe (by rfl) 110 #[.agg #[.float .f32 s1, .float .f32 s2, .float .f32 s3], .agg #[.float .f32 tx, .float .f32 ty, .float .f32 tz]] (fun wq hSq => ?_) (fun wq hSq => ?_) (fun u hu => ?_)
                  · go_simp
                  · refine (l04Add_calls _ _ _ _ _ _ _).mono ?_
                    rintro e w' ⟨x1, x2, x3, rfl, hT, hB⟩
                    exact ⟨_, rfl, .inr (.inr ⟨rfl, _, _, _, _, _, _, _, _, _, rfl, rfl, hT⟩), HCG.out _ _ hSq hB⟩
                  obtain ⟨zx, zy, zz, rfl, kz⟩ := hu.plus
                  have Kz := Frame.hid kz
                  clear hu kz
                  simp only [Act.put, List.setIfInBounds_toArray, List.set_cons_zero, List.set_cons_succ]
                  refine rC_nil (fun w3 hw3 => ?_)
                  have hg3 := HSM.out.go hw3
                  have HG3 := Frame.hid (hg3.put zx zy zz)
                  have k0 := hg3.sm.c0
                  have k1 := hg3.sm.c1
                  have k2 := hg3.sm.c2
                  have kf := hg3.sf
                  have kl := hg3.sl
                  clear hw3 hg3
                  refine wpTail_cons (fun K hK => ?_)
                  go_simp
                  refine hK.out _ _ (.inl rfl) ?_
                  clear hK K
                  refine wpTail_done ?_
                  go_wp2_with fail
                  go_meet
                  case rel =>
                    refine ⟨rfl, zx, zy, zz, ⟨(s1, s2, s3), HZ2.out, .inl ⟨HIM.out.1, uq, tx, ty, tz, ?_, ?_, Kz.out⟩⟩, HG3.out⟩
                    · have h1 := Kq.out
                      rw [HD.out] at h1
                      exact h1
                    · rw [← HIM.out.2, ← Hk.out, ← Hp.out]; exact Kt.out
                · have HIM := Frame.hid hlt
                  have hlt' : ¬ (0 : Int) < (j : Int) := by omega
                  go_wp2_with fail
                  go_meet
                  case rel => exact ⟨rfl, s1, s2, s3, ⟨(s1, s2, s3), HZ2.out, .inr ⟨HIM.out, rfl⟩⟩, HSM.out⟩
              case rest =>
                obtain ⟨rfl, x, y, z, hz3, hss⟩ := hcut
                have HZ3 := Frame.hid hz3
                have HSF := Frame.hid hss
                have m0 := hss.sm.c0
                have m1 := hss.sm.c1
                have m2 := hss.sm.c2
                dsimp only at m0 m1 m2
                have HOW := Frame.hid (ownsRow_past HO2.out hss.bel)
                have HBX := Frame.hid (HB2.out.trans (hss.bel.mono HB2.out.size))
                have hsz : w1.heap.size ≤ wc.heap.size := (HB2.out.trans (hss.bel.mono HB2.out.size)).size
                clear hz3 hss
                go_wp2_with (at_builtin; refine wpList_append_own _ rfl _ _ 27 rfl w1.heap.size 57 i0 (.agg #[.float .f32 0, .float .f32 0, .float .f32 0]) 3 12 Try.underlying27 hi hz0 hz1 hz2 rfl (by decide) u7 L (cellsS zs') rfl (World.ownsRow.alloc HOW.out _) ⟨wc.heap.size, 0, none⟩ 1 1 (cellsS [(x, y, z)]) rfl rfl (news3' _ _ _ _ _) (cellsS_one _) (by unfold maxLen; omega) (by omega) (by simp; omega) ?_; intro v4 w3 hown3 hgrow3 hnil3; have HBW := Frame.hid (Below.grown (B := w1.heap.size) (a := w1) (HBX.out.alloc hsz (.cells #[.float .f32 x, .float .f32 y, .float .f32 z] 57)) hgrow3 (by simp; omega) (fun k' hk' => (World.ownsRow.lt HOW.out k' hk').1)); have HOX := Frame.hid hown3; clear hown3 hgrow3 hnil3)
                go_roundw
                case rel =>
                  refine ⟨i + 1, zs' ++ [(x, y, z)], by have := HSS.out; omega, by go_num, by rw [List.length_append, HYL2.out]; rfl, PL.snoc HP2.out hD3 (by have := HSS.out; omega) HYL2.out HZ3.out, ?_, HBW.out⟩
                  unfold OwnedS
                  rw [cellsS_append, List.length_append, ← HLL.out]
                  exact HOX.out
                case measure => have := HSS.out; simp [intOf]; omega
        · go_wp2_with fail
          go_roundw
          case rel =>
            refine ⟨j + 1, zs', by omega, by go_num, ?_, HP2.out, HOS.out, HB2.out⟩
            have h1 := HYL2.out
            have h2 := HSS.out
            show zs'.length = plO D j + (D + 1 - j)
            omega
          case measure => simp [intOf]; omega
    · have hjD : j = D + 1 := by omega
      rw [hjD] at HZL
      clear hjD
      obtain ⟨A', c', hv, hrd⟩ := HO.out.rd
      subst hv
      obtain ⟨m', hm'⟩ : ∃ m', m' = zs.length := ⟨_, rfl⟩
      have hm10 : m' ≤ 10 := by rw [hm', HZL.out]; exact (plO_le (d := D) (j := D + 1) hD3 (Nat.le_refl _)).2
      have HSP := Frame.hid (show Calls Try.prog 114 #[.slice A' m' c'] wr (fun e w' => e = .returned (.bool (finS zs)) ∧ Below wr.heap.size wr w') by have h := l04Spots_calls A' zs c' wr (by omega) hrd; rw [← hm'] at h; exact h)
      have HRA : Hid (RaL d xs zs) := Frame.hid (by have h1 := HZL.out; have h2 := HP.out; rw [HD.out] at h1 h2; exact ⟨h1, h2⟩)
      rw [← hm']
      have HM' := Frame.hid hm'
      clear hrd hm'
      go_wp2_with fail
      refine HSP.out.mono ?_
      rintro e9 w9 ⟨rfl, hB9⟩
      have HB9 := Frame.hid (HB1.out.trans ((HB.out.trans (hB9.mono HB.out.size)).mono HB1.out.size))
      have HO9 := Frame.hid ((HO.out.kept hB9).mono' HB1.out.size)
      clear hB9
      cases hf : finS zs
      · go_wp2_with fail
        go_ret2
        exact ⟨.slice none 0 0, zs, by rw [hf]; rfl, HRA.out, by rw [hf]; exact OwnedS.nil _ _, HB9.out⟩
      · go_wp2_with fail
        go_ret2
        refine ⟨.slice A' m' c', zs, by rw [hf]; rfl, HRA.out, ?_, HB9.out⟩
        rw [hf]
        have h := HO9.out
        rw [← HM'.out] at h
        exact h

end Go.Proofs.Ytnbgnaenlbphcaa
