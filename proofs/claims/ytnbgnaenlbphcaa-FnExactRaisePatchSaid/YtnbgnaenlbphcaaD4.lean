/-
  Patches: valid or not, on both sides; indices; the smaller patch.
-/
import Derived.Test.YtnbgnaenlbphcaaD3
namespace Go.Proofs.Ytnbgnaenlbphcaa
open Go.RowKit Fl Go.WideShapes Go.Deep
attribute [local go_sem] kstore_f kalloc_drewN kset_drewN hstore_i hstore_s

set_option maxRecDepth 100000 in
theorem l00InD_calls (a lo hi : Int) (w : World) : Calls Try.prog 83 #[.int .i64 a, .int .i64 lo, .int .i64 hi] w fun e w' => e = .returned (.bool (decide (lo ≤ a) && decide (a ≤ hi))) ∧ w = w' := by
  by_cases h : lo ≤ a
  · go_enter Try.func83, Try.ntmps83
    go_wp2
    go_ret
    exact ⟨ret_bool (by simp; omega), rfl⟩
  · go_enter Try.func83, Try.ntmps83
    go_wp2
    go_ret
    exact ⟨ret_bool (by simp; omega), rfl⟩

theorem pat_num {d : Int} (h1 : 1 ≤ d) (h3 : d ≤ 3) : ∃ s1 s2 s3 s4 : Int, IntKind.i64.wrap (d + 1) = s1 ∧ IntKind.i64.wrap (d + 2) = s2 ∧ IntKind.i64.wrap (s1 * s2) = s3 ∧ IntKind.i64.wrap (s3.tdiv 2) = s4 ∧ s4 = ((d + 1) * (d + 2)).tdiv 2 := by
  refine ⟨_, _, _, _, rfl, rfl, rfl, rfl, ?_⟩
  rcases (by omega : d = 1 ∨ d = 2 ∨ d = 3) with rfl | rfl | rfl <;> decide +kernel

set_option maxRecDepth 100000 in
set_option maxHeartbeats 2000000 in
theorem patchValid_calls (A : Option Addr) (xs : List (Nat × Nat × Nat)) (c n : Nat) (hxn : n = xs.length) (d : Int) (w : World) (hn : n ≤ 1048576) (hr : RdS w A xs) :
    Calls Try.prog 112 #[.agg #[.int .i64 d, .slice A n c]] w fun e w' => e = .returned (.bool (patB d xs)) ∧ Below w.heap.size w w' := by
  have HC := Frame.hid (fun w hr => by have h := areSpots_calls A xs c w (by omega) hr; rw [← hxn] at h; exact h : ∀ w, RdS w A xs → Calls Try.prog 77 #[.slice A n c] w fun e w' => e = .returned (.bool (finS xs)) ∧ Below w.heap.size w w')
  have HR := Frame.hid hr
  have HX := Frame.hid hxn
  clear hr hxn
  by_cases h1 : d < 1
  · have hp : patB d xs = false := by unfold patB; simp; intro h; omega
    have HP := Frame.hid hp
    clear hp
    go_enter Try.func112, Try.ntmps112
    go_wp2_with fail
    go_ret
    exact ⟨ret_bool HP.out.symm, by (apply bel_of; (repeat (first | apply below_dn | apply below_al)); exact below_st _)⟩
  · by_cases h3 : 3 < d
    · have hp : patB d xs = false := by unfold patB; simp; intro h g; omega
      have HP := Frame.hid hp
      clear hp
      go_enter Try.func112, Try.ntmps112
      go_wp2_with fail
      go_ret
      exact ⟨ret_bool HP.out.symm, by (apply bel_of; (repeat (first | apply below_dn | apply below_al)); exact below_st _)⟩
    · obtain ⟨s1, s2, s3, s4, e1, e2, e3, e4, e5⟩ := pat_num (d := d) (by omega) (by omega)
      have HE5 := Frame.hid e5
      have H13 := Frame.hid (show 1 ≤ d ∧ d ≤ 3 by omega)
      clear e5
      by_cases h4 : (n : Int) = s4
      · have H4 := Frame.hid h4
        go_enter Try.func112, Try.ntmps112
        go_wp2_with (go_at_call 77; refine (HC.out _ (HR.out.below ((Below.refl _ _).alloc (Nat.le_refl _) _))).mono ?_; rintro e w' ⟨rfl, hB⟩)
        go_ret
        exact ⟨ret_bool (by unfold patB; rw [← HE5.out, ← HX.out, ← H4.out]; simp [H13.out]), (below_ch (below_al _ (below_st _)) hB rfl).2⟩
      · have H4 := Frame.hid h4
        go_enter Try.func112, Try.ntmps112
        go_wp2_with fail
        go_ret
        exact ⟨ret_bool (by unfold patB; rw [← HE5.out, ← HX.out]; simp [H4.out]), by (apply bel_of; (repeat (first | apply below_dn | apply below_al)); exact below_st _)⟩

set_option maxRecDepth 100000 in
set_option maxHeartbeats 2000000 in
theorem l04Patch_calls (A : Option Addr) (xs : List (Nat × Nat × Nat)) (c n : Nat) (hxn : n = xs.length) (d : Int) (w : World) (hn : n ≤ 1048576) (hr : RdS w A xs) :
    Calls Try.prog 106 #[.slice A n c, .int .i64 d] w fun e w' => e = .returned (.bool (patB d xs)) ∧ Below w.heap.size w w' := by
  have HC := Frame.hid (fun w hr => by have h := l04Spots_calls A xs c w (by omega) hr; rw [← hxn] at h; exact h : ∀ w, RdS w A xs → Calls Try.prog 114 #[.slice A n c] w fun e w' => e = .returned (.bool (finS xs)) ∧ Below w.heap.size w w')
  have HR := Frame.hid hr
  have HX := Frame.hid hxn
  clear hr hxn
  by_cases h1 : (decide (1 ≤ d) && decide (d ≤ 3)) = true
  · have h13 : 1 ≤ d ∧ d ≤ 3 := by simpa using h1
    have H1 := Frame.hid h1
    obtain ⟨s1, s2, s3, s4, e1, e2, e3, e4, e5⟩ := pat_num (d := d) (by omega) (by omega)
    have HE5 := Frame.hid e5
    clear e5 h1
    by_cases h4 : (n : Int) = s4
    · have H4 := Frame.hid h4
      go_enter Try.func106, Try.ntmps106
      go_wp2_with (first | (go_at_call 83; refine (l00InD_calls _ _ _ _).mono ?_; rintro e w' ⟨rfl, rfl⟩; rw [H1.out]) | (go_at_call 114; refine (HC.out _ HR.out).mono ?_; rintro e w' ⟨rfl, hB⟩))
      go_ret
      exact ⟨ret_bool (by unfold patB; rw [← HE5.out, ← HX.out, ← H4.out]; simp [h13]), hB⟩
    · have H4 := Frame.hid h4
      go_enter Try.func106, Try.ntmps106
      go_wp2_with (go_at_call 83; refine (l00InD_calls _ _ _ _).mono ?_; rintro e w' ⟨rfl, rfl⟩; rw [H1.out])
      go_ret
      exact ⟨ret_bool (by unfold patB; rw [← HE5.out, ← HX.out]; simp [H4.out]), Below.refl _ _⟩
  · have h1 : (decide (1 ≤ d) && decide (d ≤ 3)) = false := by simpa using h1
    have H1 := Frame.hid h1
    clear h1
    go_enter Try.func106, Try.ntmps106
    go_wp2_with (go_at_call 83; refine (l00InD_calls _ _ _ _).mono ?_; rintro e w' ⟨rfl, rfl⟩; rw [H1.out])
    go_ret
    exact ⟨ret_bool (by unfold patB; rw [H1.out]; rfl), Below.refl _ _⟩

set_option maxRecDepth 100000 in
set_option maxHeartbeats 2000000 in
theorem l04Place_calls (D i j : Nat) (hD : D ≤ 3) (hij : i + j ≤ D) (w : World) : Calls Try.prog 109 #[.int .i64 D, .int .i64 i, .int .i64 j] w fun e w' => e = .returned (.int .i64 ((plO D j + i : Nat) : Int)) ∧ w = w' := by
  obtain ⟨d1, m1, j1, m2, m3, m4, e1, e2, e3, e4, e5, e6, e7⟩ := place_ok hD hij
  obtain ⟨k, hk⟩ : ∃ k, k = plO D j + i := ⟨_, rfl⟩
  rw [← hk] at e7 ⊢
  clear hk
  go_enter Try.func109, Try.ntmps109
  go_wp2_with fail
  go_ret
  exact ⟨rfl, rfl⟩

set_option maxRecDepth 100000 in
set_option maxHeartbeats 2000000 in
theorem smaller_calls (d a b c bk off n cp : Nat) (xs : List (Nat × Nat × Nat)) (hxn : n = xs.length) (hd : d ≤ 2) (hn : n = plO (d + 1) (d + 2)) (w : World) (hr : RdS w (some ⟨bk, off, none⟩) xs) :
    Calls Try.prog 113 #[.agg #[.int .i64 ((d + 1 : Nat) : Int), .slice (some ⟨bk, off, none⟩) n cp], .float .f32 a, .float .f32 b, .float .f32 c] w fun e w' => ∃ v zs, e = .returned (.agg #[.int .i64 d, v]) ∧ SmP a b c d xs zs ∧ OwnedS w' w.heap.size v zs ∧ Below w.heap.size w w' := by
  obtain ⟨D, hD⟩ : ∃ D, D = d + 1 := ⟨_, rfl⟩
  rw [← hD]
  have wD : IntKind.i64.wrap ((D : Int) - 1) = (d : Int) := by rw [IntKind.wrap_i64]; omega
  obtain ⟨w5, hw5⟩ : ∃ w5, w5 = ((((w.alloc (.cells #[.int .i64 D, .slice (some ⟨bk, off, none⟩) n cp] 146)).alloc (.cells #[.float .f32 a] 25)).alloc (.cells #[.float .f32 b] 25)).alloc (.cells #[.float .f32 c] 25)).alloc (.cells #[.int .i64 0, .slice none 0 0] 146) := ⟨_, rfl⟩
  have hB5 : Below w.heap.size w w5 := by rw [hw5]; exact (below_al _ (below_al _ (below_al _ (below_al _ (below_al _ (below_st _)))))).2
  have hs5 : w5.heap.size = w.heap.size + 5 := by rw [hw5]; simp
  have p0 : w5.cell? ⟨w.heap.size, 0, none⟩ = some (.int .i64 D) := by rw [hw5]; simp [go_sem]
  have p1 : w5.cell? ⟨w.heap.size, 1, none⟩ = some (.slice (some ⟨bk, off, none⟩) n cp) := by rw [hw5]; simp [go_sem]
  have pa : w5.cell? ⟨w.heap.size + 1, 0, none⟩ = some (.float .f32 a) := by rw [hw5]; simp [go_sem]
  have pb : w5.cell? ⟨w.heap.size + 1 + 1, 0, none⟩ = some (.float .f32 b) := by rw [hw5]; simp [go_sem]
  have pc : w5.cell? ⟨w.heap.size + 1 + 1 + 1, 0, none⟩ = some (.float .f32 c) := by rw [hw5]; simp [go_sem]
  have q0 : w5.cell? ⟨w.heap.size + 1 + 1 + 1 + 1, 0, none⟩ = some (.int .i64 0) := by rw [hw5]; simp [go_sem]
  have q1 : w5.cell? ⟨w.heap.size + 1 + 1 + 1 + 1, 1, none⟩ = some (.slice none 0 0) := by rw [hw5]; simp [go_sem]
  have qf : ∀ i, w5.frozen? ⟨w.heap.size + 1 + 1 + 1 + 1, i, none⟩ = false := by rw [hw5]; intro i; simp [go_sem]
  have HQ := Frame.hid (And.intro q0 (And.intro q1 qf))
  have HS5 := Frame.hid hs5
  have HB5 := Frame.hid hB5
  have hcl := patchOfSmall_calls w.heap.size (w.heap.size + 1 + 1 + 1) (w.heap.size + 1) (w.heap.size + 1 + 1) d (by omega) (fun i j x y z => BlR a b c (spt xs (plO (d + 1) j + i)) (spt xs (plO (d + 1) j + (i + 1))) (spt xs (plO (d + 1) (j + 1) + i)) x y z) w5 (fun i j hij W hW => by
    have hl : w.heap.size < w5.heap.size := by omega
    exact smallSpot_calls w.heap.size (w.heap.size + 1 + 1 + 1) (w.heap.size + 1) (w.heap.size + 1 + 1) (d + 1) i j a b c bk off n cp xs hxn (by omega) hn (by omega) W ((hW.cell (p := ⟨w.heap.size, 0, none⟩) (by simp; omega)).trans (by rw [p0, hD])) ((hW.cell (p := ⟨w.heap.size, 1, none⟩) (by simp; omega)).trans p1) ((hW.cell (p := ⟨w.heap.size + 1 + 1 + 1, 0, none⟩) (by simp; omega)).trans pc) ((hW.cell (p := ⟨w.heap.size + 1, 0, none⟩) (by simp; omega)).trans pa) ((hW.cell (p := ⟨w.heap.size + 1 + 1, 0, none⟩) (by simp; omega)).trans pb)
      (by have := hW.size; omega) (by have := hW.size; omega) (by have := hW.size; omega) (by have := hW.size; omega) ((hr.below hB5).below hW))
  have HCL := Frame.hid hcl
  clear hcl p0 p1 pa pb pc q0 q1 qf hs5 hB5 hr hxn hn hD
  go_enter Try.func113, Try.ntmps113
  go_wp2_with fail
  rw [← hw5]
  refine HCL.out.mono ?_
  rintro e w6 ⟨v, zs, rfl, hl, hP, hO, hB⟩
  obtain ⟨q0, q1, qf⟩ := HQ.out
  have hs5 := HS5.out
  have k0 := (hB.cell (p := ⟨w.heap.size + 1 + 1 + 1 + 1, 0, none⟩) (by simp; omega)).trans q0
  have k1 := (hB.cell (p := ⟨w.heap.size + 1 + 1 + 1 + 1, 1, none⟩) (by simp; omega)).trans q1
  have kf : ∀ i, w6.frozen? ⟨w.heap.size + 1 + 1 + 1 + 1, i, none⟩ = false := fun i => (hB.frozen (p := ⟨w.heap.size + 1 + 1 + 1 + 1, i, none⟩) (by simp; omega)).trans (qf i)
  have kl : w.heap.size + 1 + 1 + 1 + 1 < w6.heap.size := by have := hB.size; omega
  obtain ⟨A', c', rfl, -⟩ := hO.rd
  obtain ⟨e0, e1⟩ := set2_readD (w := w6) (v0 := .int .i64 d) (v1 := .slice A' zs.length c') k0 k1
  have HO := Frame.hid hO
  have HB := Frame.hid hB
  have HP := Frame.hid (And.intro hl hP)
  obtain ⟨L, hL⟩ : ∃ L, L = zs.length := ⟨_, rfl⟩
  rw [← hL] at e0 e1 HO ⊢
  clear hO hB hP hw5 q0 q1 qf hl hL hs5
  go_wp2_with fail
  have hs5 := HS5.out
  refine bodyPost_ret (v := .agg #[.int .i64 d, .slice A' L c']) (by simp [results, Try.results113, go_sem, e0, e1]) rfl ⟨_, zs, rfl, HP.out, ?_, ?_⟩
  · exact ((HO.out.setO (by omega)).setO (by omega)).mono' (by omega)
  · exact ((HB5.out.trans (HB.out.mono (by omega))).setCell (p := ⟨w.heap.size + 1 + 1 + 1 + 1, 0, none⟩) (by simp; omega) _).setCell (p := ⟨w.heap.size + 1 + 1 + 1 + 1, 1, none⟩) (by simp; omega) _

end Go.Proofs.Ytnbgnaenlbphcaa
