/-
  PatchAt: the program's side, whole.
-/
import Derived.Test.YtnbgnaenlbphcaaD5
namespace Go.Proofs.Ytnbgnaenlbphcaa
open Go.RowKit Fl Ieee Go.WideShapes Go.Deep
attribute [local go_sem] kstore_f kalloc_drewN kset_drewN hstore_i hstore_s

set_option maxRecDepth 100000 in
set_option maxHeartbeats 4000000 in
theorem patchAt_no (A : Option Addr) (c n : Nat) (xs : List (Nat × Nat × Nat)) (hxn : n = xs.length) (hn : n ≤ 1048576) (d : Int) (a b : Nat) (h : (patB d xs && geP a && geP b) = false) (w : World) (hr : RdS w A xs) :
    Calls Try.prog 50 #[.slice A n c, .int .i64 d, .float .f32 a, .float .f32 b] w fun e' w' => ∃ x y z ok, e' = .returned (.tuple #[.agg #[.float .f32 x, .float .f32 y, .float .f32 z], .bool ok]) ∧ PtO d xs a b x y z ok ∧ Below w.heap.size w w' := by
  have HPV := Frame.hid (fun W (hW : Below w.heap.size w W) => patchValid_calls A xs c n hxn d W hn (hr.below hW))
  have HH := Frame.hid h
  clear hxn hr
  cases h1 : patB d xs <;> cases h2 : geP a <;> cases h3 : geP b
  case true.true.true => rw [h1, h2, h3] at h; cases h
  all_goals
    rw [h1] at HPV
    unfold geP at h2 h3
    clear h h1
    go_enter Try.func50, Try.ntmps50
    go_wp2
    refine wp_scope_jumps 0 (fun _ _ => False) (fun _ _ => 0) rfl ?_ (fun _ _ h => h.elim)
    go_wp2_with (first | (refine wpList_arith rfl _ _ _ _ _ rfl rfl _ 1065353216 _ rfl rfl ?_; intro s1 ns1 hs1 hls1) | (refine wpList_arith rfl _ _ _ _ _ rfl rfl _ _ _ rfl rfl ?_; intro r nr hr hl))
    generalize hwk : ((w.alloc (.cells #[.float .f32 0, .float .f32 0, .float .f32 0] 57)).alloc (.cells #[.int .i64 d, .slice A n c] 146)).drewN (ns1 + nr) = wk
    have hBk : Below w.heap.size w wk := by rw [← hwk]; exact below_drewN (((Below.refl _ _).alloc (Nat.le_refl _) _).alloc (by simp) _) _
    have hN : New wk w.heap.size := by rw [← hwk]; refine ⟨⟨?_, ?_, ?_⟩, fun i => ?_, ?_⟩ <;> simp [go_sem] <;> omega
    refine (HPV.out _ hBk).mono ?_
    rintro e' W ⟨rfl, hB⟩
    have hN2 := hN.go hB
    have HBW := Frame.hid (hBk.trans (hB.mono hBk.size))
    have z0 := hN2.a.c0
    have z1 := hN2.a.c1
    have z2 := hN2.a.c2
    have zf := hN2.f
    obtain ⟨e0, e1, e2⟩ := set3_read (w := W) (v0 := .float .f32 0) (v1 := .float .f32 0) (v2 := .float .f32 0) z0 z1 z2
    clear hB hBk hN hN2 hwk hs1 hr
    go_wp2_with fail
    simp only [Exit.jump]
    refine bodyPost_ret (v := .tuple #[.agg #[.float .f32 0, .float .f32 0, .float .f32 0], .bool false]) (by simp [results, Try.results50, go_sem, e0, e1, e2]) rfl ⟨_, _, _, _, rfl, .inl ⟨fun c' hc' => by rw [HH.out]; rfl, rfl, rfl, rfl, rfl⟩, ?_⟩
    exact ((HBW.out.setCell (p := ⟨w.heap.size, 0, none⟩) (Nat.le_refl _) _).setCell (p := ⟨w.heap.size, 1, none⟩) (Nat.le_refl _) _).setCell (p := ⟨w.heap.size, 2, none⟩) (Nat.le_refl _) _

theorem patchAt_calls (A : Option Addr) (c n : Nat) (xs : List (Nat × Nat × Nat)) (hxn : n = xs.length) (hn : n ≤ 1048576) (d : Int) (a b : Nat) (w : World) (hr : RdS w A xs) :
    Calls Try.prog 50 #[.slice A n c, .int .i64 d, .float .f32 a, .float .f32 b] w fun e' w' => ∃ x y z ok, e' = .returned (.tuple #[.agg #[.float .f32 x, .float .f32 y, .float .f32 z], .bool ok]) ∧ PtO d xs a b x y z ok ∧ Below w.heap.size w w' := by
  cases h : (patB d xs && geP a && geP b)
  · exact patchAt_no A c n xs hxn hn d a b h w hr
  · simp only [Bool.and_eq_true] at h
    obtain ⟨⟨hp, ha⟩, hb⟩ := h
    obtain ⟨e, rfl, he, hl, -⟩ := patB_yes hp
    obtain ⟨bk, off, rfl, -, -⟩ := hr.h (by rw [hl]; exact Nat.lt_of_le_of_lt (Nat.zero_le _) (crd_at (d := e + 1) (i := 0) (j := 0) (by omega) (by omega)).2)
    exact patchAt_yes bk off c n xs hxn e he (hxn.trans hl) hp a b ha hb w hr

set_option maxRecDepth 100000 in
theorem l02LeastD_calls (x : Nat) (w : World) : Calls Try.prog 107 #[.float .f32 x] w fun e w' => e = .returned (.bool (fin .f32 x && geP x)) ∧ Below w.heap.size w w' := by
  cases h1 : fin .f32 x <;> cases h2 : geP x
  all_goals
    unfold geP at h2
    go_enter Try.func107, Try.ntmps107
    go_wp2_with (go_at_call 144; refine (l01Finite_calls _ _).mono ?_; rintro e w' ⟨rfl, n, rfl⟩; rw [h1])
    go_ret
    exact ⟨ret_bool (by simp), by (apply bel_of; (repeat (first | apply below_dn | apply below_al)); exact below_st _)⟩

end Go.Proofs.Ytnbgnaenlbphcaa
