/-
  A spot of a sheet: the program's side.
-/
import Derived.Test.YtnhpiebddelebaaI1
import Derived.Test.YtnhpiebddelebaaH8
namespace Go.Proofs.Ytnhpiebddelebaa
open Go.RowKit Fl Go.WideShapes Go.Deep
attribute [local go_sem] kstore_f kalloc_drewN kset_drewN hstore_i hstore_s

set_option maxRecDepth 100000 in
set_option maxHeartbeats 4000000 in
theorem isPlace_calls (A : Option Addr) (xs : List (Nat × Nat × Nat)) (n : Nat) (hxn : n = xs.length) (a b : Int) (u v : Nat) (w : World) (hn : n ≤ 1048576) (hr : RdS w A xs) :
    Calls Try.prog 108 #[.agg #[.int .i64 a, .int .i64 b, .slice A n n], .float .f32 u, .float .f32 v] w fun e w' => e = .returned (.bool (placeB a b xs u v)) ∧ Below w.heap.size w w' := by
  have hw : Below w.heap.size w (w.alloc (.cells #[.int .i64 a, .int .i64 b, .slice A n n] 30)) := (Below.refl _ _).alloc (Nat.le_refl _) _
  have HC := Frame.hid (validSheet_calls A xs n n hxn a b _ hn (hr.below hw))
  unfold placeB
  clear hr hxn
  cases h1 : shB a b xs <;> cases h2 : isShareB u
  all_goals
    have H1 := Frame.hid h1
    have H2 := Frame.hid h2
    clear h1 h2
    go_enter Try.func108, Try.ntmps108
    go_wp2_with (first | (go_at_call 49; refine (HC.out).mono ?_; rintro e w' ⟨rfl, hB⟩; rw [H1.out]; have HB := Frame.hid (hw.trans (hB.mono hw.size)); clear hB) | (go_at_call 50; refine (isShare_calls _ _).mono ?_; rintro e w2 ⟨rfl, rfl⟩; try rw [H2.out]))
    go_ret
    exact ⟨ret_bool (by simp), HB.out⟩

set_option maxRecDepth 100000 in
set_option maxHeartbeats 4000000 in
theorem sheetAt_calls (A : Option Addr) (xs : List (Nat × Nat × Nat)) (n : Nat) (hxn : n = xs.length) (a b : Int) (u v : Nat) (w : World) (hn : n ≤ 1048576) (hr : RdS w A xs) :
    Calls Try.prog 86 #[.agg #[.int .i64 a, .int .i64 b, .slice A n n], .float .f32 u, .float .f32 v] w fun e w' => ∃ x y z ok, e = .returned (.tuple #[.agg #[.float .f32 x, .float .f32 y, .float .f32 z], .bool ok]) ∧ AtO a b xs u v x y z ok ∧ Below w.heap.size w w' := by
  have hw : Below w.heap.size w ((w.alloc (.cells #[.int .i64 a, .int .i64 b, .slice A n n] 30)).alloc (.cells #[.float .f32 0, .float .f32 0, .float .f32 0] 57)) := by (apply bel_of; (repeat (first | apply below_dn | apply below_al)); exact below_st _)
  have HSH : Hid (Sh3 ((w.alloc (.cells #[.int .i64 a, .int .i64 b, .slice A n n] 30)).alloc (.cells #[.float .f32 0, .float .f32 0, .float .f32 0] 57)) w.heap.size a b (.slice A n n)) := Frame.hid ((Sh3.here w a b (.slice A n n) 30).below ((Below.refl _ _).alloc (Nat.le_refl _) _))
  have HC := Frame.hid (isPlace_calls A xs n hxn a b u v _ hn (hr.below hw))
  have HX := Frame.hid hxn
  have HR := Frame.hid (hr.below hw)
  clear hr hxn
  cases h1 : placeB a b xs u v
  · have H1 := Frame.hid h1
    clear h1
    go_enter Try.func86, Try.ntmps86
    go_wp2_with (go_at_call 108; refine (HC.out).mono ?_; rintro e w' ⟨rfl, hB⟩; rw [H1.out]; have hc := rd_of hB; have hz := fz_of hB; have hs := sz_of hB; have HB := Frame.hid hB; clear hB)
    have k0 : w'.cell? ⟨w.heap.size + 1, 0, none⟩ = some (.float .f32 0) := by rw [hc _ _ (by simp)]; simp [go_sem]
    have k1 : w'.cell? ⟨w.heap.size + 1, 1, none⟩ = some (.float .f32 0) := by rw [hc _ _ (by simp)]; simp [go_sem]
    have k2 : w'.cell? ⟨w.heap.size + 1, 2, none⟩ = some (.float .f32 0) := by rw [hc _ _ (by simp)]; simp [go_sem]
    obtain ⟨e0, e1, e2⟩ := set3_read (w := w') (v0 := .float .f32 0) (v1 := .float .f32 0) (v2 := .float .f32 0) k0 k1 k2
    refine bodyPost_ret (v := .tuple #[.agg #[.float .f32 0, .float .f32 0, .float .f32 0], .bool false]) (by simp [results, Try.results86, go_sem, e0, e1, e2]) rfl ⟨_, _, _, _, rfl, .inr ⟨H1.out, rfl, rfl, rfl, rfl⟩, ?_⟩
    exact (((hw.trans (HB.out.mono hw.size)).setCell (p := ⟨w.heap.size + 1, 0, none⟩) (by simp) _).setCell (p := ⟨w.heap.size + 1, 1, none⟩) (by simp) _).setCell (p := ⟨w.heap.size + 1, 2, none⟩) (by simp) _
  · have H1 := Frame.hid h1
    have h2 : shB a b xs = true := by unfold placeB at h1; simp only [Bool.and_eq_true] at h1; exact h1.1.1
    obtain ⟨p, q, rfl, rfl, hp, hq, hl⟩ := shB_open HX.out h2
    obtain ⟨bk, off, rfl, -, -⟩ := HR.out.h (by have := HX.out; have : 2 * 2 ≤ p * q := Nat.mul_le_mul hp.1 hq.1; omega)
    have HA := Frame.hid (fun W hr => cutsOfRows_calls bk off n p q u xs hp hq HX.out hl W hr)
    clear h1 h2 hl
    go_enter Try.func86, Try.ntmps86
    go_wp2_with fail
    refine (HC.out).mono ?_
    rintro e w1 ⟨rfl, hB1⟩
    rw [H1.out]
    have HR1 := Frame.hid (HR.out.below hB1)
    have HB1 := Frame.hid hB1
    obtain ⟨d0, d1, d2, -⟩ := HSH.out.below hB1
    have hsz1 : w.heap.size + 1 < w1.heap.size := by have := hB1.size; simp at this; omega
    clear hB1
    go_wp2_with fail
    refine (HA.out w1 HR1.out).mono ?_
    rintro e w2 ⟨g2, zs, rfl, hzl, hZ, hR2, hB2⟩
    have HZ := Frame.hid hZ
    have HZL := Frame.hid hzl
    have HR2 := Frame.hid hR2
    have HB2 := Frame.hid (HB1.out.trans (hB2.mono HB1.out.size))
    clear hzl hZ hR2 hB2
    go_wp2_with fail
    refine (cutOf_calls (some ⟨g2, 0, none⟩) zs q q v HZL.out.symm (by omega) w2 HR2.out).mono ?_
    rintro e w3 ⟨ys, rfl, hC, hB3⟩
    obtain ⟨r, hr⟩ : ∃ x, x = sx ys 0 := ⟨_, rfl⟩
    obtain ⟨s, hs⟩ : ∃ x, x = sy ys 0 := ⟨_, rfl⟩
    obtain ⟨t, ht⟩ : ∃ x, x = sz ys 0 := ⟨_, rfl⟩
    rw [← hr, ← hs, ← ht]
    have HAT := Frame.hid (show AtR p q u v xs r s t from ⟨zs, ys, HZL.out, HZ.out, hC, hr, hs, ht⟩)
    have HB3 := Frame.hid (HB2.out.trans (hB3.mono HB2.out.size))
    clear hC hB3 hr hs ht d0 d1 d2
    go_wp2_with fail
    refine (spotIfFinite_calls r s t w3).mono ?_
    rintro e w4a ⟨x, y, z, ok, m, rfl, hG, hw4⟩
    have hB4 : Below w3.heap.size w3 w4a := by rw [hw4]; exact b3 _ _ _ _ _
    have hB14 := HB3.out.trans (hB4.mono HB3.out.size)
    have hc := rd_of hB14
    have hz := fz_of hB14
    have hs := sz_of hB14
    have HG := Frame.hid hG
    have HB4 := Frame.hid hB14
    obtain ⟨w4, hw44⟩ : ∃ w4, w4 = w4a := ⟨_, rfl⟩
    subst hw44
    clear hw4 hG hB4 hB14
    have k0 : w4.cell? ⟨w.heap.size + 1, 0, none⟩ = some (.float .f32 0) := by rw [hc _ _ (by simp)]; simp [go_sem]
    have k1 : w4.cell? ⟨w.heap.size + 1, 1, none⟩ = some (.float .f32 0) := by rw [hc _ _ (by simp)]; simp [go_sem]
    have k2 : w4.cell? ⟨w.heap.size + 1, 2, none⟩ = some (.float .f32 0) := by rw [hc _ _ (by simp)]; simp [go_sem]
    obtain ⟨e0, e1, e2⟩ := set3_read (w := w4) (v0 := .float .f32 x) (v1 := .float .f32 y) (v2 := .float .f32 z) k0 k1 k2
    go_wp2_with fail
    refine bodyPost_ret (v := .tuple #[.agg #[.float .f32 x, .float .f32 y, .float .f32 z], .bool ok]) (by simp [results, Try.results86, go_sem, e0, e1, e2]) rfl ⟨_, _, _, _, rfl, .inl ⟨H1.out, r, s, t, by rw [Int.toNat_natCast, Int.toNat_natCast]; exact HAT.out, HG.out⟩, ?_⟩
    exact (((hw.trans (HB4.out.mono hw.size)).setCell (p := ⟨w.heap.size + 1, 0, none⟩) (by simp) _).setCell (p := ⟨w.heap.size + 1, 1, none⟩) (by simp) _).setCell (p := ⟨w.heap.size + 1, 2, none⟩) (by simp) _

/-- Both hand out the same. -/
theorem AtO.same {a b : Int} {xs : List (Nat × Nat × Nat)} {u v x y z x' y' z' : Nat} {ok ok' : Bool} {n : Nat} (hx : n = xs.length) (h : AtO a b xs u v x y z ok) (g : AtO a b xs u v x' y' z' ok') : S3 x y z x' y' z' ∧ ok = ok' := by
  rcases h with ⟨h1, r, s, t, hr, hg⟩ | ⟨h1, rfl, rfl, rfl, rfl⟩
  · rcases g with ⟨_, r', s', t', gr, gg⟩ | ⟨g1, _⟩
    · have h2 : shB a b xs = true := by unfold placeB at h1; simp only [Bool.and_eq_true] at h1; exact h1.1.1
      obtain ⟨p, q, rfl, rfl, hp, hq, -⟩ := shB_open hx h2
      rw [Int.toNat_natCast, Int.toNat_natCast] at hr gr
      exact GivenR.same (AtR.same (by omega) (by omega) hr gr) hg gg
    · rw [h1] at g1; cases g1
  · rcases g with ⟨g1, _⟩ | ⟨_, rfl, rfl, rfl, rfl⟩
    · rw [h1] at g1; cases g1
    · exact ⟨S3.refl _ _ _, rfl⟩

end Go.Proofs.Ytnhpiebddelebaa
