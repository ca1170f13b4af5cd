/-
  The law of BoxOfSpots, walked.
-/
import Derived.Test.YtbikiihcbocojaaKt
import Derived.Test.YtbikiihcbocojaaKo
namespace Go.Proofs.Ytbikiihcbocojaa
open Go.RowKit Fl Go.WideShapes Go.Deep
attribute [local go_sem] kstore_f kalloc_drewN kset_drewN

theorem BoxR.one {xs : List (Nat × Nat × Nat)} {a b c a' b' c' p q r p' q' r' : Nat} {ok ok' : Bool} (h : BoxR xs a b c a' b' c' ok) (g : BoxR xs p q r p' q' r' ok') : p = a ∧ q = b ∧ r = c ∧ p' = a' ∧ q' = b' ∧ r' = c' ∧ ok' = ok := by
  rcases h with ⟨h0, h1, h2, h3, h4, h5, h6, h7⟩ | ⟨h0, h1, h2, h3, h4, h5, h6, h7⟩ <;> rcases g with ⟨g0, g1, g2, g3, g4, g5, g6, g7⟩ | ⟨g0, g1, g2, g3, g4, g5, g6, g7⟩
  · exact ⟨by rw [h2, g2], by rw [h3, g3], by rw [h4, g4], by rw [h5, g5], by rw [h6, g6], by rw [h7, g7], by rw [h1, g1]⟩
  · rw [h0] at g0; cases g0
  · rw [h0] at g0; cases g0
  · exact ⟨by rw [h2, g2], by rw [h3, g3], by rw [h4, g4], by rw [h5, g5], by rw [h6, g6], by rw [h7, g7], by rw [h1, g1]⟩
/-- Two spots in two new blocks. -/
theorem two_here (W : World) (a b c a' b' c' : Nat) (t : TypeId) : At3 ((W.alloc (.cells #[.float .f32 a, .float .f32 b, .float .f32 c] t)).alloc (.cells #[.float .f32 a', .float .f32 b', .float .f32 c'] t)) W.heap.size a b c ∧
    At3 ((W.alloc (.cells #[.float .f32 a, .float .f32 b, .float .f32 c] t)).alloc (.cells #[.float .f32 a', .float .f32 b', .float .f32 c'] t)) (W.heap.size + 1) a' b' c' ∧ W.heap.size + 1 < ((W.alloc (.cells #[.float .f32 a, .float .f32 b, .float .f32 c] t)).alloc (.cells #[.float .f32 a', .float .f32 b', .float .f32 c'] t)).heap.size := by
  refine ⟨(At3.here W a b c t).keep ((Below.refl _ _).alloc (Nat.le_refl _) _) (by simp), ?_, by simp⟩
  have h := At3.here (W.alloc (.cells #[.float .f32 a, .float .f32 b, .float .f32 c] t)) a' b' c' t
  rwa [World.size_alloc] at h

set_option maxRecDepth 100000 in
set_option maxHeartbeats 4000000 in
theorem fnExactBoxOfSpots_walk (A : Option Addr) (xs : List (Nat × Nat × Nat)) (cc : Nat) (hl : xs.length ≤ maxLen) (w : World) (hr : RdS w A xs) : Calls Try.prog 6 #[.slice A xs.length cc] w fun e w' => e = .returned (.bool true) ∧ Below w.heap.size w w' := by
  by_cases hbig : 1048576 < xs.length
  · go_enter Try.func6, Try.ntmps6
    go_wp2_with (go_at_call 27; refine (szSpotS_calls _ _ _ (by unfold maxLen at hl; omega) _).mono ?_; rintro e w' ⟨rfl, rfl⟩; rw [if_pos hbig])
    go_ret
    exact ⟨rfl, by (apply bel_of; (repeat (first | apply below_dn | apply below_al)); exact below_st _)⟩
  · have hn : xs.length ≤ 1048576 := by omega
    have HRD := Frame.hid (fun W (h : Below w.heap.size w W) => hr.below h)
    have HN := Frame.hid hn
    have HL := Frame.hid hl
    clear hr hn hl
    go_enter Try.func6, Try.ntmps6
    go_wp2_with (go_at_call 27; refine (szSpotS_calls _ _ _ (by have := HN.out; omega) _).mono ?_; rintro e w' ⟨rfl, rfl⟩; rw [if_neg hbig])
    refine (toSpotS_calls A xs _ _ HN.out (HRD.out _ (Below.refl _ _))).mono ?_
    rintro e w1 ⟨g1, rfl, hC1, hB1, hg1⟩
    have HC1 := Frame.hid hC1
    have HB1 := Frame.hid hB1
    clear hC1 hB1 hg1
    go_wp2_with fail
    refine (specBox_calls _ xs _ _ HN.out HC1.out).mono ?_
    rintro e w2 ⟨a, b, c, a', b', c', ok, rfl, hR, hB2⟩
    have HR := Frame.hid hR
    have HB2 := Frame.hid (HB1.out.trans (hB2.mono HB1.out.size))
    clear hR hB2 HC1 HB1
    go_wp2_with fail
    obtain ⟨hA4, hA5, hl5⟩ := two_here w2 a b c a' b' c' 35
    have hB3 : Below w2.heap.size w2 ((w2.alloc (.cells #[.float .f32 a, .float .f32 b, .float .f32 c] 35)).alloc (.cells #[.float .f32 a', .float .f32 b', .float .f32 c'] 35)) := ((Below.refl _ _).alloc (Nat.le_refl _) _).alloc (by simp) _
    generalize hW3 : (w2.alloc (.cells #[.float .f32 a, .float .f32 b, .float .f32 c] 35)).alloc (.cells #[.float .f32 a', .float .f32 b', .float .f32 c'] 35) = w3 at hA4 hA5 hl5 hB3 ⊢
    clear hW3
    have HB3 := Frame.hid (HB2.out.trans (hB3.mono HB2.out.size))
    generalize w2.heap.size = g at hA4 hA5 hl5 ⊢
    clear hB3 HB2
    refine (toSpotS_calls A xs _ _ HN.out (HRD.out _ HB3.out)).mono ?_
    rintro e w4 ⟨g4, rfl, hC4, hB4, hg4⟩
    have HC4 := Frame.hid hC4
    have HB4 := Frame.hid (HB3.out.trans (hB4.mono HB3.out.size))
    have hA4 := hA4.keep hB4 (by omega)
    have hA5 := hA5.keep hB4 (by omega)
    have hl5 : g + 1 < w4.heap.size := Nat.lt_of_lt_of_le hl5 hB4.size
    have HG := Frame.hid (And.intro hA4 (And.intro hA5 hl5))
    clear hC4 hB4 hg4 HB3 hA4 hA5 hl5
    go_wp2_with fail
    refine (boxOfSpots_calls _ xs _ _ HN.out HC4.out).mono ?_
    rintro e w5 ⟨p, q, r, p', q', r', ok', rfl, hR', hB5⟩
    obtain ⟨rfl, rfl, rfl, rfl, rfl, rfl, rfl⟩ := BoxR.one HR.out hR'
    have HC5 := Frame.hid (HC4.out.below hB5)
    have HB5 := Frame.hid (HB4.out.trans (hB5.mono HB4.out.size))
    have HG5 := Frame.hid (And.intro (HG.out.1.keep hB5 (by have := HG.out.2.2; omega)) (And.intro (HG.out.2.1.keep hB5 HG.out.2.2) (Nat.lt_of_lt_of_le HG.out.2.2 hB5.size)))
    clear hR' hB5 HC4 HB4 HG HR
    have htt : (ok' != ok') = false := by cases ok' <;> rfl
    have c0 := HG5.out.1.c0
    have c1 := HG5.out.1.c1
    have c2 := HG5.out.1.c2
    have l1 : g < w5.heap.size := by have := HG5.out.2.2; omega
    go_wp2_with fail
    clear c0 c1 c2 l1
    obtain ⟨hA8, hA9, hl9⟩ := two_here w5 p q r p' q' r' 35
    have hB6 : Below w5.heap.size w5 ((w5.alloc (.cells #[.float .f32 p, .float .f32 q, .float .f32 r] 35)).alloc (.cells #[.float .f32 p', .float .f32 q', .float .f32 r'] 35)) := ((Below.refl _ _).alloc (Nat.le_refl _) _).alloc (by simp) _
    generalize hW6 : (w5.alloc (.cells #[.float .f32 p, .float .f32 q, .float .f32 r] 35)).alloc (.cells #[.float .f32 p', .float .f32 q', .float .f32 r'] 35) = w6 at hA8 hA9 hl9 hB6 ⊢
    clear hW6
    have HB6 := Frame.hid (HB5.out.trans (hB6.mono HB5.out.size))
    have HC6 := Frame.hid (HC5.out.below hB6)
    have HG6 := Frame.hid (And.intro (HG5.out.2.1.keep hB6 HG5.out.2.2) (Nat.lt_of_lt_of_le HG5.out.2.2 hB6.size))
    generalize w5.heap.size = h at hA8 hA9 hl9 ⊢
    clear hB6 HB5 HC5 HG5 hA8
    refine (eqSpot_calls _ _ _ _ _ _ (S3.refl _ _ _) _).mono ?_
    rintro e w7 ⟨rfl, hB7⟩
    have x9 := hA9.keep hB7 hl9
    have x5 := HG6.out.1.keep hB7 HG6.out.2
    have HB7 := Frame.hid (HB6.out.trans (hB7.mono HB6.out.size))
    have HC7 := Frame.hid (HC6.out.below hB7)
    have c0 := x9.c0
    have c1 := x9.c1
    have c2 := x9.c2
    have d0 := x5.c0
    have d1 := x5.c1
    have d2 := x5.c2
    clear hB7 HB6 HC6 HG6 hA9 hl9 x9 x5
    go_wp2_with fail
    refine (eqSpot_calls _ _ _ _ _ _ (S3.refl _ _ _) _).mono ?_
    rintro e w8 ⟨rfl, hB8⟩
    have HB8 := Frame.hid (HB7.out.trans (hB8.mono HB7.out.size))
    have HC8 := Frame.hid (HC7.out.below hB8)
    clear c0 c1 c2 d0 d1 d2 hB8 HB7 HC7
    go_wp2_with fail
    refine (toSpotS_calls A xs _ _ HN.out (HRD.out _ HB8.out)).mono ?_
    rintro e w9 ⟨g9, rfl, hC9, hB9, hg9⟩
    have HB9 := Frame.hid (HB8.out.trans (hB9.mono HB8.out.size))
    have HX9 := Frame.hid (HC8.out.below hB9)
    have HC9 := Frame.hid hC9
    clear hC9 hB9 hg9 HC8 HB8
    go_wp2_with fail
    refine (eqSpotS_calls _ _ xs xs _ _ _ rfl _ HN.out HX9.out HC9.out (LS.refl _)).mono ?_
    rintro e w10 ⟨rfl, hB10⟩
    have HB10 := Frame.hid (HB9.out.trans (hB10.mono HB9.out.size))
    clear hB10 HB9 HX9 HC9
    go_wp2_with fail
    go_ret
    exact ⟨rfl, HB10.out⟩

end Go.Proofs.Ytbikiihcbocojaa
