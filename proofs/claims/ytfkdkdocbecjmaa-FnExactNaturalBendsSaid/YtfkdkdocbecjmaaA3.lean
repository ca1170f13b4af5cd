/-
  The area of a triangle: the program's side; the sums of areas.
-/
import Derived.Test.YtfkdkdocbecjmaaA2
import Derived.Test.YtfkdkdocbecjmaaKb
import Derived.Test.YtfkdkdocbecjmaaHv
import Derived.Test.YtfkdkdocbecjmaaKs
import Derived.Deep.RegionHeld3
import Derived.Deep.DeepCutAuto
namespace Go.Proofs.Ytfkdkdocbecjmaa
open Go.RowKit Fl Go.WideShapes Go.Deep
attribute [local go_sem] kstore_f kalloc_drewN kset_drewN hstore_i hstore_s

/-- Half of a number, by a quotient or by a product. -/
def HlfR (a h : Nat) : Prop := FOp .quo .f32 a 1073741824 h ∨ FOp .mul .f32 1056964608 a h
theorem HlfR.same {a a' h h' : Nat} (e : FSame .f32 a a') (k : HlfR a h) (g : HlfR a' h') : FSame .f32 h h' := by
  rcases k with k | k <;> rcases g with g | g
  · exact FOp.same e (FSame.refl _ _) k g
  · obtain ⟨m, hm⟩ : ∃ m, FOp .mul .f32 1056964608 a m := by
      unfold FOp
      cases hb : floatBits .mul .f32 1056964608 a with
      | some b => exact ⟨b, rfl⟩
      | none => exact ⟨2143289344, by decide +kernel⟩
    exact (half_same k hm).trans (FOp.same (FSame.refl _ _) e hm g)
  · obtain ⟨m, hm⟩ : ∃ m, FOp .mul .f32 1056964608 a' m := by
      unfold FOp
      cases hb : floatBits .mul .f32 1056964608 a' with
      | some b => exact ⟨b, rfl⟩
      | none => exact ⟨2143289344, by decide +kernel⟩
    exact (FOp.same (FSame.refl _ _) e k hm).trans (half_same g hm).symm
  · exact FOp.same (FSame.refl _ _) e k g

/-- The area of a triangle, as its long half. -/
def TriR (x0 y0 z0 x1 y1 z1 x2 y2 z2 r : Nat) (ok : Bool) : Prop :=
  ∃ a b c a' b' c' p q s k, LessR x1 y1 z1 x0 y0 z0 a b c ∧ LessR x2 y2 z2 x0 y0 z0 a' b' c' ∧ CrossO a b c a' b' c' p q s k ∧ ((ok = false ∧ (k = false ∨ ∃ l, LongO p q s l false)) ∨ (ok = true ∧ k = true ∧ ∃ l, LongO p q s l true ∧ HlfR l r))
theorem LessR.sm {x y z x' y' z' a b c A B C : Nat} (h : LessR x y z x' y' z' a b c) (g : LessR x y z x' y' z' A B C) : S3 a b c A B C := LessR.same (S3.refl _ _ _) (S3.refl _ _ _) h g
theorem TriR.same {x0 y0 z0 x1 y1 z1 x2 y2 z2 r R : Nat} {k K : Bool} (h : TriR x0 y0 z0 x1 y1 z1 x2 y2 z2 r k) (g : TriR x0 y0 z0 x1 y1 z1 x2 y2 z2 R K) : k = K ∧ (k = true → FSame .f32 r R) := by
  obtain ⟨a, b, c, a', b', c', p, q, s, t, h1, h2, h3, h4⟩ := h
  obtain ⟨A, B, C, A', B', C', P, Q, S, T, g1, g2, g3, g4⟩ := g
  obtain ⟨e1, rfl⟩ := CrossO.same (h1.sm g1) (h2.sm g2) h3 g3
  rcases h4 with ⟨rfl, h4⟩ | ⟨rfl, rfl, l, hl, hh⟩ <;> rcases g4 with ⟨rfl, g4⟩ | ⟨rfl, gk, L, gl, gh⟩
  · exact ⟨rfl, fun e => by cases e⟩
  · subst gk
    rcases h4 with h4 | ⟨l, h4⟩
    · cases h4
    · cases (LongO.same e1 h4 gl).2
  · rcases g4 with g4 | ⟨l, g4⟩
    · cases g4
    · cases (LongO.same e1 hl g4).2
  · exact ⟨rfl, fun _ => HlfR.same (LongO.same e1 hl gl).1 hh gh⟩

set_option maxRecDepth 100000 in
set_option maxHeartbeats 400000 in
theorem halfB_calls (x : Nat) (w : World) : Calls Try.prog 58 #[.float .f32 x] w fun e w' => ∃ r, e = .returned (.float .f32 r) ∧ HlfR x r ∧ Below w.heap.size w w' := by
  go_enter Try.func58, Try.ntmps58
  go_wp2_with (refine wpList_arith rfl _ _ _ _ _ rfl rfl _ _ _ rfl rfl ?_; intro r n hr hl)
  refine bodyPost_ret (v := .float .f32 r) (by simp [results, Try.results58, go_sem]) rfl ⟨_, rfl, .inl hr, below_drewN (Below.refl _ _) _⟩

set_option maxRecDepth 100000 in
set_option maxHeartbeats 4000000 in
theorem area_calls (x0 y0 z0 x1 y1 z1 x2 y2 z2 : Nat) (w : World) : Calls Try.prog 47 #[.agg #[.float .f32 x0, .float .f32 y0, .float .f32 z0, .float .f32 x1, .float .f32 y1, .float .f32 z1, .float .f32 x2, .float .f32 y2, .float .f32 z2]] w fun e w' => ∃ r ok, e = .returned (.tuple #[.float .f32 r, .bool ok]) ∧ TriR x0 y0 z0 x1 y1 z1 x2 y2 z2 r ok ∧ Below w.heap.size w w' := by
  have hST : SK (w.heap.size + 1) (w.alloc (.cells #[.float .f32 x0, .float .f32 y0, .float .f32 z0, .float .f32 x1, .float .f32 y1, .float .f32 z1, .float .f32 x2, .float .f32 y2, .float .f32 z2] 79)) [((⟨w.heap.size, 0, none⟩ : Addr), (.float .f32 x0 : Value)), ((⟨w.heap.size, 1, none⟩ : Addr), (.float .f32 y0 : Value)), ((⟨w.heap.size, 2, none⟩ : Addr), (.float .f32 z0 : Value)), ((⟨w.heap.size, 3, none⟩ : Addr), (.float .f32 x1 : Value)), ((⟨w.heap.size, 4, none⟩ : Addr), (.float .f32 y1 : Value)), ((⟨w.heap.size, 5, none⟩ : Addr), (.float .f32 z1 : Value)), ((⟨w.heap.size, 6, none⟩ : Addr), (.float .f32 x2 : Value)), ((⟨w.heap.size, 7, none⟩ : Addr), (.float .f32 y2 : Value)), ((⟨w.heap.size, 8, none⟩ : Addr), (.float .f32 z2 : Value))] (w.alloc (.cells #[.float .f32 x0, .float .f32 y0, .float .f32 z0, .float .f32 x1, .float .f32 y1, .float .f32 z1, .float .f32 x2, .float .f32 y2, .float .f32 z2] 79)) := SK.start (by simp) (by intro p hp; simp at hp; rcases hp with rfl | rfl | rfl | rfl | rfl | rfl | rfl | rfl | rfl <;> simp [go_sem]) (by intro p hp; simp at hp; rcases hp with rfl | rfl | rfl | rfl | rfl | rfl | rfl | rfl | rfl <;> simp)
  have HW1 := Frame.hid (by (apply bel_of; (repeat (first | apply below_dn | apply below_al)); exact below_st _) : Below w.heap.size w (w.alloc (.cells #[.float .f32 x0, .float .f32 y0, .float .f32 z0, .float .f32 x1, .float .f32 y1, .float .f32 z1, .float .f32 x2, .float .f32 y2, .float .f32 z2] 79)))
  go_enter Try.func47, Try.ntmps47
  go_wp2
  go_cut [4, 5] (fun s4 s5 wx => ∃ g p q s k, s4 = .pointer (some ⟨g, 0, none⟩) ∧ s5 = .bool k ∧ (∃ a b c a' b' c', LessR x1 y1 z1 x0 y0 z0 a b c ∧ LessR x2 y2 z2 x0 y0 z0 a' b' c' ∧ CrossO a b c a' b' c' p q s k) ∧ SK (w.heap.size + 1) (w.alloc (.cells #[.float .f32 x0, .float .f32 y0, .float .f32 z0, .float .f32 x1, .float .f32 y1, .float .f32 z1, .float .f32 x2, .float .f32 y2, .float .f32 z2] 79)) [((⟨w.heap.size, 0, none⟩ : Addr), (.float .f32 x0 : Value)), ((⟨w.heap.size, 1, none⟩ : Addr), (.float .f32 y0 : Value)), ((⟨w.heap.size, 2, none⟩ : Addr), (.float .f32 z0 : Value)), ((⟨w.heap.size, 3, none⟩ : Addr), (.float .f32 x1 : Value)), ((⟨w.heap.size, 4, none⟩ : Addr), (.float .f32 y1 : Value)), ((⟨w.heap.size, 5, none⟩ : Addr), (.float .f32 z1 : Value)), ((⟨w.heap.size, 6, none⟩ : Addr), (.float .f32 x2 : Value)), ((⟨w.heap.size, 7, none⟩ : Addr), (.float .f32 y2 : Value)), ((⟨w.heap.size, 8, none⟩ : Addr), (.float .f32 z2 : Value))] wx ∧ At3 wx g p q s ∧ w.heap.size ≤ g ∧ g < wx.heap.size)
  case first =>
    go_region_held3 (fun W => W.cell? ⟨w.heap.size, 0, none⟩ = some (.float .f32 x0) ∧ W.cell? ⟨w.heap.size, 1, none⟩ = some (.float .f32 y0) ∧ W.cell? ⟨w.heap.size, 2, none⟩ = some (.float .f32 z0) ∧ W.cell? ⟨w.heap.size, 3, none⟩ = some (.float .f32 x1) ∧ W.cell? ⟨w.heap.size, 4, none⟩ = some (.float .f32 y1) ∧ W.cell? ⟨w.heap.size, 5, none⟩ = some (.float .f32 z1) ∧ W.cell? ⟨w.heap.size, 6, none⟩ = some (.float .f32 x2) ∧ W.cell? ⟨w.heap.size, 7, none⟩ = some (.float .f32 y2) ∧ W.cell? ⟨w.heap.size, 8, none⟩ = some (.float .f32 z2) ∧ w.heap.size + 1 ≤ W.heap.size ∧ SK (w.heap.size + 1) ((w.alloc (.cells #[.float .f32 x0, .float .f32 y0, .float .f32 z0, .float .f32 x1, .float .f32 y1, .float .f32 z1, .float .f32 x2, .float .f32 y2, .float .f32 z2] 79))) [(⟨w.heap.size, 0, none⟩, .float .f32 x0), (⟨w.heap.size, 1, none⟩, .float .f32 y0), (⟨w.heap.size, 2, none⟩, .float .f32 z0), (⟨w.heap.size, 3, none⟩, .float .f32 x1), (⟨w.heap.size, 4, none⟩, .float .f32 y1), (⟨w.heap.size, 5, none⟩, .float .f32 z1), (⟨w.heap.size, 6, none⟩, .float .f32 x2), (⟨w.heap.size, 7, none⟩, .float .f32 y2), (⟨w.heap.size, 8, none⟩, .float .f32 z2)] W) ((refine SK_all9 ?_; (repeat' first | with_reducible assumption | exact SK_of9 (by with_reducible assumption) | exact hST | apply SK.drew | apply SK.drewN | apply SK.alloc | (refine SK.call ?_ (by with_reducible assumption)) | (refine SK.set ?_ _ _ _ (by omega))))) (first | (go_at_call 79; refine (less_calls _ _ _ _ _ _ _).mono ?_; rintro e w' ⟨a, b, c, rfl, hL, hB⟩; have hge := SK.ge (n := w.heap.size + 1) (wc := (w.alloc (.cells #[.float .f32 x0, .float .f32 y0, .float .f32 z0, .float .f32 x1, .float .f32 y1, .float .f32 z1, .float .f32 x2, .float .f32 y2, .float .f32 z2] 79))) (L := [(⟨w.heap.size, 0, none⟩, .float .f32 x0), (⟨w.heap.size, 1, none⟩, .float .f32 y0), (⟨w.heap.size, 2, none⟩, .float .f32 z0), (⟨w.heap.size, 3, none⟩, .float .f32 x1), (⟨w.heap.size, 4, none⟩, .float .f32 y1), (⟨w.heap.size, 5, none⟩, .float .f32 z1), (⟨w.heap.size, 6, none⟩, .float .f32 x2), (⟨w.heap.size, 7, none⟩, .float .f32 y2), (⟨w.heap.size, 8, none⟩, .float .f32 z2)]) (by repeat' first | with_reducible assumption | exact SK_of9 (by with_reducible assumption) | exact hST | apply SK.drew | apply SK.drewN | apply SK.alloc) hB; (try (first | have hN := New.born2 hB | have hN := New.born1 hB | have hN := New.bornD hB | have hN := New.born hB | have hN := New.go (by with_reducible assumption) hB)); (try (have hF := hN.f; have hC0 := hN.a.c0; have hC1 := hN.a.c1; have hC2 := hN.a.c2))) | (go_at_call 78; refine (crossSpots_calls _ _ _ _ _ _ _).mono ?_; rintro e w' ⟨p, q, s, k, rfl, hC, hB⟩; have hge := SK.ge (n := w.heap.size + 1) (wc := (w.alloc (.cells #[.float .f32 x0, .float .f32 y0, .float .f32 z0, .float .f32 x1, .float .f32 y1, .float .f32 z1, .float .f32 x2, .float .f32 y2, .float .f32 z2] 79))) (L := [(⟨w.heap.size, 0, none⟩, .float .f32 x0), (⟨w.heap.size, 1, none⟩, .float .f32 y0), (⟨w.heap.size, 2, none⟩, .float .f32 z0), (⟨w.heap.size, 3, none⟩, .float .f32 x1), (⟨w.heap.size, 4, none⟩, .float .f32 y1), (⟨w.heap.size, 5, none⟩, .float .f32 z1), (⟨w.heap.size, 6, none⟩, .float .f32 x2), (⟨w.heap.size, 7, none⟩, .float .f32 y2), (⟨w.heap.size, 8, none⟩, .float .f32 z2)]) (by repeat' first | with_reducible assumption | exact SK_of9 (by with_reducible assumption) | exact hST | apply SK.drew | apply SK.drewN | apply SK.alloc) hB; (try (first | have hN := New.born2 hB | have hN := New.born1 hB | have hN := New.bornD hB | have hN := New.born hB | have hN := New.go (by with_reducible assumption) hB)); (try (have hF := hN.f; have hC0 := hN.a.c0; have hC1 := hN.a.c1; have hC2 := hN.a.c2))))
    all_goals
      have hSK : SK (w.heap.size + 1) (w.alloc (.cells #[.float .f32 x0, .float .f32 y0, .float .f32 z0, .float .f32 x1, .float .f32 y1, .float .f32 z1, .float .f32 x2, .float .f32 y2, .float .f32 z2] 79)) [((⟨w.heap.size, 0, none⟩ : Addr), (.float .f32 x0 : Value)), ((⟨w.heap.size, 1, none⟩ : Addr), (.float .f32 y0 : Value)), ((⟨w.heap.size, 2, none⟩ : Addr), (.float .f32 z0 : Value)), ((⟨w.heap.size, 3, none⟩ : Addr), (.float .f32 x1 : Value)), ((⟨w.heap.size, 4, none⟩ : Addr), (.float .f32 y1 : Value)), ((⟨w.heap.size, 5, none⟩ : Addr), (.float .f32 z1 : Value)), ((⟨w.heap.size, 6, none⟩ : Addr), (.float .f32 x2 : Value)), ((⟨w.heap.size, 7, none⟩ : Addr), (.float .f32 y2 : Value)), ((⟨w.heap.size, 8, none⟩ : Addr), (.float .f32 z2 : Value))] _ := SK_of9 (by with_reducible assumption)
      go_wp2_with fail
      go_meet
      refine ⟨_, p, q, s, k, rfl, rfl, ⟨_, _, _, _, _, _, ?_, ?_, hC⟩, hSK, ?_, ?_, ?_⟩
      · assumption
      · assumption
      · first | exact At3.here _ _ _ _ _ | exact At3.set hN _ _ _
      · first | (have h := hge; omega) | (simp at *; omega)
      · first | exact New.lt3 hN _ _ _ | simp
  case rest =>
    obtain ⟨g, p, q, s, k, rfl, rfl, ⟨a, b, c, a', b', c', h1, h2, h3⟩, hSK, hA, hg1, hg2⟩ := hcut
    have hBx := HW1.out.trans (hSK.m.mono (by omega))
    have HBX := Frame.hid hBx
    have H1 := Frame.hid h1
    have H2 := Frame.hid h2
    have H3 := Frame.hid h3
    obtain ⟨c0, c1, c2⟩ := hA
    clear hBx h1 h2 h3 hSK hST
    cases k
    · go_wp2_with fail
      go_ret2
      exact ⟨_, _, rfl, ⟨_, _, _, _, _, _, _, _, _, _, H1.out, H2.out, H3.out, .inl ⟨rfl, .inl rfl⟩⟩, HBX.out⟩
    · go_wp2_with (first | (go_at_call 80; refine (longOfSpot_calls _ _ _ _).mono ?_; rintro e w1 ⟨l, ok, rfl, hLo, hB1⟩) | (go_at_call 58; refine (halfB_calls _ _).mono ?_; rintro e w2 ⟨r, rfl, hh, hB2⟩))
      go_ret2
      refine ⟨_, _, rfl, ⟨_, _, _, _, _, _, _, _, _, _, H1.out, H2.out, H3.out, ?_⟩, (HBX.out.trans (hB1.mono HBX.out.size)).trans (hB2.mono (Nat.le_trans HBX.out.size hB1.size))⟩
      cases ok
      · exact .inl ⟨rfl, .inr ⟨_, hLo⟩⟩
      · exact .inr ⟨rfl, rfl, _, hLo, hh⟩

end Go.Proofs.Ytfkdkdocbecjmaa
