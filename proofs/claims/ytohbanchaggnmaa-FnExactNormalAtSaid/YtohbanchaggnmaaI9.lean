/-
  NormalAt, both sides.
-/
import Derived.Test.YtohbanchaggnmaaI7
import Derived.Test.YtohbanchaggnmaaKb
import Derived.Test.YtohbanchaggnmaaNz
namespace Go.Proofs.Ytohbanchaggnmaa
open Go.RowKit Fl Go.WideShapes Go.Deep
attribute [local go_sem] kstore_f kalloc_drewN kset_drewN hstore_i hstore_s

/-- Three cells of a block that may be written. -/
structure WrS (W : World) (g x y z : Nat) : Prop where
  c0 : W.cell? ⟨g, 0, none⟩ = some (.float .f32 x)
  c1 : W.cell? ⟨g, 1, none⟩ = some (.float .f32 y)
  c2 : W.cell? ⟨g, 2, none⟩ = some (.float .f32 z)
  f : ∀ i, W.frozen? ⟨g, i, none⟩ = false
theorem WrS.keep {W W' : World} {g x y z n : Nat} (h : WrS W g x y z) (hB : Below n W W') (hg : g < n) : WrS W' g x y z :=
  ⟨(hB.cell (p := ⟨g, 0, none⟩) hg).trans h.c0, (hB.cell (p := ⟨g, 1, none⟩) hg).trans h.c1, (hB.cell (p := ⟨g, 2, none⟩) hg).trans h.c2, fun i => (hB.frozen (p := ⟨g, i, none⟩) hg).trans (h.f i)⟩

def gtZ (x : Nat) : Bool := FloatKind.f32.format.order x 0 == some Ordering.gt
/-- The normal that is handed out. -/
def NrO (a b : Int) (xs : List (Nat × Nat × Nat)) (u v : Nat) (x y z : Nat) (ok : Bool) : Prop :=
  ∃ x1 y1 z1 x2 y2 z2 k1, SlO a b xs u v x1 y1 z1 x2 y2 z2 k1 ∧
    ((k1 = true ∧ ∃ c d e kc l kl, CrossO x1 y1 z1 x2 y2 z2 c d e kc ∧ LongO c d e l kl ∧
      (((kc && (kl && gtZ l)) = true ∧ FOp .quo .f32 c l x ∧ FOp .quo .f32 d l y ∧ FOp .quo .f32 e l z ∧ ok = true) ∨ ((kc && (kl && gtZ l)) = false ∧ x = 0 ∧ y = 0 ∧ z = 0 ∧ ok = false))) ∨
     (k1 = false ∧ x = 0 ∧ y = 0 ∧ z = 0 ∧ ok = false))
theorem gtZ_same {x X : Nat} (h : FSame .f32 x X) : gtZ x = gtZ X := by unfold gtZ; rw [order_same h (FSame.refl _ 0)]
theorem NrO.same {a b : Int} {xs : List (Nat × Nat × Nat)} {u v x y z X Y Z n : Nat} {ok ok' : Bool} (hx : n = xs.length) (h : NrO a b xs u v x y z ok) (g : NrO a b xs u v X Y Z ok') : S3 x y z X Y Z ∧ ok = ok' := by
  obtain ⟨x1, y1, z1, x2, y2, z2, k1, hs, h⟩ := h
  obtain ⟨X1, Y1, Z1, X2, Y2, Z2, K1, gs, g⟩ := g
  obtain ⟨e1, e2, rfl⟩ := SlO.same hx hs gs
  rcases h with ⟨h1, c, d, e, kc, l, kl, hc, hl, h⟩ | ⟨h1, rfl, rfl, rfl, rfl⟩ <;> rcases g with ⟨g1, C, D, E, KC, L, KL, gc, gl, g⟩ | ⟨g1, rfl, rfl, rfl, rfl⟩
  · obtain ⟨e3, rfl⟩ := CrossO.same e1 e2 hc gc
    obtain ⟨e4, rfl⟩ := LongO.same e3 hl gl
    have eg := gtZ_same e4
    rcases h with ⟨h2, h3, h4, h5, rfl⟩ | ⟨h2, rfl, rfl, rfl, rfl⟩ <;> rcases g with ⟨g2, g3, g4, g5, rfl⟩ | ⟨g2, rfl, rfl, rfl, rfl⟩
    · exact ⟨⟨FOp.same e3.1 e4 h3 g3, FOp.same e3.2.1 e4 h4 g4, FOp.same e3.2.2 e4 h5 g5⟩, rfl⟩
    · rw [eg, g2] at h2; cases h2
    · rw [eg, g2] at h2; cases h2
    · exact ⟨S3.refl _ _ _, rfl⟩
  · rw [h1] at g1; cases g1
  · rw [h1] at g1; cases g1
  · exact ⟨S3.refl _ _ _, rfl⟩

theorem long_eq {x y z l : Nat} (h : LongO x y z l true) : (FloatKind.f32.format.order l 0 == some Ordering.eq) = !(gtZ l) := by
  rcases h with ⟨hf, d, q, hd, hq, hn⟩ | ⟨-, -, h⟩
  · have hf' := hf
    unfold fin3 at hf'
    simp only [Bool.and_eq_true] at hf'
    have hq1 : l = q := hn.2.1 rfl
    have hqf : fin .f32 q = true := hn.1.symm
    rw [hq1]
    unfold gtZ
    rcases order_nn (root_nn (dot_nn hf'.1.1 hf'.1.2 hf'.2 hd) hq) hqf with h | h <;> (rw [h]; rfl)
  · cases h
theorem long_fin {x y z l r s t : Nat} (h : LongO x y z l true) (h0 : gtZ l = true) (h1 : FOp .quo .f32 x l r) (h2 : FOp .quo .f32 y l s) (h3 : FOp .quo .f32 z l t) : fin3 r s t = true := by
  rcases h with ⟨hf, d, q, hd, hq, hn⟩ | ⟨-, -, h⟩
  · unfold fin3 at hf
    simp only [Bool.and_eq_true] at hf
    have hq1 : l = q := hn.2.1 rfl
    have hqf : fin .f32 q = true := hn.1.symm
    subst hq1
    have hne : FloatKind.f32.format.order l 0 ≠ some .eq := fun e => by unfold gtZ at h0; rw [e] at h0; cases h0
    unfold fin3
    rw [part_fin hf.1.1 hf.1.2 hf.2 hd hq hqf hne (.inl rfl) h1, part_fin hf.1.1 hf.1.2 hf.2 hd hq hqf hne (.inr (.inl rfl)) h2, part_fin hf.1.1 hf.1.2 hf.2 hd hq hqf hne (.inr (.inr rfl)) h3]
    rfl
  · cases h

set_option maxRecDepth 100000 in
set_option maxHeartbeats 4000000 in
theorem normalAt_calls (A : Option Addr) (xs : List (Nat × Nat × Nat)) (n : Nat) (hxn : n = xs.length) (a b : Int) (u v : Nat) (w : World) (hn : n ≤ 1048576) (hr : RdS w A xs) :
    Calls Try.prog 22 #[.agg #[.int .i64 a, .int .i64 b, .slice A n n], .float .f32 u, .float .f32 v] w fun e w' => ∃ x y z ok, e = .returned (.tuple #[.agg #[.float .f32 x, .float .f32 y, .float .f32 z], .bool ok]) ∧ NrO a b xs u v x y z ok ∧ Below w.heap.size w w' := by
  have hw : Below w.heap.size w ((w.alloc (.cells #[.int .i64 a, .int .i64 b, .slice A n n] 33)).alloc (.cells #[.float .f32 0, .float .f32 0, .float .f32 0] 28)) := by (apply bel_of; (repeat (first | apply below_dn | apply below_al)); exact below_st _)
  have hO : WrS ((w.alloc (.cells #[.int .i64 a, .int .i64 b, .slice A n n] 33)).alloc (.cells #[.float .f32 0, .float .f32 0, .float .f32 0] 28)) (w.heap.size + 1) 0 0 0 := ⟨by simp [go_sem], by simp [go_sem], by simp [go_sem], fun i => by simp [go_sem]⟩
  have hg : w.heap.size + 1 < ((w.alloc (.cells #[.int .i64 a, .int .i64 b, .slice A n n] 33)).alloc (.cells #[.float .f32 0, .float .f32 0, .float .f32 0] 28)).heap.size := by simp
  have HC := Frame.hid (slopesAt_calls A xs n hxn a b u v _ hn (hr.below hw))
  have HX := Frame.hid hxn
  have HW := Frame.hid (And.intro hO (And.intro hw hg))
  clear hr hxn hw hO hg
  go_enter Try.func22, Try.ntmps22
  go_wp2_with fail
  refine (HC.out).mono ?_
  clear HC
  generalize (w.alloc (.cells #[.int .i64 a, .int .i64 b, .slice A n n] 33)).alloc (.cells #[.float .f32 0, .float .f32 0, .float .f32 0] 28) = w0 at HW ⊢
  rintro e w1 ⟨x1, y1, z1, x2, y2, z2, k1, rfl, hSl, hB1⟩
  have HSL := Frame.hid hSl
  have HB1 := Frame.hid hB1
  have HOK := Frame.hid (fun W (hW : Below w0.heap.size w0 W) => And.intro (HW.out.1.keep hW HW.out.2.2) (HW.out.2.1.trans (hW.mono HW.out.2.1.size)))
  clear hSl hB1
  have h12 : Below w1.heap.size w1 ((w1.alloc (.cells #[.float .f32 x1, .float .f32 y1, .float .f32 z1] 28)).alloc (.cells #[.float .f32 x2, .float .f32 y2, .float .f32 z2] 28)) := ((Below.refl _ _).alloc (Nat.le_refl _) _).alloc (by simp) _
  have hB2 := HB1.out.trans (h12.mono HB1.out.size)
  cases k1
  · obtain ⟨⟨o0, o1, o2, of⟩, hB⟩ := HOK.out _ hB2
    obtain ⟨e0, e1, e2⟩ := set3_read (v0 := .float .f32 0) (v1 := .float .f32 0) (v2 := .float .f32 0) o0 o1 o2
    obtain ⟨⟨o0, o1, o2, of⟩, -⟩ := HOK.out _ HB1.out
    have hgl : w.heap.size + 1 < w1.heap.size := Nat.lt_of_lt_of_le HW.out.2.2 HB1.out.size
    have HB := Frame.hid hB
    clear hB h12 hB2
    go_wp2_with fail
    refine bodyPost_ret (v := .tuple #[.agg #[.float .f32 0, .float .f32 0, .float .f32 0], .bool false]) (by simp [results, Try.results22, go_sem, e0, e1, e2]) rfl ⟨_, _, _, _, rfl, ⟨_, _, _, _, _, _, _, HSL.out, .inr ⟨rfl, rfl, rfl, rfl, rfl⟩⟩, ?_⟩
    exact ((HB.out.setCell (p := ⟨w.heap.size + 1, 0, none⟩) (by simp) _).setCell (p := ⟨w.heap.size + 1, 1, none⟩) (by simp) _).setCell (p := ⟨w.heap.size + 1, 2, none⟩) (by simp) _
  · go_wp2_with fail
    generalize (w1.alloc (.cells #[.float .f32 x1, .float .f32 y1, .float .f32 z1] 28)).alloc (.cells #[.float .f32 x2, .float .f32 y2, .float .f32 z2] 28) = w2 at hB2 ⊢
    refine (crossSpots_calls _ _ _ _ _ _ _).mono ?_
    rintro e w3 ⟨c, d, e, kc, rfl, hc, hB3⟩
    have hB03 := hB2.trans (hB3.mono hB2.size)
    have HB3 := Frame.hid hB03
    have HC := Frame.hid hc
    clear h12 hB2 hB3 hB03 hc
    go_wp2_with fail
    obtain ⟨w4, hw4⟩ : ∃ w4, w4 = w3.alloc (.cells #[.float .f32 c, .float .f32 d, .float .f32 e] 28) := ⟨_, rfl⟩
    obtain ⟨gx, hgx⟩ : ∃ gx, gx = w3.heap.size := ⟨_, rfl⟩
    have hX : At3 w4 gx c d e := by rw [hw4, hgx]; exact At3.here _ _ _ _ _
    have h34 : Below w3.heap.size w3 w4 := by rw [hw4]; exact (Below.refl _ _).alloc (Nat.le_refl _) _
    have hgl : gx < w4.heap.size := by rw [hw4, hgx]; simp
    rw [← hw4, ← hgx]
    have hB04 := HB3.out.trans (h34.mono HB3.out.size)
    clear hw4 hgx h34
    refine (longOfSpot_calls _ _ _ _).mono ?_
    rintro e' w5 ⟨l, kl, rfl, hl, hB5⟩
    have hB05 := hB04.trans (hB5.mono hB04.size)
    obtain ⟨p0, p1, p2⟩ := hX.keep hB5 hgl
    obtain ⟨⟨o0, o1, o2, of⟩, hB⟩ := HOK.out _ hB05
    have HB := Frame.hid hB
    clear hX hB04 hB5 hB05 hB
    cases kc
    · obtain ⟨e0, e1, e2⟩ := set3_read (w := w5) (v0 := .float .f32 0) (v1 := .float .f32 0) (v2 := .float .f32 0) o0 o1 o2
      have HL := Frame.hid hl
      clear hl
      go_wp2_with fail
      refine bodyPost_ret (v := .tuple #[.agg #[.float .f32 0, .float .f32 0, .float .f32 0], .bool false]) (by simp [results, Try.results22, go_sem, e0, e1, e2]) rfl ⟨_, _, _, _, rfl, ⟨_, _, _, _, _, _, _, HSL.out, .inl ⟨rfl, _, _, _, _, _, _, HC.out, HL.out, .inr ⟨rfl, rfl, rfl, rfl, rfl⟩⟩⟩, ?_⟩
      exact ((HB.out.setCell (p := ⟨w.heap.size + 1, 0, none⟩) (by simp) _).setCell (p := ⟨w.heap.size + 1, 1, none⟩) (by simp) _).setCell (p := ⟨w.heap.size + 1, 2, none⟩) (by simp) _
    cases kl
    · obtain ⟨e0, e1, e2⟩ := set3_read (w := w5) (v0 := .float .f32 0) (v1 := .float .f32 0) (v2 := .float .f32 0) o0 o1 o2
      have HL := Frame.hid hl
      clear hl
      go_wp2_with fail
      refine bodyPost_ret (v := .tuple #[.agg #[.float .f32 0, .float .f32 0, .float .f32 0], .bool false]) (by simp [results, Try.results22, go_sem, e0, e1, e2]) rfl ⟨_, _, _, _, rfl, ⟨_, _, _, _, _, _, _, HSL.out, .inl ⟨rfl, _, _, _, _, _, _, HC.out, HL.out, .inr ⟨rfl, rfl, rfl, rfl, rfl⟩⟩⟩, ?_⟩
      exact ((HB.out.setCell (p := ⟨w.heap.size + 1, 0, none⟩) (by simp) _).setCell (p := ⟨w.heap.size + 1, 1, none⟩) (by simp) _).setCell (p := ⟨w.heap.size + 1, 2, none⟩) (by simp) _
    have hle := long_eq hl
    cases hz : gtZ l
    · rw [hz] at hle
      have hle' : (FloatKind.f32.format.order l 0 == some Ordering.eq) = true := hle
      obtain ⟨e0, e1, e2⟩ := set3_read (w := w5) (v0 := .float .f32 0) (v1 := .float .f32 0) (v2 := .float .f32 0) o0 o1 o2
      have HL := Frame.hid hl
      have HZ := Frame.hid hz
      clear hl hle hz
      go_wp2_with fail
      refine bodyPost_ret (v := .tuple #[.agg #[.float .f32 0, .float .f32 0, .float .f32 0], .bool false]) (by simp [results, Try.results22, go_sem, e0, e1, e2]) rfl ⟨_, _, _, _, rfl, ⟨_, _, _, _, _, _, _, HSL.out, .inl ⟨rfl, _, _, _, _, _, _, HC.out, HL.out, .inr ⟨by rw [HZ.out]; rfl, rfl, rfl, rfl, rfl⟩⟩⟩, ?_⟩
      exact ((HB.out.setCell (p := ⟨w.heap.size + 1, 0, none⟩) (by simp) _).setCell (p := ⟨w.heap.size + 1, 1, none⟩) (by simp) _).setCell (p := ⟨w.heap.size + 1, 2, none⟩) (by simp) _
    · rw [hz] at hle
      have hle' : (FloatKind.f32.format.order l 0 == some Ordering.eq) = false := hle
      have HL := Frame.hid hl
      have HZ := Frame.hid hz
      have HO := Frame.hid (And.intro o0 (And.intro o1 o2))
      clear hl hle hz
      go_wp2_with (refine wpList_arith rfl _ _ _ _ _ rfl rfl _ _ _ rfl rfl ?_; intro r n hr hl)
      rename_i q1 m1 k1 l1 q2 m2 k2 l2
      obtain ⟨e0, e1, e2⟩ := set3_read (w := w5) (v0 := .float .f32 q1) (v1 := .float .f32 q2) (v2 := .float .f32 r) HO.out.1 HO.out.2.1 HO.out.2.2
      refine bodyPost_ret (v := .tuple #[.agg #[.float .f32 q1, .float .f32 q2, .float .f32 r], .bool true]) (by simp [results, Try.results22, go_sem, e0, e1, e2]) rfl ⟨_, _, _, _, rfl, ⟨_, _, _, _, _, _, _, HSL.out, .inl ⟨rfl, _, _, _, _, _, _, HC.out, HL.out, .inl ⟨by rw [HZ.out]; rfl, k1, k2, hr, rfl⟩⟩⟩, ?_⟩
      exact below_drewN (((HB.out.setCell (p := ⟨w.heap.size + 1, 0, none⟩) (by simp) _).setCell (p := ⟨w.heap.size + 1, 1, none⟩) (by simp) _).setCell (p := ⟨w.heap.size + 1, 2, none⟩) (by simp) _) _

set_option maxRecDepth 100000 in
set_option maxHeartbeats 4000000 in
theorem specNormalAt_calls (A : Option Addr) (xs : List (Nat × Nat × Nat)) (n : Nat) (hxn : n = xs.length) (a b : Int) (u v : Nat) (w : World) (hn : n ≤ 1048576) (hr : RdS w A xs) :
    Calls Try.prog 21 #[.agg #[.int .i64 a, .int .i64 b, .slice A n n], .float .f32 u, .float .f32 v] w fun e w' => ∃ x y z ok, e = .returned (.tuple #[.agg #[.float .f32 x, .float .f32 y, .float .f32 z], .bool ok]) ∧ NrO a b xs u v x y z ok ∧ Below w.heap.size w w' := by
  have hw : Below w.heap.size w ((w.alloc (.cells #[.int .i64 a, .int .i64 b, .slice A n n] 33)).alloc (.cells #[.float .f32 0, .float .f32 0, .float .f32 0] 28)) := by (apply bel_of; (repeat (first | apply below_dn | apply below_al)); exact below_st _)
  have hO : WrS ((w.alloc (.cells #[.int .i64 a, .int .i64 b, .slice A n n] 33)).alloc (.cells #[.float .f32 0, .float .f32 0, .float .f32 0] 28)) (w.heap.size + 1) 0 0 0 := ⟨by simp [go_sem], by simp [go_sem], by simp [go_sem], fun i => by simp [go_sem]⟩
  have hg : w.heap.size + 1 < ((w.alloc (.cells #[.int .i64 a, .int .i64 b, .slice A n n] 33)).alloc (.cells #[.float .f32 0, .float .f32 0, .float .f32 0] 28)).heap.size := by simp
  have HC := Frame.hid (specSlopesAt_calls A xs n hxn a b u v _ hn (hr.below hw))
  have HX := Frame.hid hxn
  have HW := Frame.hid (And.intro hO (And.intro hw hg))
  clear hr hxn hw hO hg
  go_enter Try.func21, Try.ntmps21
  go_wp2_with fail
  refine (HC.out).mono ?_
  clear HC
  generalize (w.alloc (.cells #[.int .i64 a, .int .i64 b, .slice A n n] 33)).alloc (.cells #[.float .f32 0, .float .f32 0, .float .f32 0] 28) = w0 at HW ⊢
  rintro e w1 ⟨x1, y1, z1, x2, y2, z2, k1, rfl, hSl, hB1⟩
  have HSL := Frame.hid hSl
  have HB1 := Frame.hid hB1
  have HOK := Frame.hid (fun W (hW : Below w0.heap.size w0 W) => And.intro (HW.out.1.keep hW HW.out.2.2) (HW.out.2.1.trans (hW.mono HW.out.2.1.size)))
  clear hSl hB1
  have h12 : Below w1.heap.size w1 ((w1.alloc (.cells #[.float .f32 x1, .float .f32 y1, .float .f32 z1] 28)).alloc (.cells #[.float .f32 x2, .float .f32 y2, .float .f32 z2] 28)) := ((Below.refl _ _).alloc (Nat.le_refl _) _).alloc (by simp) _
  have hB2 := HB1.out.trans (h12.mono HB1.out.size)
  go_wp2_with fail
  generalize (w1.alloc (.cells #[.float .f32 x1, .float .f32 y1, .float .f32 z1] 28)).alloc (.cells #[.float .f32 x2, .float .f32 y2, .float .f32 z2] 28) = w2 at hB2 ⊢
  refine (specCrossSpots_calls _ _ _ _ _ _ _).mono ?_
  rintro e w3 ⟨c, d, e, kc, rfl, hc, hB3⟩
  have hB03 := hB2.trans (hB3.mono hB2.size)
  have HB3 := Frame.hid hB03
  have HC := Frame.hid hc
  clear h12 hB2 hB3 hB03 hc
  go_wp2_with fail
  obtain ⟨w4, hw4⟩ : ∃ w4, w4 = w3.alloc (.cells #[.float .f32 c, .float .f32 d, .float .f32 e] 28) := ⟨_, rfl⟩
  obtain ⟨gx, hgx⟩ : ∃ gx, gx = w3.heap.size := ⟨_, rfl⟩
  have hX : At3 w4 gx c d e := by rw [hw4, hgx]; exact At3.here _ _ _ _ _
  have h34 : Below w3.heap.size w3 w4 := by rw [hw4]; exact (Below.refl _ _).alloc (Nat.le_refl _) _
  have hgl : gx < w4.heap.size := by rw [hw4, hgx]; simp
  rw [← hw4, ← hgx]
  have hB04 := HB3.out.trans (h34.mono HB3.out.size)
  clear hw4 hgx h34
  refine (specLongOfSpot_calls _ _ _ _).mono ?_
  rintro e' w5 ⟨l, kl, rfl, hl, hB5⟩
  have hB05 := hB04.trans (hB5.mono hB04.size)
  obtain ⟨p0, p1, p2⟩ := hX.keep hB5 hgl
  obtain ⟨⟨o0, o1, o2, of⟩, hB⟩ := HOK.out _ hB05
  have HB := Frame.hid hB
  have HB05 := Frame.hid hB05
  clear hX hB04 hB5 hB05 hB
  have HL := Frame.hid hl
  clear hl
  cases k1
  · obtain ⟨e0, e1, e2⟩ := set3_read (w := w5) (v0 := .float .f32 0) (v1 := .float .f32 0) (v2 := .float .f32 0) o0 o1 o2
    go_wp2_with fail
    refine bodyPost_ret (v := .tuple #[.agg #[.float .f32 0, .float .f32 0, .float .f32 0], .bool false]) (by simp [results, Try.results21, go_sem, e0, e1, e2]) rfl ⟨_, _, _, _, rfl, ⟨_, _, _, _, _, _, _, HSL.out, .inr ⟨rfl, rfl, rfl, rfl, rfl⟩⟩, ?_⟩
    exact ((HB.out.setCell (p := ⟨w.heap.size + 1, 0, none⟩) (by simp) _).setCell (p := ⟨w.heap.size + 1, 1, none⟩) (by simp) _).setCell (p := ⟨w.heap.size + 1, 2, none⟩) (by simp) _
  cases kc
  · obtain ⟨e0, e1, e2⟩ := set3_read (w := w5) (v0 := .float .f32 0) (v1 := .float .f32 0) (v2 := .float .f32 0) o0 o1 o2
    go_wp2_with fail
    refine bodyPost_ret (v := .tuple #[.agg #[.float .f32 0, .float .f32 0, .float .f32 0], .bool false]) (by simp [results, Try.results21, go_sem, e0, e1, e2]) rfl ⟨_, _, _, _, rfl, ⟨_, _, _, _, _, _, _, HSL.out, .inl ⟨rfl, _, _, _, _, _, _, HC.out, HL.out, .inr ⟨rfl, rfl, rfl, rfl, rfl⟩⟩⟩, ?_⟩
    exact ((HB.out.setCell (p := ⟨w.heap.size + 1, 0, none⟩) (by simp) _).setCell (p := ⟨w.heap.size + 1, 1, none⟩) (by simp) _).setCell (p := ⟨w.heap.size + 1, 2, none⟩) (by simp) _
  cases kl
  · obtain ⟨e0, e1, e2⟩ := set3_read (w := w5) (v0 := .float .f32 0) (v1 := .float .f32 0) (v2 := .float .f32 0) o0 o1 o2
    go_wp2_with fail
    refine bodyPost_ret (v := .tuple #[.agg #[.float .f32 0, .float .f32 0, .float .f32 0], .bool false]) (by simp [results, Try.results21, go_sem, e0, e1, e2]) rfl ⟨_, _, _, _, rfl, ⟨_, _, _, _, _, _, _, HSL.out, .inl ⟨rfl, _, _, _, _, _, _, HC.out, HL.out, .inr ⟨rfl, rfl, rfl, rfl, rfl⟩⟩⟩, ?_⟩
    exact ((HB.out.setCell (p := ⟨w.heap.size + 1, 0, none⟩) (by simp) _).setCell (p := ⟨w.heap.size + 1, 1, none⟩) (by simp) _).setCell (p := ⟨w.heap.size + 1, 2, none⟩) (by simp) _
  cases hz : gtZ l
  · have hz' : (FloatKind.f32.format.order l 0 == some Ordering.gt) = false := hz
    obtain ⟨e0, e1, e2⟩ := set3_read (w := w5) (v0 := .float .f32 0) (v1 := .float .f32 0) (v2 := .float .f32 0) o0 o1 o2
    have HZ := Frame.hid hz
    clear hz
    go_wp2_with fail
    refine bodyPost_ret (v := .tuple #[.agg #[.float .f32 0, .float .f32 0, .float .f32 0], .bool false]) (by simp [results, Try.results21, go_sem, e0, e1, e2]) rfl ⟨_, _, _, _, rfl, ⟨_, _, _, _, _, _, _, HSL.out, .inl ⟨rfl, _, _, _, _, _, _, HC.out, HL.out, .inr ⟨by rw [HZ.out]; rfl, rfl, rfl, rfl, rfl⟩⟩⟩, ?_⟩
    exact ((HB.out.setCell (p := ⟨w.heap.size + 1, 0, none⟩) (by simp) _).setCell (p := ⟨w.heap.size + 1, 1, none⟩) (by simp) _).setCell (p := ⟨w.heap.size + 1, 2, none⟩) (by simp) _
  · have hz' : (FloatKind.f32.format.order l 0 == some Ordering.gt) = true := hz
    have HZ := Frame.hid hz
    clear hz
    go_wp2_with (refine wpList_arith rfl _ _ _ _ _ rfl rfl _ _ _ rfl rfl ?_; intro r n hr hl)
    refine (l04Given_calls _ _ _ _).mono ?_
    rename_i q1 m1 k1 l1 q2 m2 k2 l2 K1 a1
    rintro e' w6 ⟨x, y, z, ok, m, rfl, hG, hw6⟩
    have hff := long_fin HL.out HZ.out k1 k2 hr
    have hok : ok = true := by rw [hG.1, hff]
    subst hok
    obtain ⟨rfl, rfl, rfl⟩ := hG.2.1 rfl
    have hB6 : Below w5.heap.size w5 w6 := by
      have h0 : Below w5.heap.size w5 (w5.drewN (m1 + m2 + n)) := below_drewN (Below.refl _ _) _
      rw [hw6]
      exact h0.trans ((b3 (w5.drewN (m1 + m2 + n)) _ _ _ _).mono h0.size)
    have hB06 := HB05.out.trans (hB6.mono HB05.out.size)
    clear o0 o1 o2 of hw6 hB6 hff
    obtain ⟨⟨o0, o1, o2, of⟩, hB⟩ := HOK.out _ hB06
    have HB6 := Frame.hid hB
    have HK := Frame.hid (And.intro k1 (And.intro k2 hr))
    obtain ⟨e0, e1, e2⟩ := set3_read (w := w6) (v0 := .float .f32 x) (v1 := .float .f32 y) (v2 := .float .f32 z) o0 o1 o2
    clear hB06 hB hG k1 k2 hr p0 p1 p2
    go_wp2_with fail
    refine bodyPost_ret (v := .tuple #[.agg #[.float .f32 x, .float .f32 y, .float .f32 z], .bool true]) (by simp [results, Try.results21, go_sem, e0, e1, e2]) rfl ⟨_, _, _, _, rfl, ⟨_, _, _, _, _, _, _, HSL.out, .inl ⟨rfl, _, _, _, _, _, _, HC.out, HL.out, .inl ⟨by rw [HZ.out]; rfl, HK.out.1, HK.out.2.1, HK.out.2.2, rfl⟩⟩⟩, ?_⟩
    exact ((HB6.out.setCell (p := ⟨w.heap.size + 1, 0, none⟩) (by simp) _).setCell (p := ⟨w.heap.size + 1, 1, none⟩) (by simp) _).setCell (p := ⟨w.heap.size + 1, 2, none⟩) (by simp) _

end Go.Proofs.Ytohbanchaggnmaa
