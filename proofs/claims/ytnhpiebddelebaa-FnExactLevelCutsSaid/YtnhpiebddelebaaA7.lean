/-
  Where a plane cuts a triangle: the program's side.
-/
import Derived.Test.YtnhpiebddelebaaA4
import Derived.Test.YtnhpiebddelebaaH5
import Derived.Test.YtnhpiebddelebaaKl
import Derived.Test.YtnhpiebddelebaaK9
namespace Go.Proofs.Ytnhpiebddelebaa
open Go.RowKit Fl Go.WideShapes Go.Deep
attribute [local go_sem] kstore_f kalloc_drewN kset_drewN hstore_i hstore_s

/-- Whether a number is at least nothing. -/
def geW (x : Nat) : Bool := FloatKind.f32.format.order x 0 == some Ordering.gt || FloatKind.f32.format.order x 0 == some Ordering.eq
theorem geW.same {x y : Nat} (h : FSame .f32 x y) : geW x = geW y := by
  unfold geW
  rw [order_same h (FSame.refl _ 0)]
abbrev Sp3 := Nat × Nat × Nat
theorem sx_left {a b : List Sp3} {j : Nat} (h : j < a.length) : sx (a ++ b) j = sx a j ∧ sy (a ++ b) j = sy a j ∧ sz (a ++ b) j = sz a j := by
  unfold sx sy sz
  simp only [List.getD_eq_getElem?_getD, List.getElem?_append_left h, and_self]
theorem sx_right {a b : List Sp3} {j : Nat} (h : a.length ≤ j) : sx (a ++ b) j = sx b (j - a.length) ∧ sy (a ++ b) j = sy b (j - a.length) ∧ sz (a ++ b) j = sz b (j - a.length) := by
  unfold sx sy sz
  simp only [List.getD_eq_getElem?_getD, List.getElem?_append_right h, and_self]
theorem LS.app {a b a' b' : List Sp3} (h : LS a a') (g : LS b b') : LS (a ++ b) (a' ++ b') := by
  refine ⟨by rw [List.length_append, List.length_append, h.l, g.l], fun j hj => ?_⟩
  rw [List.length_append] at hj
  rcases Nat.lt_or_ge j a.length with hlt | hge
  · obtain ⟨e1, e2, e3⟩ := sx_left (b := b) hlt
    obtain ⟨f1, f2, f3⟩ := sx_left (a := a') (b := b') (h.l ▸ hlt)
    rw [e1, e2, e3, f1, f2, f3]
    exact h.s j hlt
  · obtain ⟨e1, e2, e3⟩ := sx_right (b := b) hge
    obtain ⟨f1, f2, f3⟩ := sx_right (a := a') (b := b') (h.l ▸ hge)
    rw [e1, e2, e3, f1, f2, f3, ← h.l]
    exact g.s _ (by omega)
theorem LS.one {p1 p2 p3 q1 q2 q3 : Nat} (h : S3 p1 p2 p3 q1 q2 q3) : LS [(p1, p2, p3)] [(q1, q2, q3)] := by
  refine ⟨rfl, fun j hj => ?_⟩
  obtain rfl : j = 0 := by simp at hj; omega
  exact h

/-- Where a plane cuts one side of a triangle. -/
def SideR (a b wy : Sp3) (lv : Nat) (o : List Sp3) : Prop :=
  ∃ d e g h, DotR a.1 a.2.1 a.2.2 wy.1 wy.2.1 wy.2.2 d ∧ FOp .sub .f32 d lv g ∧ DotR b.1 b.2.1 b.2.2 wy.1 wy.2.1 wy.2.2 e ∧ FOp .sub .f32 e lv h ∧
    ((geW g = geW h ∧ o = []) ∨ (geW g ≠ geW h ∧ ∃ l1 l2 l3 s q t1 t2 t3 p1 p2 p3, LessR b.1 b.2.1 b.2.2 a.1 a.2.1 a.2.2 l1 l2 l3 ∧ FOp .sub .f32 g h s ∧ FOp .quo .f32 g s q ∧ TimesR l1 l2 l3 q t1 t2 t3 ∧ PlusR a.1 a.2.1 a.2.2 t1 t2 t3 p1 p2 p3 ∧ o = [(p1, p2, p3)]))
theorem SideR.same {a b wy : Sp3} {lv : Nat} {o o' : List Sp3} (h : SideR a b wy lv o) (g : SideR a b wy lv o') : LS o o' := by
  obtain ⟨d, e, u, v, h1, h2, h3, h4, h5⟩ := h
  obtain ⟨D, E, U, V, g1, g2, g3, g4, g5⟩ := g
  have eu := FOp.same (DotR.same (S3.refl _ _ _) (S3.refl _ _ _) h1 g1) (FSame.refl _ _) h2 g2
  have ev := FOp.same (DotR.same (S3.refl _ _ _) (S3.refl _ _ _) h3 g3) (FSame.refl _ _) h4 g4
  rw [← geW.same eu, ← geW.same ev] at g5
  rcases h5 with ⟨hk, rfl⟩ | ⟨hk, l1, l2, l3, s, q, t1, t2, t3, p1, p2, p3, j1, j2, j3, j4, j5, rfl⟩ <;> rcases g5 with ⟨gk, rfl⟩ | ⟨gk, m1, m2, m3, s', q', u1, u2, u3, r1, r2, r3, k1, k2, k3, k4, k5, rfl⟩
  · exact LS.refl _
  · exact absurd hk gk
  · exact absurd gk hk
  · have es := FOp.same eu (FOp.same eu ev j2 k2) j3 k3
    have el := LessR.same (S3.refl _ _ _) (S3.refl _ _ _) j1 k1
    have et := TimesR.same el es j4 k4
    have ep := PlusR.same (S3.refl _ _ _) et j5 k5
    exact LS.one ep
/-- The cuts of the first sides of a triangle. -/
def CutN (t : Nat → Sp3) (wy : Sp3) (lv : Nat) : Nat → List Sp3 → Prop
  | 0, l => l = []
  | j + 1, l => ∃ l0 o, CutN t wy lv j l0 ∧ SideR (t j) (t ((j + 1) % 3)) wy lv o ∧ l = l0 ++ o
theorem geW_eq {x y : Nat} (h : (!(geW x == geW y)) = false) : geW x = geW y := by simpa using h
theorem geW_ne {x y : Nat} (h : (!(geW x == geW y)) = true) : geW x ≠ geW y := by intro e; rw [e] at h; simp at h
theorem SK.below {n : Nat} {wc W W' : World} {L : List (Addr × Value)} (h : SK n wc L W) (hB : Below n W W') : SK n wc L W' := ⟨fun p hp => (hB.cell (h.k p hp)).trans (h.c p hp), h.k, Nat.le_trans h.s hB.size, h.m.trans hB⟩
/-- All blocks but a slice's own keep. -/
structure KeepV (Wl : World) (v : Value) (W : World) : Prop where
  s : Wl.heap.size ≤ W.heap.size
  h : ∀ k, k < Wl.heap.size → v.ownBlock ≠ some k → W.heap[k]? = Wl.heap[k]?
theorem KeepV.of {Wl W : World} {v : Value} (h : Below Wl.heap.size Wl W) : KeepV Wl v W := ⟨h.size, fun k hk _ => h.block k hk⟩
theorem KeepV.grown {Wl W W' : World} {v : Value} (h : KeepV Wl v W) (hg : W.grownBy W' v.ownBlock) : KeepV Wl v W' :=
  ⟨Nat.le_trans h.s hg.size, fun k hk hne => (hg.block k (Nat.lt_of_lt_of_le hk h.s) (fun e => hne e.symm)).trans (h.h k hk hne)⟩
theorem KeepV.cell {Wl W : World} {v : Value} (h : KeepV Wl v W) {b i : Nat} (hb : b < Wl.heap.size) (hne : v.ownBlock ≠ some b) : W.cell? ⟨b, i, none⟩ = Wl.cell? ⟨b, i, none⟩ := World.cell?_of_block (a := ⟨b, i, none⟩) (h.h b hb hne)
theorem own_snoc {W : World} {B : Nat} {v : Value} {l : List Sp3} {p : Sp3} (h : W.ownsRow B 57 3 v (l.length + 1) (cellsS l ++ cellsS [p])) : OwnedS W B v (l ++ [p]) := by
  unfold OwnedS
  rw [cellsS_append, List.length_append]
  exact h
theorem CutN.same {t : Nat → Sp3} {wy : Sp3} {lv : Nat} : ∀ {j : Nat} {l l' : List Sp3}, CutN t wy lv j l → CutN t wy lv j l' → LS l l'
  | 0, _, _, h, g => by rw [show _ = _ from h, show _ = _ from g]; exact LS.refl _
  | _ + 1, _, _, ⟨_, _, h1, h2, h3⟩, ⟨_, _, g1, g2, g3⟩ => by rw [h3, g3]; exact (CutN.same h1 g1).app (h2.same g2)
theorem SideR.len {a b wy : Sp3} {lv : Nat} {o : List Sp3} (h : SideR a b wy lv o) : o.length ≤ 1 := by
  obtain ⟨d, e, u, v, -, -, -, -, h5⟩ := h
  rcases h5 with ⟨-, rfl⟩ | ⟨-, l1, l2, l3, s, q, t1, t2, t3, p1, p2, p3, -, -, -, -, -, rfl⟩ <;> simp
theorem CutN.len {t : Nat → Sp3} {wy : Sp3} {lv : Nat} : ∀ {j : Nat} {l : List Sp3}, CutN t wy lv j l → l.length ≤ j
  | 0, _, h => by rw [show _ = _ from h]; simp
  | _ + 1, _, ⟨_, _, h1, h2, h3⟩ => by rw [h3, List.length_append]; exact Nat.add_le_add (CutN.len h1) h2.len
/-- The corners of a triangle. -/
def tri3 (x0 y0 z0 x1 y1 z1 x2 y2 z2 : Nat) (i : Nat) : Sp3 := if i = 0 then (x0, y0, z0) else if i = 1 then (x1, y1, z1) else (x2, y2, z2)
theorem idxT0 (x0 y0 z0 x1 y1 z1 x2 y2 z2 : Nat) (w : World) : (Instr.index 105 (.agg #[.float .f32 x0, .float .f32 y0, .float .f32 z0, .float .f32 x1, .float .f32 y1, .float .f32 z1, .float .f32 x2, .float .f32 y2, .float .f32 z2]) (.int .i64 0)).run Try.prog w = .ok (.agg #[.float .f32 x0, .float .f32 y0, .float .f32 z0]) w := by
  kernel_rfl
theorem idxT1 (x0 y0 z0 x1 y1 z1 x2 y2 z2 : Nat) (w : World) : (Instr.index 105 (.agg #[.float .f32 x0, .float .f32 y0, .float .f32 z0, .float .f32 x1, .float .f32 y1, .float .f32 z1, .float .f32 x2, .float .f32 y2, .float .f32 z2]) (.int .i64 1)).run Try.prog w = .ok (.agg #[.float .f32 x1, .float .f32 y1, .float .f32 z1]) w := by
  kernel_rfl
theorem idxT2 (x0 y0 z0 x1 y1 z1 x2 y2 z2 : Nat) (w : World) : (Instr.index 105 (.agg #[.float .f32 x0, .float .f32 y0, .float .f32 z0, .float .f32 x1, .float .f32 y1, .float .f32 z1, .float .f32 x2, .float .f32 y2, .float .f32 z2]) (.int .i64 2)).run Try.prog w = .ok (.agg #[.float .f32 x2, .float .f32 y2, .float .f32 z2]) w := by
  kernel_rfl
attribute [local go_sem] idxT0 idxT1 idxT2

set_option maxRecDepth 100000 in
set_option maxHeartbeats 8000000 in
theorem cuts_calls (x0 y0 z0 x1 y1 z1 x2 y2 z2 wx wy wz lv : Nat) (w : World) : Calls Try.prog 80 #[.agg #[.float .f32 x0, .float .f32 y0, .float .f32 z0, .float .f32 x1, .float .f32 y1, .float .f32 z1, .float .f32 x2, .float .f32 y2, .float .f32 z2], .agg #[.float .f32 wx, .float .f32 wy, .float .f32 wz], .float .f32 lv] w fun e w' => ∃ v l, e = .returned v ∧ CutN (tri3 x0 y0 z0 x1 y1 z1 x2 y2 z2) (wx, wy, wz) lv 3 l ∧ OwnedS w' w.heap.size v l ∧ Below w.heap.size w w' := by
  have hST : SK (w.heap.size + 1 + 1) ((w.alloc (.cells #[.float .f32 x0, .float .f32 y0, .float .f32 z0, .float .f32 x1, .float .f32 y1, .float .f32 z1, .float .f32 x2, .float .f32 y2, .float .f32 z2] 105)).alloc (.cells #[.float .f32 wx, .float .f32 wy, .float .f32 wz] 57)) [((⟨w.heap.size, 0, none⟩ : Addr), (.float .f32 x0 : Value)), ((⟨w.heap.size, 1, none⟩ : Addr), (.float .f32 y0 : Value)), ((⟨w.heap.size, 2, none⟩ : Addr), (.float .f32 z0 : Value)), ((⟨w.heap.size, 3, none⟩ : Addr), (.float .f32 x1 : Value)), ((⟨w.heap.size, 4, none⟩ : Addr), (.float .f32 y1 : Value)), ((⟨w.heap.size, 5, none⟩ : Addr), (.float .f32 z1 : Value)), ((⟨w.heap.size, 6, none⟩ : Addr), (.float .f32 x2 : Value)), ((⟨w.heap.size, 7, none⟩ : Addr), (.float .f32 y2 : Value)), ((⟨w.heap.size, 8, none⟩ : Addr), (.float .f32 z2 : Value)), ((⟨w.heap.size + 1, 0, none⟩ : Addr), (.float .f32 wx : Value)), ((⟨w.heap.size + 1, 1, none⟩ : Addr), (.float .f32 wy : Value)), ((⟨w.heap.size + 1, 2, none⟩ : Addr), (.float .f32 wz : Value))] ((w.alloc (.cells #[.float .f32 x0, .float .f32 y0, .float .f32 z0, .float .f32 x1, .float .f32 y1, .float .f32 z1, .float .f32 x2, .float .f32 y2, .float .f32 z2] 105)).alloc (.cells #[.float .f32 wx, .float .f32 wy, .float .f32 wz] 57)) := SK.start (by simp) (by intro p hp; simp at hp; rcases hp with rfl | rfl | rfl | rfl | rfl | rfl | rfl | rfl | rfl | rfl | rfl | rfl <;> simp [go_sem]) (by intro p hp; simp at hp; rcases hp with rfl | rfl | rfl | rfl | rfl | rfl | rfl | rfl | rfl | rfl | rfl | rfl <;> (simp; try omega))
  have HW1 := Frame.hid (by (apply bel_of; (repeat (first | apply below_dn | apply below_al)); exact below_st _) : Below w.heap.size w ((w.alloc (.cells #[.float .f32 x0, .float .f32 y0, .float .f32 z0, .float .f32 x1, .float .f32 y1, .float .f32 z1, .float .f32 x2, .float .f32 y2, .float .f32 z2] 105)).alloc (.cells #[.float .f32 wx, .float .f32 wy, .float .f32 wz] 57)))
  have HST := Frame.hid hST
  clear hST
  go_enter Try.func80, Try.ntmps80
  go_wp2
  go_loopw [7, 14] (fun sv kv wr => ∃ j l, j ≤ 3 ∧ kv = .int .i64 (j : Nat) ∧ CutN (tri3 x0 y0 z0 x1 y1 z1 x2 y2 z2) (wx, wy, wz) lv j l ∧ OwnedS wr (w.heap.size + 1 + 1) sv l ∧ SK (w.heap.size + 1 + 1) ((w.alloc (.cells #[.float .f32 x0, .float .f32 y0, .float .f32 z0, .float .f32 x1, .float .f32 y1, .float .f32 z1, .float .f32 x2, .float .f32 y2, .float .f32 z2] 105)).alloc (.cells #[.float .f32 wx, .float .f32 wy, .float .f32 wz] 57)) [((⟨w.heap.size, 0, none⟩ : Addr), (.float .f32 x0 : Value)), ((⟨w.heap.size, 1, none⟩ : Addr), (.float .f32 y0 : Value)), ((⟨w.heap.size, 2, none⟩ : Addr), (.float .f32 z0 : Value)), ((⟨w.heap.size, 3, none⟩ : Addr), (.float .f32 x1 : Value)), ((⟨w.heap.size, 4, none⟩ : Addr), (.float .f32 y1 : Value)), ((⟨w.heap.size, 5, none⟩ : Addr), (.float .f32 z1 : Value)), ((⟨w.heap.size, 6, none⟩ : Addr), (.float .f32 x2 : Value)), ((⟨w.heap.size, 7, none⟩ : Addr), (.float .f32 y2 : Value)), ((⟨w.heap.size, 8, none⟩ : Addr), (.float .f32 z2 : Value)), ((⟨w.heap.size + 1, 0, none⟩ : Addr), (.float .f32 wx : Value)), ((⟨w.heap.size + 1, 1, none⟩ : Addr), (.float .f32 wy : Value)), ((⟨w.heap.size + 1, 2, none⟩ : Addr), (.float .f32 wz : Value))] wr) (fun _ kv _ => 3 - (intOf kv).toNat)
  case atStart => exact ⟨0, [], by omega, rfl, rfl, OwnedS.nil _ _, HST.out⟩
  case round =>
    obtain ⟨j, l, hj, rfl, hC, hO, hK⟩ := hrel
    have HC := Frame.hid hC
    have HO := Frame.hid hO
    have HK := Frame.hid hK
    have hcells := SK_all12 hK
    obtain ⟨c0, c1, c2, c3, c4, c5, c6, c7, c8, v0, v1, v2, hws, -⟩ := hcells
    have hl := hC.len
    have hb0 : w.heap.size < wr.heap.size := by omega
    have hb1 : w.heap.size + 1 < wr.heap.size := by omega
    clear hC hO hK
    obtain ⟨i0, hi, hz0, hz1, hz2⟩ := info_parts infoSpot
    rcases (by omega : j = 0 ∨ j = 1 ∨ j = 2 ∨ j = 3) with rfl | rfl | rfl | rfl
    · go_wp2_with fail
      refine (dotOfSpots_calls _ _ _ _ _ _ _).mono ?_
      rintro e w1 ⟨d1, rfl, hd1, hdl1, hB1⟩
      have hc := rd_of hB1
      have hBW1 : Below wr.heap.size wr w1 := ((((Below.refl wr.heap.size wr).alloc (Nat.le_refl _) _).alloc (by simp) _).trans (hB1.mono (by simp; omega)))
      have a00 : w1.cell? ⟨wr.heap.size, 0, none⟩ = some (.float .f32 x0) := by rw [hc _ _ (by simp; try omega)]; first | (simp [go_sem]; done) | (simp [go_sem, World.alloc]; done)
      have a01 : w1.cell? ⟨wr.heap.size, 1, none⟩ = some (.float .f32 y0) := by rw [hc _ _ (by simp; try omega)]; first | (simp [go_sem]; done) | (simp [go_sem, World.alloc]; done)
      have a02 : w1.cell? ⟨wr.heap.size, 2, none⟩ = some (.float .f32 z0) := by rw [hc _ _ (by simp; try omega)]; first | (simp [go_sem]; done) | (simp [go_sem, World.alloc]; done)
      have a10 : w1.cell? ⟨wr.heap.size + 1, 0, none⟩ = some (.float .f32 x1) := by rw [hc _ _ (by simp; try omega)]; first | (simp [go_sem]; done) | (simp [go_sem, World.alloc]; done)
      have a11 : w1.cell? ⟨wr.heap.size + 1, 1, none⟩ = some (.float .f32 y1) := by rw [hc _ _ (by simp; try omega)]; first | (simp [go_sem]; done) | (simp [go_sem, World.alloc]; done)
      have a12 : w1.cell? ⟨wr.heap.size + 1, 2, none⟩ = some (.float .f32 z1) := by rw [hc _ _ (by simp; try omega)]; first | (simp [go_sem]; done) | (simp [go_sem, World.alloc]; done)
      have a20 : w1.cell? ⟨w.heap.size + 1, 0, none⟩ = some (.float .f32 wx) := (hBW1.cell hb1).trans v0
      have a21 : w1.cell? ⟨w.heap.size + 1, 1, none⟩ = some (.float .f32 wy) := (hBW1.cell hb1).trans v1
      have a22 : w1.cell? ⟨w.heap.size + 1, 2, none⟩ = some (.float .f32 wz) := (hBW1.cell hb1).trans v2
      have hs1 := hB1.size
      simp at hs1
      have he0 : wr.heap.size < w1.heap.size := by omega
      have he1 : wr.heap.size + 1 < w1.heap.size := by omega
      have he2 : w.heap.size + 1 < w1.heap.size := by omega
      have HB1 := Frame.hid hBW1
      clear hc hB1 hBW1 c0 c1 c2 c3 c4 c5 c6 c7 c8 v0 v1 v2
      go_wp2_with (refine wpList_arith rfl _ _ _ _ _ rfl rfl _ _ _ rfl rfl ?_; intro g1 n1 hsub1 hl1)
      refine (dotOfSpots_calls _ _ _ _ _ _ _).mono ?_
      rintro e w2 ⟨d2, rfl, hd2, hdl2, hB2⟩
      have hc := rd_of hB2
      have b00 : w2.cell? ⟨wr.heap.size, 0, none⟩ = some (.float .f32 x0) := by rw [hc _ _ (by simp; try omega)]; simp [go_sem]; assumption
      have b01 : w2.cell? ⟨wr.heap.size, 1, none⟩ = some (.float .f32 y0) := by rw [hc _ _ (by simp; try omega)]; simp [go_sem]; assumption
      have b02 : w2.cell? ⟨wr.heap.size, 2, none⟩ = some (.float .f32 z0) := by rw [hc _ _ (by simp; try omega)]; simp [go_sem]; assumption
      have b10 : w2.cell? ⟨wr.heap.size + 1, 0, none⟩ = some (.float .f32 x1) := by rw [hc _ _ (by simp; try omega)]; simp [go_sem]; assumption
      have b11 : w2.cell? ⟨wr.heap.size + 1, 1, none⟩ = some (.float .f32 y1) := by rw [hc _ _ (by simp; try omega)]; simp [go_sem]; assumption
      have b12 : w2.cell? ⟨wr.heap.size + 1, 2, none⟩ = some (.float .f32 z1) := by rw [hc _ _ (by simp; try omega)]; simp [go_sem]; assumption
      have b20 : w2.cell? ⟨w.heap.size + 1, 0, none⟩ = some (.float .f32 wx) := by rw [hc _ _ (by simp; try omega)]; simp [go_sem]; assumption
      have b21 : w2.cell? ⟨w.heap.size + 1, 1, none⟩ = some (.float .f32 wy) := by rw [hc _ _ (by simp; try omega)]; simp [go_sem]; assumption
      have b22 : w2.cell? ⟨w.heap.size + 1, 2, none⟩ = some (.float .f32 wz) := by rw [hc _ _ (by simp; try omega)]; simp [go_sem]; assumption
      have hs2 := hB2.size
      simp at hs2
      have he3 : wr.heap.size + 1 < w2.heap.size := by omega
      have HB2 := Frame.hid hB2
      clear hc hB2 a00 a01 a02 a10 a11 a12 a20 a21 a22
      go_wp2_with fail
      refine upon_arith _ _ _ _ _ rfl ?_
      intro g2 n2 hsub2 hl2
      have HBW2 : Hid (Below wr.heap.size wr w2) := HB1.out.trans (((below_drewN (Below.refl _ _) _).trans HB2.out).mono (Nat.le_of_lt he0))
      have HSD := Frame.hid (And.intro hd1 (And.intro hsub1 (And.intro hd2 hsub2)))
      clear hd1 hsub1 hd2 hsub2 hl1 hl2 hdl1 hdl2 HB1 HB2
      go_wp2_with fail
      · rename_i hcmp
        obtain ⟨w3, hw3⟩ : ∃ w3, w3 = w2.drewN n2 := ⟨_, rfl⟩
        have hBW3 : Below wr.heap.size wr w3 := by rw [hw3]; exact below_drewN HBW2.out _
        have hsz3 : wr.heap.size + 1 < w3.heap.size := by rw [hw3]; simpa using he3
        have HO3 := Frame.hid (HO.out.kept hBW3)
        have HK3 := Frame.hid (HK.out.call hBW3)
        have hnb : ∀ k, wr.heap.size ≤ k → (u7 : Value).ownBlock ≠ some k := fun k hk e => by have := (World.ownsRow.lt HO.out k e).2; omega
        have e00 : w3.cell? ⟨wr.heap.size, 0, none⟩ = some (.float .f32 x0) := by rw [hw3]; simpa using b00
        have e01 : w3.cell? ⟨wr.heap.size, 1, none⟩ = some (.float .f32 y0) := by rw [hw3]; simpa using b01
        have e02 : w3.cell? ⟨wr.heap.size, 2, none⟩ = some (.float .f32 z0) := by rw [hw3]; simpa using b02
        have e10 : w3.cell? ⟨wr.heap.size + 1, 0, none⟩ = some (.float .f32 x1) := by rw [hw3]; simpa using b10
        have e11 : w3.cell? ⟨wr.heap.size + 1, 1, none⟩ = some (.float .f32 y1) := by rw [hw3]; simpa using b11
        have e12 : w3.cell? ⟨wr.heap.size + 1, 2, none⟩ = some (.float .f32 z1) := by rw [hw3]; simpa using b12
        have hkk : ∀ W, KeepV w3 u7 W → (W.cell? ⟨wr.heap.size, 0, none⟩ = some (.float .f32 x0) ∧ W.cell? ⟨wr.heap.size, 1, none⟩ = some (.float .f32 y0) ∧ W.cell? ⟨wr.heap.size, 2, none⟩ = some (.float .f32 z0) ∧ W.cell? ⟨wr.heap.size + 1, 0, none⟩ = some (.float .f32 x1) ∧ W.cell? ⟨wr.heap.size + 1, 1, none⟩ = some (.float .f32 y1) ∧ W.cell? ⟨wr.heap.size + 1, 2, none⟩ = some (.float .f32 z1)) := fun W h => ⟨(h.cell (by omega) (hnb _ (by omega))).trans e00, (h.cell (by omega) (hnb _ (by omega))).trans e01, (h.cell (by omega) (hnb _ (by omega))).trans e02, (h.cell (by omega) (hnb _ (by omega))).trans e10, (h.cell (by omega) (hnb _ (by omega))).trans e11, (h.cell (by omega) (hnb _ (by omega))).trans e12⟩
        have HKK := Frame.hid hkk
        rw [← hw3]
        clear hkk hw3 e00 e01 e02 e10 e11 e12 b00 b01 b02 b10 b11 b12 b20 b21 b22 hBW3 hnb
        refine region_hand 14 (fun W => KeepV w3 u7 W) (by kernel_rfl) ?_
        have hW0 : Below w3.heap.size w3 w3.drew := (Below.refl _ _).drew
        have hS0 : KeepV w3 u7 w3.drew := KeepV.of hW0
        generalize w3.drew = wd at hW0 hS0 ⊢
        refine' wpEnd_take 0 rfl (by kernel_rfl) hS0 (Or.inl ⟨by rfl, fun wq hSq => _⟩) _
        rotate_left
        · (obtain ⟨q0, q1, q2, q3, q4, q5⟩ := HKK.out _ hSq; go_simp; (try with_reducible rfl))
        simp only [Act.put, List.setIfInBounds_toArray, List.set_cons_zero, List.set_cons_succ]
        refine' wpEnd_take 1 rfl (by kernel_rfl) hS0 (Or.inl ⟨by rfl, fun wq hSq => _⟩) _
        rotate_left
        · (obtain ⟨q0, q1, q2, q3, q4, q5⟩ := HKK.out _ hSq; go_simp; (try with_reducible rfl))
        simp only [Act.put, List.setIfInBounds_toArray, List.set_cons_zero, List.set_cons_succ]
        refine' wpEnd_take 2 rfl (by kernel_rfl) hS0 (Or.inl ⟨by rfl, fun wq hSq => _⟩) _
        rotate_left
        · (obtain ⟨q0, q1, q2, q3, q4, q5⟩ := HKK.out _ hSq; go_simp; (try with_reducible rfl))
        simp only [Act.put, List.setIfInBounds_toArray, List.set_cons_zero, List.set_cons_succ]
        refine' wpEnd_take 3 rfl (by kernel_rfl) hS0 (Or.inl ⟨by rfl, fun wq hSq => _⟩) _
        rotate_left
        · (obtain ⟨q0, q1, q2, q3, q4, q5⟩ := HKK.out _ hSq; go_simp; (try with_reducible rfl))
        simp only [Act.put, List.setIfInBounds_toArray, List.set_cons_zero, List.set_cons_succ]
        refine' wpEnd_take 5 rfl (by kernel_rfl) hS0 (Or.inl ⟨by rfl, fun wq hSq => _⟩) _
        rotate_left
        · (obtain ⟨q0, q1, q2, q3, q4, q5⟩ := HKK.out _ hSq; go_simp; (try with_reducible rfl))
        simp only [Act.put, List.setIfInBounds_toArray, List.set_cons_zero, List.set_cons_succ]
        refine' wpEnd_take 6 rfl (by kernel_rfl) hS0 (Or.inl ⟨by rfl, fun wq hSq => _⟩) _
        rotate_left
        · (obtain ⟨q0, q1, q2, q3, q4, q5⟩ := HKK.out _ hSq; go_simp; (try with_reducible rfl))
        simp only [Act.put, List.setIfInBounds_toArray, List.set_cons_zero, List.set_cons_succ]
        refine' wpEnd_take 7 rfl (by kernel_rfl) hS0 (Or.inl ⟨by rfl, fun wq hSq => _⟩) _
        rotate_left
        · (obtain ⟨q0, q1, q2, q3, q4, q5⟩ := HKK.out _ hSq; go_simp; (try with_reducible rfl))
        simp only [Act.put, List.setIfInBounds_toArray, List.set_cons_zero, List.set_cons_succ]
        refine wpEnd_ready [4, 8] (by kernel_rfl) rfl (AllE.cons rfl (fun K hK => ?_) (AllE.cons rfl (fun K hK => ?_) AllE.nil))
        · go_simp
          go_at_call 104
          refine (less_calls _ _ _ _ _ _ _).mono ?_
          rintro e_ wl ⟨l1, l2, l3, rfl, hL, hBa⟩
          have HL := Frame.hid hL
          have hWl : Below w3.heap.size w3 wl := hW0.trans (hBa.mono hW0.size)
          clear hL hBa
          refine hK.out _ _ (.inr (KeepV.of hWl)) ?_
          clear hK K
          (try simp only [Act.put, List.setIfInBounds_toArray, List.set_cons_zero, List.set_cons_succ])
          refine wpEnd_ready [8] (by kernel_rfl) rfl (AllE.cons rfl (fun K hK => ?_) AllE.nil)
          refine step_arith rfl _ _ _ _ _ rfl rfl _ _ _ rfl rfl ?_
          intro s1 n3 hsub3 _
          have HSUB3Q := Frame.hid hsub3
          clear hsub3
          have hWs : Below w3.heap.size w3 (wl.drewN n3) := below_drewN hWl n3
          generalize wl.drewN n3 = ws at hWs ⊢
          refine hK.out _ _ (.inr (KeepV.of hWs)) ?_
          clear hK K
          (try simp only [Act.put, List.setIfInBounds_toArray, List.set_cons_zero, List.set_cons_succ])
          refine wpEnd_ready [9] (by kernel_rfl) rfl (AllE.cons rfl (fun K hK => ?_) AllE.nil)
          refine step_arith rfl _ _ _ _ _ rfl rfl _ _ _ rfl rfl ?_
          intro q1 n4 hquo _
          have HQUOQ := Frame.hid hquo
          clear hquo
          have hWq : Below w3.heap.size w3 (ws.drewN n4) := below_drewN hWs n4
          generalize ws.drewN n4 = wq at hWq ⊢
          refine hK.out _ _ (.inr (KeepV.of hWq)) ?_
          clear hK K
          (try simp only [Act.put, List.setIfInBounds_toArray, List.set_cons_zero, List.set_cons_succ])
          refine wpEnd_ready [10] (by kernel_rfl) rfl (AllE.cons rfl (fun K hK => ?_) AllE.nil)
          go_simp
          go_at_call 88
          refine (times_calls _ _ _ _ _).mono ?_
          rintro e_ wt ⟨t1, t2, t3, rfl, hT, hBa⟩
          have HT := Frame.hid hT
          have hWt : Below w3.heap.size w3 wt := hWq.trans (hBa.mono hWq.size)
          clear hT hBa
          refine hK.out _ _ (.inr (KeepV.of hWt)) ?_
          clear hK K
          (try simp only [Act.put, List.setIfInBounds_toArray, List.set_cons_zero, List.set_cons_succ])
          refine wpEnd_ready [11] (by kernel_rfl) rfl (AllE.cons rfl (fun K hK => ?_) AllE.nil)
          go_simp
          go_at_call 89
          refine (plus_calls _ _ _ _ _ _ _).mono ?_
          rintro e_ wp ⟨p1, p2, p3, rfl, hP, hBa⟩
          have HP := Frame.hid hP
          have hWp : Below w3.heap.size w3 wp := hWt.trans (hBa.mono hWt.size)
          clear hP hBa
          refine hK.out _ _ (.inr (KeepV.of hWp)) ?_
          clear hK K
          (try simp only [Act.put, List.setIfInBounds_toArray, List.set_cons_zero, List.set_cons_succ])
          refine wpEnd_ready [12] (by kernel_rfl) rfl (AllE.cons rfl (fun K hK => ?_) AllE.nil)
          go_simp
          have hWa := hWp.alloc hWp.size (.cells #[.float .f32 p1, .float .f32 p2, .float .f32 p3] 57)
          refine hK.out _ _ (.inr (KeepV.of hWa)) ?_
          clear hK K
          (try simp only [Act.put, List.setIfInBounds_toArray, List.set_cons_zero, List.set_cons_succ])
          refine wpEnd_ready [13] (by kernel_rfl) rfl (AllE.cons rfl (fun K hK => ?_) AllE.nil)
          refine step_append_any rfl _ _ 26 rfl (w.heap.size + 1 + 1) 57 i0 (.agg #[.float .f32 0, .float .f32 0, .float .f32 0]) 3 12 Try.underlying26 hi hz0 hz1 hz2 rfl (by decide) u7 l.length (cellsS l) rfl ?_ ⟨wp.heap.size, 0, none⟩ 1 1 (cellsS [(p1, p2, p3)]) rfl rfl (news3' _ _ _ _ _) (cellsS_one _) (by unfold maxLen; omega) (by omega) (by have := hWp.size; simp; omega) ?_
          · exact (HO3.out.kept hWa)
          intro v3 w5 hown3 hgrow3 hnil3
          have hS3 : Below (w.heap.size + 1 + 1) w3 w5 := Below.grown (hWa.mono (by omega)) hgrow3 (by have := hWp.size; simp; omega) (fun k' hk' => (World.ownsRow.lt HO3.out k' hk').1)
          have hKV : KeepV w3 u7 w5 := (KeepV.of hWa).grown hgrow3
          have HOX : Hid (OwnedS w5 (w.heap.size + 1 + 1) v3 (l ++ [(p1, p2, p3)])) := own_snoc hown3
          have HS3 := Frame.hid hS3
          clear hgrow3 hnil3 hown3 hS3
          refine hK.out _ _ (.inr hKV) ?_
          clear hK K
          (try simp only [Act.put, List.setIfInBounds_toArray, List.set_cons_zero, List.set_cons_succ])
          refine wpEnd_ready [14] (by kernel_rfl) rfl (AllE.cons rfl (fun K hK => ?_) AllE.nil)
          go_simp
          refine hK.out _ _ (.inl rfl) ?_
          clear hK K
          refine wpEnd_done (by kernel_rfl) ?_
          go_wp2_with fail
          go_roundw
          case rel => exact ⟨1, l ++ [(p1, p2, p3)], by omega, by go_num, ⟨l, _, HC.out, ⟨_, _, _, _, HSD.out.1, HSD.out.2.1, HSD.out.2.2.1, HSD.out.2.2.2, .inr ⟨geW_ne hcmp, _, _, _, _, _, _, _, _, _, _, _, HL.out, HSUB3Q.out, HQUOQ.out, HT.out, HP.out, rfl⟩⟩, rfl⟩, HOX.out, HK3.out.below HS3.out⟩
          case measure => simp [intOf]
        · refine step_arith rfl _ _ _ _ _ rfl rfl _ _ _ rfl rfl ?_
          intro s1 n3 hsub3 _
          have HSUB3Q := Frame.hid hsub3
          clear hsub3
          have hW1 : Below w3.heap.size w3 (wd.drewN n3) := below_drewN hW0 n3
          generalize wd.drewN n3 = ws at hW1 ⊢
          refine hK.out _ _ (.inr (KeepV.of hW1)) ?_
          clear hK K
          (try simp only [Act.put, List.setIfInBounds_toArray, List.set_cons_zero, List.set_cons_succ])
          refine wpEnd_ready [4, 9] (by kernel_rfl) rfl (AllE.cons rfl (fun K hK => ?_) (AllE.cons rfl (fun K hK => ?_) AllE.nil))
          · go_simp
            go_at_call 104
            refine (less_calls _ _ _ _ _ _ _).mono ?_
            rintro e_ wl ⟨l1, l2, l3, rfl, hL, hBa⟩
            have HL := Frame.hid hL
            have hWl : Below w3.heap.size w3 wl := hW1.trans (hBa.mono hW1.size)
            clear hL hBa
            refine hK.out _ _ (.inr (KeepV.of hWl)) ?_
            clear hK K
            (try simp only [Act.put, List.setIfInBounds_toArray, List.set_cons_zero, List.set_cons_succ])
            refine wpEnd_ready [9] (by kernel_rfl) rfl (AllE.cons rfl (fun K hK => ?_) AllE.nil)
            refine step_arith rfl _ _ _ _ _ rfl rfl _ _ _ rfl rfl ?_
            intro q1 n4 hquo _
            have HQUOQ := Frame.hid hquo
            clear hquo
            have hWq : Below w3.heap.size w3 (wl.drewN n4) := below_drewN hWl n4
            generalize wl.drewN n4 = wq at hWq ⊢
            refine hK.out _ _ (.inr (KeepV.of hWq)) ?_
            clear hK K
            (try simp only [Act.put, List.setIfInBounds_toArray, List.set_cons_zero, List.set_cons_succ])
            refine wpEnd_ready [10] (by kernel_rfl) rfl (AllE.cons rfl (fun K hK => ?_) AllE.nil)
            go_simp
            go_at_call 88
            refine (times_calls _ _ _ _ _).mono ?_
            rintro e_ wt ⟨t1, t2, t3, rfl, hT, hBa⟩
            have HT := Frame.hid hT
            have hWt : Below w3.heap.size w3 wt := hWq.trans (hBa.mono hWq.size)
            clear hT hBa
            refine hK.out _ _ (.inr (KeepV.of hWt)) ?_
            clear hK K
            (try simp only [Act.put, List.setIfInBounds_toArray, List.set_cons_zero, List.set_cons_succ])
            refine wpEnd_ready [11] (by kernel_rfl) rfl (AllE.cons rfl (fun K hK => ?_) AllE.nil)
            go_simp
            go_at_call 89
            refine (plus_calls _ _ _ _ _ _ _).mono ?_
            rintro e_ wp ⟨p1, p2, p3, rfl, hP, hBa⟩
            have HP := Frame.hid hP
            have hWp : Below w3.heap.size w3 wp := hWt.trans (hBa.mono hWt.size)
            clear hP hBa
            refine hK.out _ _ (.inr (KeepV.of hWp)) ?_
            clear hK K
            (try simp only [Act.put, List.setIfInBounds_toArray, List.set_cons_zero, List.set_cons_succ])
            refine wpEnd_ready [12] (by kernel_rfl) rfl (AllE.cons rfl (fun K hK => ?_) AllE.nil)
            go_simp
            have hWa := hWp.alloc hWp.size (.cells #[.float .f32 p1, .float .f32 p2, .float .f32 p3] 57)
            refine hK.out _ _ (.inr (KeepV.of hWa)) ?_
            clear hK K
            (try simp only [Act.put, List.setIfInBounds_toArray, List.set_cons_zero, List.set_cons_succ])
            refine wpEnd_ready [13] (by kernel_rfl) rfl (AllE.cons rfl (fun K hK => ?_) AllE.nil)
            refine step_append_any rfl _ _ 26 rfl (w.heap.size + 1 + 1) 57 i0 (.agg #[.float .f32 0, .float .f32 0, .float .f32 0]) 3 12 Try.underlying26 hi hz0 hz1 hz2 rfl (by decide) u7 l.length (cellsS l) rfl ?_ ⟨wp.heap.size, 0, none⟩ 1 1 (cellsS [(p1, p2, p3)]) rfl rfl (news3' _ _ _ _ _) (cellsS_one _) (by unfold maxLen; omega) (by omega) (by have := hWp.size; simp; omega) ?_
            · exact (HO3.out.kept hWa)
            intro v3 w5 hown3 hgrow3 hnil3
            have hS3 : Below (w.heap.size + 1 + 1) w3 w5 := Below.grown (hWa.mono (by omega)) hgrow3 (by have := hWp.size; simp; omega) (fun k' hk' => (World.ownsRow.lt HO3.out k' hk').1)
            have hKV : KeepV w3 u7 w5 := (KeepV.of hWa).grown hgrow3
            have HOX : Hid (OwnedS w5 (w.heap.size + 1 + 1) v3 (l ++ [(p1, p2, p3)])) := own_snoc hown3
            have HS3 := Frame.hid hS3
            clear hgrow3 hnil3 hown3 hS3
            refine hK.out _ _ (.inr hKV) ?_
            clear hK K
            (try simp only [Act.put, List.setIfInBounds_toArray, List.set_cons_zero, List.set_cons_succ])
            refine wpEnd_ready [14] (by kernel_rfl) rfl (AllE.cons rfl (fun K hK => ?_) AllE.nil)
            go_simp
            refine hK.out _ _ (.inl rfl) ?_
            clear hK K
            refine wpEnd_done (by kernel_rfl) ?_
            go_wp2_with fail
            go_roundw
            case rel => exact ⟨1, l ++ [(p1, p2, p3)], by omega, by go_num, ⟨l, _, HC.out, ⟨_, _, _, _, HSD.out.1, HSD.out.2.1, HSD.out.2.2.1, HSD.out.2.2.2, .inr ⟨geW_ne hcmp, _, _, _, _, _, _, _, _, _, _, _, HL.out, HSUB3Q.out, HQUOQ.out, HT.out, HP.out, rfl⟩⟩, rfl⟩, HOX.out, HK3.out.below HS3.out⟩
            case measure => simp [intOf]
          · refine step_arith rfl _ _ _ _ _ rfl rfl _ _ _ rfl rfl ?_
            intro q1 n4 hquo _
            have HQUOQ := Frame.hid hquo
            clear hquo
            have hWq : Below w3.heap.size w3 (ws.drewN n4) := below_drewN hW1 n4
            generalize ws.drewN n4 = wq at hWq ⊢
            refine hK.out _ _ (.inr (KeepV.of hWq)) ?_
            clear hK K
            (try simp only [Act.put, List.setIfInBounds_toArray, List.set_cons_zero, List.set_cons_succ])
            refine wpEnd_ready [4] (by kernel_rfl) rfl (AllE.cons rfl (fun K hK => ?_) AllE.nil)
            go_simp
            go_at_call 104
            refine (less_calls _ _ _ _ _ _ _).mono ?_
            rintro e_ wl ⟨l1, l2, l3, rfl, hL, hBa⟩
            have HL := Frame.hid hL
            have hWl : Below w3.heap.size w3 wl := hWq.trans (hBa.mono hWq.size)
            clear hL hBa
            refine hK.out _ _ (.inr (KeepV.of hWl)) ?_
            clear hK K
            (try simp only [Act.put, List.setIfInBounds_toArray, List.set_cons_zero, List.set_cons_succ])
            refine wpEnd_ready [10] (by kernel_rfl) rfl (AllE.cons rfl (fun K hK => ?_) AllE.nil)
            go_simp
            go_at_call 88
            refine (times_calls _ _ _ _ _).mono ?_
            rintro e_ wt ⟨t1, t2, t3, rfl, hT, hBa⟩
            have HT := Frame.hid hT
            have hWt : Below w3.heap.size w3 wt := hWl.trans (hBa.mono hWl.size)
            clear hT hBa
            refine hK.out _ _ (.inr (KeepV.of hWt)) ?_
            clear hK K
            (try simp only [Act.put, List.setIfInBounds_toArray, List.set_cons_zero, List.set_cons_succ])
            refine wpEnd_ready [11] (by kernel_rfl) rfl (AllE.cons rfl (fun K hK => ?_) AllE.nil)
            go_simp
            go_at_call 89
            refine (plus_calls _ _ _ _ _ _ _).mono ?_
            rintro e_ wp ⟨p1, p2, p3, rfl, hP, hBa⟩
            have HP := Frame.hid hP
            have hWp : Below w3.heap.size w3 wp := hWt.trans (hBa.mono hWt.size)
            clear hP hBa
            refine hK.out _ _ (.inr (KeepV.of hWp)) ?_
            clear hK K
            (try simp only [Act.put, List.setIfInBounds_toArray, List.set_cons_zero, List.set_cons_succ])
            refine wpEnd_ready [12] (by kernel_rfl) rfl (AllE.cons rfl (fun K hK => ?_) AllE.nil)
            go_simp
            have hWa := hWp.alloc hWp.size (.cells #[.float .f32 p1, .float .f32 p2, .float .f32 p3] 57)
            refine hK.out _ _ (.inr (KeepV.of hWa)) ?_
            clear hK K
            (try simp only [Act.put, List.setIfInBounds_toArray, List.set_cons_zero, List.set_cons_succ])
            refine wpEnd_ready [13] (by kernel_rfl) rfl (AllE.cons rfl (fun K hK => ?_) AllE.nil)
            refine step_append_any rfl _ _ 26 rfl (w.heap.size + 1 + 1) 57 i0 (.agg #[.float .f32 0, .float .f32 0, .float .f32 0]) 3 12 Try.underlying26 hi hz0 hz1 hz2 rfl (by decide) u7 l.length (cellsS l) rfl ?_ ⟨wp.heap.size, 0, none⟩ 1 1 (cellsS [(p1, p2, p3)]) rfl rfl (news3' _ _ _ _ _) (cellsS_one _) (by unfold maxLen; omega) (by omega) (by have := hWp.size; simp; omega) ?_
            · exact (HO3.out.kept hWa)
            intro v3 w5 hown3 hgrow3 hnil3
            have hS3 : Below (w.heap.size + 1 + 1) w3 w5 := Below.grown (hWa.mono (by omega)) hgrow3 (by have := hWp.size; simp; omega) (fun k' hk' => (World.ownsRow.lt HO3.out k' hk').1)
            have hKV : KeepV w3 u7 w5 := (KeepV.of hWa).grown hgrow3
            have HOX : Hid (OwnedS w5 (w.heap.size + 1 + 1) v3 (l ++ [(p1, p2, p3)])) := own_snoc hown3
            have HS3 := Frame.hid hS3
            clear hgrow3 hnil3 hown3 hS3
            refine hK.out _ _ (.inr hKV) ?_
            clear hK K
            (try simp only [Act.put, List.setIfInBounds_toArray, List.set_cons_zero, List.set_cons_succ])
            refine wpEnd_ready [14] (by kernel_rfl) rfl (AllE.cons rfl (fun K hK => ?_) AllE.nil)
            go_simp
            refine hK.out _ _ (.inl rfl) ?_
            clear hK K
            refine wpEnd_done (by kernel_rfl) ?_
            go_wp2_with fail
            go_roundw
            case rel => exact ⟨1, l ++ [(p1, p2, p3)], by omega, by go_num, ⟨l, _, HC.out, ⟨_, _, _, _, HSD.out.1, HSD.out.2.1, HSD.out.2.2.1, HSD.out.2.2.2, .inr ⟨geW_ne hcmp, _, _, _, _, _, _, _, _, _, _, _, HL.out, HSUB3Q.out, HQUOQ.out, HT.out, HP.out, rfl⟩⟩, rfl⟩, HOX.out, HK3.out.below HS3.out⟩
            case measure => simp [intOf]
      · rename_i hcmp
        go_roundw
        case rel => exact ⟨1, l, by omega, by go_num, ⟨l, [], HC.out, ⟨_, _, _, _, HSD.out.1, HSD.out.2.1, HSD.out.2.2.1, HSD.out.2.2.2, .inl ⟨geW_eq hcmp, rfl⟩⟩, by simp⟩, (HO.out.kept HBW2.out).drewN' _, (HK.out.call HBW2.out).drewN _⟩
        case measure => simp [intOf]
    · go_wp2_with fail
      refine (dotOfSpots_calls _ _ _ _ _ _ _).mono ?_
      rintro e w1 ⟨d1, rfl, hd1, hdl1, hB1⟩
      have hc := rd_of hB1
      have hBW1 : Below wr.heap.size wr w1 := ((((Below.refl wr.heap.size wr).alloc (Nat.le_refl _) _).alloc (by simp) _).trans (hB1.mono (by simp; omega)))
      have a00 : w1.cell? ⟨wr.heap.size, 0, none⟩ = some (.float .f32 x1) := by rw [hc _ _ (by simp; try omega)]; first | (simp [go_sem]; done) | (simp [go_sem, World.alloc]; done)
      have a01 : w1.cell? ⟨wr.heap.size, 1, none⟩ = some (.float .f32 y1) := by rw [hc _ _ (by simp; try omega)]; first | (simp [go_sem]; done) | (simp [go_sem, World.alloc]; done)
      have a02 : w1.cell? ⟨wr.heap.size, 2, none⟩ = some (.float .f32 z1) := by rw [hc _ _ (by simp; try omega)]; first | (simp [go_sem]; done) | (simp [go_sem, World.alloc]; done)
      have a10 : w1.cell? ⟨wr.heap.size + 1, 0, none⟩ = some (.float .f32 x2) := by rw [hc _ _ (by simp; try omega)]; first | (simp [go_sem]; done) | (simp [go_sem, World.alloc]; done)
      have a11 : w1.cell? ⟨wr.heap.size + 1, 1, none⟩ = some (.float .f32 y2) := by rw [hc _ _ (by simp; try omega)]; first | (simp [go_sem]; done) | (simp [go_sem, World.alloc]; done)
      have a12 : w1.cell? ⟨wr.heap.size + 1, 2, none⟩ = some (.float .f32 z2) := by rw [hc _ _ (by simp; try omega)]; first | (simp [go_sem]; done) | (simp [go_sem, World.alloc]; done)
      have a20 : w1.cell? ⟨w.heap.size + 1, 0, none⟩ = some (.float .f32 wx) := (hBW1.cell hb1).trans v0
      have a21 : w1.cell? ⟨w.heap.size + 1, 1, none⟩ = some (.float .f32 wy) := (hBW1.cell hb1).trans v1
      have a22 : w1.cell? ⟨w.heap.size + 1, 2, none⟩ = some (.float .f32 wz) := (hBW1.cell hb1).trans v2
      have hs1 := hB1.size
      simp at hs1
      have he0 : wr.heap.size < w1.heap.size := by omega
      have he1 : wr.heap.size + 1 < w1.heap.size := by omega
      have he2 : w.heap.size + 1 < w1.heap.size := by omega
      have HB1 := Frame.hid hBW1
      clear hc hB1 hBW1 c0 c1 c2 c3 c4 c5 c6 c7 c8 v0 v1 v2
      go_wp2_with (refine wpList_arith rfl _ _ _ _ _ rfl rfl _ _ _ rfl rfl ?_; intro g1 n1 hsub1 hl1)
      refine (dotOfSpots_calls _ _ _ _ _ _ _).mono ?_
      rintro e w2 ⟨d2, rfl, hd2, hdl2, hB2⟩
      have hc := rd_of hB2
      have b00 : w2.cell? ⟨wr.heap.size, 0, none⟩ = some (.float .f32 x1) := by rw [hc _ _ (by simp; try omega)]; simp [go_sem]; assumption
      have b01 : w2.cell? ⟨wr.heap.size, 1, none⟩ = some (.float .f32 y1) := by rw [hc _ _ (by simp; try omega)]; simp [go_sem]; assumption
      have b02 : w2.cell? ⟨wr.heap.size, 2, none⟩ = some (.float .f32 z1) := by rw [hc _ _ (by simp; try omega)]; simp [go_sem]; assumption
      have b10 : w2.cell? ⟨wr.heap.size + 1, 0, none⟩ = some (.float .f32 x2) := by rw [hc _ _ (by simp; try omega)]; simp [go_sem]; assumption
      have b11 : w2.cell? ⟨wr.heap.size + 1, 1, none⟩ = some (.float .f32 y2) := by rw [hc _ _ (by simp; try omega)]; simp [go_sem]; assumption
      have b12 : w2.cell? ⟨wr.heap.size + 1, 2, none⟩ = some (.float .f32 z2) := by rw [hc _ _ (by simp; try omega)]; simp [go_sem]; assumption
      have b20 : w2.cell? ⟨w.heap.size + 1, 0, none⟩ = some (.float .f32 wx) := by rw [hc _ _ (by simp; try omega)]; simp [go_sem]; assumption
      have b21 : w2.cell? ⟨w.heap.size + 1, 1, none⟩ = some (.float .f32 wy) := by rw [hc _ _ (by simp; try omega)]; simp [go_sem]; assumption
      have b22 : w2.cell? ⟨w.heap.size + 1, 2, none⟩ = some (.float .f32 wz) := by rw [hc _ _ (by simp; try omega)]; simp [go_sem]; assumption
      have hs2 := hB2.size
      simp at hs2
      have he3 : wr.heap.size + 1 < w2.heap.size := by omega
      have HB2 := Frame.hid hB2
      clear hc hB2 a00 a01 a02 a10 a11 a12 a20 a21 a22
      go_wp2_with fail
      refine upon_arith _ _ _ _ _ rfl ?_
      intro g2 n2 hsub2 hl2
      have HBW2 : Hid (Below wr.heap.size wr w2) := HB1.out.trans (((below_drewN (Below.refl _ _) _).trans HB2.out).mono (Nat.le_of_lt he0))
      have HSD := Frame.hid (And.intro hd1 (And.intro hsub1 (And.intro hd2 hsub2)))
      clear hd1 hsub1 hd2 hsub2 hl1 hl2 hdl1 hdl2 HB1 HB2
      go_wp2_with fail
      · rename_i hcmp
        obtain ⟨w3, hw3⟩ : ∃ w3, w3 = w2.drewN n2 := ⟨_, rfl⟩
        have hBW3 : Below wr.heap.size wr w3 := by rw [hw3]; exact below_drewN HBW2.out _
        have hsz3 : wr.heap.size + 1 < w3.heap.size := by rw [hw3]; simpa using he3
        have HO3 := Frame.hid (HO.out.kept hBW3)
        have HK3 := Frame.hid (HK.out.call hBW3)
        have hnb : ∀ k, wr.heap.size ≤ k → (u7 : Value).ownBlock ≠ some k := fun k hk e => by have := (World.ownsRow.lt HO.out k e).2; omega
        have e00 : w3.cell? ⟨wr.heap.size, 0, none⟩ = some (.float .f32 x1) := by rw [hw3]; simpa using b00
        have e01 : w3.cell? ⟨wr.heap.size, 1, none⟩ = some (.float .f32 y1) := by rw [hw3]; simpa using b01
        have e02 : w3.cell? ⟨wr.heap.size, 2, none⟩ = some (.float .f32 z1) := by rw [hw3]; simpa using b02
        have e10 : w3.cell? ⟨wr.heap.size + 1, 0, none⟩ = some (.float .f32 x2) := by rw [hw3]; simpa using b10
        have e11 : w3.cell? ⟨wr.heap.size + 1, 1, none⟩ = some (.float .f32 y2) := by rw [hw3]; simpa using b11
        have e12 : w3.cell? ⟨wr.heap.size + 1, 2, none⟩ = some (.float .f32 z2) := by rw [hw3]; simpa using b12
        have hkk : ∀ W, KeepV w3 u7 W → (W.cell? ⟨wr.heap.size, 0, none⟩ = some (.float .f32 x1) ∧ W.cell? ⟨wr.heap.size, 1, none⟩ = some (.float .f32 y1) ∧ W.cell? ⟨wr.heap.size, 2, none⟩ = some (.float .f32 z1) ∧ W.cell? ⟨wr.heap.size + 1, 0, none⟩ = some (.float .f32 x2) ∧ W.cell? ⟨wr.heap.size + 1, 1, none⟩ = some (.float .f32 y2) ∧ W.cell? ⟨wr.heap.size + 1, 2, none⟩ = some (.float .f32 z2)) := fun W h => ⟨(h.cell (by omega) (hnb _ (by omega))).trans e00, (h.cell (by omega) (hnb _ (by omega))).trans e01, (h.cell (by omega) (hnb _ (by omega))).trans e02, (h.cell (by omega) (hnb _ (by omega))).trans e10, (h.cell (by omega) (hnb _ (by omega))).trans e11, (h.cell (by omega) (hnb _ (by omega))).trans e12⟩
        have HKK := Frame.hid hkk
        rw [← hw3]
        clear hkk hw3 e00 e01 e02 e10 e11 e12 b00 b01 b02 b10 b11 b12 b20 b21 b22 hBW3 hnb
        refine region_hand 14 (fun W => KeepV w3 u7 W) (by kernel_rfl) ?_
        have hW0 : Below w3.heap.size w3 w3.drew := (Below.refl _ _).drew
        have hS0 : KeepV w3 u7 w3.drew := KeepV.of hW0
        generalize w3.drew = wd at hW0 hS0 ⊢
        refine' wpEnd_take 0 rfl (by kernel_rfl) hS0 (Or.inl ⟨by rfl, fun wq hSq => _⟩) _
        rotate_left
        · (obtain ⟨q0, q1, q2, q3, q4, q5⟩ := HKK.out _ hSq; go_simp; (try with_reducible rfl))
        simp only [Act.put, List.setIfInBounds_toArray, List.set_cons_zero, List.set_cons_succ]
        refine' wpEnd_take 1 rfl (by kernel_rfl) hS0 (Or.inl ⟨by rfl, fun wq hSq => _⟩) _
        rotate_left
        · (obtain ⟨q0, q1, q2, q3, q4, q5⟩ := HKK.out _ hSq; go_simp; (try with_reducible rfl))
        simp only [Act.put, List.setIfInBounds_toArray, List.set_cons_zero, List.set_cons_succ]
        refine' wpEnd_take 2 rfl (by kernel_rfl) hS0 (Or.inl ⟨by rfl, fun wq hSq => _⟩) _
        rotate_left
        · (obtain ⟨q0, q1, q2, q3, q4, q5⟩ := HKK.out _ hSq; go_simp; (try with_reducible rfl))
        simp only [Act.put, List.setIfInBounds_toArray, List.set_cons_zero, List.set_cons_succ]
        refine' wpEnd_take 3 rfl (by kernel_rfl) hS0 (Or.inl ⟨by rfl, fun wq hSq => _⟩) _
        rotate_left
        · (obtain ⟨q0, q1, q2, q3, q4, q5⟩ := HKK.out _ hSq; go_simp; (try with_reducible rfl))
        simp only [Act.put, List.setIfInBounds_toArray, List.set_cons_zero, List.set_cons_succ]
        refine' wpEnd_take 5 rfl (by kernel_rfl) hS0 (Or.inl ⟨by rfl, fun wq hSq => _⟩) _
        rotate_left
        · (obtain ⟨q0, q1, q2, q3, q4, q5⟩ := HKK.out _ hSq; go_simp; (try with_reducible rfl))
        simp only [Act.put, List.setIfInBounds_toArray, List.set_cons_zero, List.set_cons_succ]
        refine' wpEnd_take 6 rfl (by kernel_rfl) hS0 (Or.inl ⟨by rfl, fun wq hSq => _⟩) _
        rotate_left
        · (obtain ⟨q0, q1, q2, q3, q4, q5⟩ := HKK.out _ hSq; go_simp; (try with_reducible rfl))
        simp only [Act.put, List.setIfInBounds_toArray, List.set_cons_zero, List.set_cons_succ]
        refine' wpEnd_take 7 rfl (by kernel_rfl) hS0 (Or.inl ⟨by rfl, fun wq hSq => _⟩) _
        rotate_left
        · (obtain ⟨q0, q1, q2, q3, q4, q5⟩ := HKK.out _ hSq; go_simp; (try with_reducible rfl))
        simp only [Act.put, List.setIfInBounds_toArray, List.set_cons_zero, List.set_cons_succ]
        refine wpEnd_ready [4, 8] (by kernel_rfl) rfl (AllE.cons rfl (fun K hK => ?_) (AllE.cons rfl (fun K hK => ?_) AllE.nil))
        · go_simp
          go_at_call 104
          refine (less_calls _ _ _ _ _ _ _).mono ?_
          rintro e_ wl ⟨l1, l2, l3, rfl, hL, hBa⟩
          have HL := Frame.hid hL
          have hWl : Below w3.heap.size w3 wl := hW0.trans (hBa.mono hW0.size)
          clear hL hBa
          refine hK.out _ _ (.inr (KeepV.of hWl)) ?_
          clear hK K
          (try simp only [Act.put, List.setIfInBounds_toArray, List.set_cons_zero, List.set_cons_succ])
          refine wpEnd_ready [8] (by kernel_rfl) rfl (AllE.cons rfl (fun K hK => ?_) AllE.nil)
          refine step_arith rfl _ _ _ _ _ rfl rfl _ _ _ rfl rfl ?_
          intro s1 n3 hsub3 _
          have HSUB3Q := Frame.hid hsub3
          clear hsub3
          have hWs : Below w3.heap.size w3 (wl.drewN n3) := below_drewN hWl n3
          generalize wl.drewN n3 = ws at hWs ⊢
          refine hK.out _ _ (.inr (KeepV.of hWs)) ?_
          clear hK K
          (try simp only [Act.put, List.setIfInBounds_toArray, List.set_cons_zero, List.set_cons_succ])
          refine wpEnd_ready [9] (by kernel_rfl) rfl (AllE.cons rfl (fun K hK => ?_) AllE.nil)
          refine step_arith rfl _ _ _ _ _ rfl rfl _ _ _ rfl rfl ?_
          intro q1 n4 hquo _
          have HQUOQ := Frame.hid hquo
          clear hquo
          have hWq : Below w3.heap.size w3 (ws.drewN n4) := below_drewN hWs n4
          generalize ws.drewN n4 = wq at hWq ⊢
          refine hK.out _ _ (.inr (KeepV.of hWq)) ?_
          clear hK K
          (try simp only [Act.put, List.setIfInBounds_toArray, List.set_cons_zero, List.set_cons_succ])
          refine wpEnd_ready [10] (by kernel_rfl) rfl (AllE.cons rfl (fun K hK => ?_) AllE.nil)
          go_simp
          go_at_call 88
          refine (times_calls _ _ _ _ _).mono ?_
          rintro e_ wt ⟨t1, t2, t3, rfl, hT, hBa⟩
          have HT := Frame.hid hT
          have hWt : Below w3.heap.size w3 wt := hWq.trans (hBa.mono hWq.size)
          clear hT hBa
          refine hK.out _ _ (.inr (KeepV.of hWt)) ?_
          clear hK K
          (try simp only [Act.put, List.setIfInBounds_toArray, List.set_cons_zero, List.set_cons_succ])
          refine wpEnd_ready [11] (by kernel_rfl) rfl (AllE.cons rfl (fun K hK => ?_) AllE.nil)
          go_simp
          go_at_call 89
          refine (plus_calls _ _ _ _ _ _ _).mono ?_
          rintro e_ wp ⟨p1, p2, p3, rfl, hP, hBa⟩
          have HP := Frame.hid hP
          have hWp : Below w3.heap.size w3 wp := hWt.trans (hBa.mono hWt.size)
          clear hP hBa
          refine hK.out _ _ (.inr (KeepV.of hWp)) ?_
          clear hK K
          (try simp only [Act.put, List.setIfInBounds_toArray, List.set_cons_zero, List.set_cons_succ])
          refine wpEnd_ready [12] (by kernel_rfl) rfl (AllE.cons rfl (fun K hK => ?_) AllE.nil)
          go_simp
          have hWa := hWp.alloc hWp.size (.cells #[.float .f32 p1, .float .f32 p2, .float .f32 p3] 57)
          refine hK.out _ _ (.inr (KeepV.of hWa)) ?_
          clear hK K
          (try simp only [Act.put, List.setIfInBounds_toArray, List.set_cons_zero, List.set_cons_succ])
          refine wpEnd_ready [13] (by kernel_rfl) rfl (AllE.cons rfl (fun K hK => ?_) AllE.nil)
          refine step_append_any rfl _ _ 26 rfl (w.heap.size + 1 + 1) 57 i0 (.agg #[.float .f32 0, .float .f32 0, .float .f32 0]) 3 12 Try.underlying26 hi hz0 hz1 hz2 rfl (by decide) u7 l.length (cellsS l) rfl ?_ ⟨wp.heap.size, 0, none⟩ 1 1 (cellsS [(p1, p2, p3)]) rfl rfl (news3' _ _ _ _ _) (cellsS_one _) (by unfold maxLen; omega) (by omega) (by have := hWp.size; simp; omega) ?_
          · exact (HO3.out.kept hWa)
          intro v3 w5 hown3 hgrow3 hnil3
          have hS3 : Below (w.heap.size + 1 + 1) w3 w5 := Below.grown (hWa.mono (by omega)) hgrow3 (by have := hWp.size; simp; omega) (fun k' hk' => (World.ownsRow.lt HO3.out k' hk').1)
          have hKV : KeepV w3 u7 w5 := (KeepV.of hWa).grown hgrow3
          have HOX : Hid (OwnedS w5 (w.heap.size + 1 + 1) v3 (l ++ [(p1, p2, p3)])) := own_snoc hown3
          have HS3 := Frame.hid hS3
          clear hgrow3 hnil3 hown3 hS3
          refine hK.out _ _ (.inr hKV) ?_
          clear hK K
          (try simp only [Act.put, List.setIfInBounds_toArray, List.set_cons_zero, List.set_cons_succ])
          refine wpEnd_ready [14] (by kernel_rfl) rfl (AllE.cons rfl (fun K hK => ?_) AllE.nil)
          go_simp
          refine hK.out _ _ (.inl rfl) ?_
          clear hK K
          refine wpEnd_done (by kernel_rfl) ?_
          go_wp2_with fail
          go_roundw
          case rel => exact ⟨2, l ++ [(p1, p2, p3)], by omega, by go_num, ⟨l, _, HC.out, ⟨_, _, _, _, HSD.out.1, HSD.out.2.1, HSD.out.2.2.1, HSD.out.2.2.2, .inr ⟨geW_ne hcmp, _, _, _, _, _, _, _, _, _, _, _, HL.out, HSUB3Q.out, HQUOQ.out, HT.out, HP.out, rfl⟩⟩, rfl⟩, HOX.out, HK3.out.below HS3.out⟩
          case measure => simp [intOf]
        · refine step_arith rfl _ _ _ _ _ rfl rfl _ _ _ rfl rfl ?_
          intro s1 n3 hsub3 _
          have HSUB3Q := Frame.hid hsub3
          clear hsub3
          have hW1 : Below w3.heap.size w3 (wd.drewN n3) := below_drewN hW0 n3
          generalize wd.drewN n3 = ws at hW1 ⊢
          refine hK.out _ _ (.inr (KeepV.of hW1)) ?_
          clear hK K
          (try simp only [Act.put, List.setIfInBounds_toArray, List.set_cons_zero, List.set_cons_succ])
          refine wpEnd_ready [4, 9] (by kernel_rfl) rfl (AllE.cons rfl (fun K hK => ?_) (AllE.cons rfl (fun K hK => ?_) AllE.nil))
          · go_simp
            go_at_call 104
            refine (less_calls _ _ _ _ _ _ _).mono ?_
            rintro e_ wl ⟨l1, l2, l3, rfl, hL, hBa⟩
            have HL := Frame.hid hL
            have hWl : Below w3.heap.size w3 wl := hW1.trans (hBa.mono hW1.size)
            clear hL hBa
            refine hK.out _ _ (.inr (KeepV.of hWl)) ?_
            clear hK K
            (try simp only [Act.put, List.setIfInBounds_toArray, List.set_cons_zero, List.set_cons_succ])
            refine wpEnd_ready [9] (by kernel_rfl) rfl (AllE.cons rfl (fun K hK => ?_) AllE.nil)
            refine step_arith rfl _ _ _ _ _ rfl rfl _ _ _ rfl rfl ?_
            intro q1 n4 hquo _
            have HQUOQ := Frame.hid hquo
            clear hquo
            have hWq : Below w3.heap.size w3 (wl.drewN n4) := below_drewN hWl n4
            generalize wl.drewN n4 = wq at hWq ⊢
            refine hK.out _ _ (.inr (KeepV.of hWq)) ?_
            clear hK K
            (try simp only [Act.put, List.setIfInBounds_toArray, List.set_cons_zero, List.set_cons_succ])
            refine wpEnd_ready [10] (by kernel_rfl) rfl (AllE.cons rfl (fun K hK => ?_) AllE.nil)
            go_simp
            go_at_call 88
            refine (times_calls _ _ _ _ _).mono ?_
            rintro e_ wt ⟨t1, t2, t3, rfl, hT, hBa⟩
            have HT := Frame.hid hT
            have hWt : Below w3.heap.size w3 wt := hWq.trans (hBa.mono hWq.size)
            clear hT hBa
            refine hK.out _ _ (.inr (KeepV.of hWt)) ?_
            clear hK K
            (try simp only [Act.put, List.setIfInBounds_toArray, List.set_cons_zero, List.set_cons_succ])
            refine wpEnd_ready [11] (by kernel_rfl) rfl (AllE.cons rfl (fun K hK => ?_) AllE.nil)
            go_simp
            go_at_call 89
            refine (plus_calls _ _ _ _ _ _ _).mono ?_
            rintro e_ wp ⟨p1, p2, p3, rfl, hP, hBa⟩
            have HP := Frame.hid hP
            have hWp : Below w3.heap.size w3 wp := hWt.trans (hBa.mono hWt.size)
            clear hP hBa
            refine hK.out _ _ (.inr (KeepV.of hWp)) ?_
            clear hK K
            (try simp only [Act.put, List.setIfInBounds_toArray, List.set_cons_zero, List.set_cons_succ])
            refine wpEnd_ready [12] (by kernel_rfl) rfl (AllE.cons rfl (fun K hK => ?_) AllE.nil)
            go_simp
            have hWa := hWp.alloc hWp.size (.cells #[.float .f32 p1, .float .f32 p2, .float .f32 p3] 57)
            refine hK.out _ _ (.inr (KeepV.of hWa)) ?_
            clear hK K
            (try simp only [Act.put, List.setIfInBounds_toArray, List.set_cons_zero, List.set_cons_succ])
            refine wpEnd_ready [13] (by kernel_rfl) rfl (AllE.cons rfl (fun K hK => ?_) AllE.nil)
            refine step_append_any rfl _ _ 26 rfl (w.heap.size + 1 + 1) 57 i0 (.agg #[.float .f32 0, .float .f32 0, .float .f32 0]) 3 12 Try.underlying26 hi hz0 hz1 hz2 rfl (by decide) u7 l.length (cellsS l) rfl ?_ ⟨wp.heap.size, 0, none⟩ 1 1 (cellsS [(p1, p2, p3)]) rfl rfl (news3' _ _ _ _ _) (cellsS_one _) (by unfold maxLen; omega) (by omega) (by have := hWp.size; simp; omega) ?_
            · exact (HO3.out.kept hWa)
            intro v3 w5 hown3 hgrow3 hnil3
            have hS3 : Below (w.heap.size + 1 + 1) w3 w5 := Below.grown (hWa.mono (by omega)) hgrow3 (by have := hWp.size; simp; omega) (fun k' hk' => (World.ownsRow.lt HO3.out k' hk').1)
            have hKV : KeepV w3 u7 w5 := (KeepV.of hWa).grown hgrow3
            have HOX : Hid (OwnedS w5 (w.heap.size + 1 + 1) v3 (l ++ [(p1, p2, p3)])) := own_snoc hown3
            have HS3 := Frame.hid hS3
            clear hgrow3 hnil3 hown3 hS3
            refine hK.out _ _ (.inr hKV) ?_
            clear hK K
            (try simp only [Act.put, List.setIfInBounds_toArray, List.set_cons_zero, List.set_cons_succ])
            refine wpEnd_ready [14] (by kernel_rfl) rfl (AllE.cons rfl (fun K hK => ?_) AllE.nil)
            go_simp
            refine hK.out _ _ (.inl rfl) ?_
            clear hK K
            refine wpEnd_done (by kernel_rfl) ?_
            go_wp2_with fail
            go_roundw
            case rel => exact ⟨2, l ++ [(p1, p2, p3)], by omega, by go_num, ⟨l, _, HC.out, ⟨_, _, _, _, HSD.out.1, HSD.out.2.1, HSD.out.2.2.1, HSD.out.2.2.2, .inr ⟨geW_ne hcmp, _, _, _, _, _, _, _, _, _, _, _, HL.out, HSUB3Q.out, HQUOQ.out, HT.out, HP.out, rfl⟩⟩, rfl⟩, HOX.out, HK3.out.below HS3.out⟩
            case measure => simp [intOf]
          · refine step_arith rfl _ _ _ _ _ rfl rfl _ _ _ rfl rfl ?_
            intro q1 n4 hquo _
            have HQUOQ := Frame.hid hquo
            clear hquo
            have hWq : Below w3.heap.size w3 (ws.drewN n4) := below_drewN hW1 n4
            generalize ws.drewN n4 = wq at hWq ⊢
            refine hK.out _ _ (.inr (KeepV.of hWq)) ?_
            clear hK K
            (try simp only [Act.put, List.setIfInBounds_toArray, List.set_cons_zero, List.set_cons_succ])
            refine wpEnd_ready [4] (by kernel_rfl) rfl (AllE.cons rfl (fun K hK => ?_) AllE.nil)
            go_simp
            go_at_call 104
            refine (less_calls _ _ _ _ _ _ _).mono ?_
            rintro e_ wl ⟨l1, l2, l3, rfl, hL, hBa⟩
            have HL := Frame.hid hL
            have hWl : Below w3.heap.size w3 wl := hWq.trans (hBa.mono hWq.size)
            clear hL hBa
            refine hK.out _ _ (.inr (KeepV.of hWl)) ?_
            clear hK K
            (try simp only [Act.put, List.setIfInBounds_toArray, List.set_cons_zero, List.set_cons_succ])
            refine wpEnd_ready [10] (by kernel_rfl) rfl (AllE.cons rfl (fun K hK => ?_) AllE.nil)
            go_simp
            go_at_call 88
            refine (times_calls _ _ _ _ _).mono ?_
            rintro e_ wt ⟨t1, t2, t3, rfl, hT, hBa⟩
            have HT := Frame.hid hT
            have hWt : Below w3.heap.size w3 wt := hWl.trans (hBa.mono hWl.size)
            clear hT hBa
            refine hK.out _ _ (.inr (KeepV.of hWt)) ?_
            clear hK K
            (try simp only [Act.put, List.setIfInBounds_toArray, List.set_cons_zero, List.set_cons_succ])
            refine wpEnd_ready [11] (by kernel_rfl) rfl (AllE.cons rfl (fun K hK => ?_) AllE.nil)
            go_simp
            go_at_call 89
            refine (plus_calls _ _ _ _ _ _ _).mono ?_
            rintro e_ wp ⟨p1, p2, p3, rfl, hP, hBa⟩
            have HP := Frame.hid hP
            have hWp : Below w3.heap.size w3 wp := hWt.trans (hBa.mono hWt.size)
            clear hP hBa
            refine hK.out _ _ (.inr (KeepV.of hWp)) ?_
            clear hK K
            (try simp only [Act.put, List.setIfInBounds_toArray, List.set_cons_zero, List.set_cons_succ])
            refine wpEnd_ready [12] (by kernel_rfl) rfl (AllE.cons rfl (fun K hK => ?_) AllE.nil)
            go_simp
            have hWa := hWp.alloc hWp.size (.cells #[.float .f32 p1, .float .f32 p2, .float .f32 p3] 57)
            refine hK.out _ _ (.inr (KeepV.of hWa)) ?_
            clear hK K
            (try simp only [Act.put, List.setIfInBounds_toArray, List.set_cons_zero, List.set_cons_succ])
            refine wpEnd_ready [13] (by kernel_rfl) rfl (AllE.cons rfl (fun K hK => ?_) AllE.nil)
            refine step_append_any rfl _ _ 26 rfl (w.heap.size + 1 + 1) 57 i0 (.agg #[.float .f32 0, .float .f32 0, .float .f32 0]) 3 12 Try.underlying26 hi hz0 hz1 hz2 rfl (by decide) u7 l.length (cellsS l) rfl ?_ ⟨wp.heap.size, 0, none⟩ 1 1 (cellsS [(p1, p2, p3)]) rfl rfl (news3' _ _ _ _ _) (cellsS_one _) (by unfold maxLen; omega) (by omega) (by have := hWp.size; simp; omega) ?_
            · exact (HO3.out.kept hWa)
            intro v3 w5 hown3 hgrow3 hnil3
            have hS3 : Below (w.heap.size + 1 + 1) w3 w5 := Below.grown (hWa.mono (by omega)) hgrow3 (by have := hWp.size; simp; omega) (fun k' hk' => (World.ownsRow.lt HO3.out k' hk').1)
            have hKV : KeepV w3 u7 w5 := (KeepV.of hWa).grown hgrow3
            have HOX : Hid (OwnedS w5 (w.heap.size + 1 + 1) v3 (l ++ [(p1, p2, p3)])) := own_snoc hown3
            have HS3 := Frame.hid hS3
            clear hgrow3 hnil3 hown3 hS3
            refine hK.out _ _ (.inr hKV) ?_
            clear hK K
            (try simp only [Act.put, List.setIfInBounds_toArray, List.set_cons_zero, List.set_cons_succ])
            refine wpEnd_ready [14] (by kernel_rfl) rfl (AllE.cons rfl (fun K hK => ?_) AllE.nil)
            go_simp
            refine hK.out _ _ (.inl rfl) ?_
            clear hK K
            refine wpEnd_done (by kernel_rfl) ?_
            go_wp2_with fail
            go_roundw
            case rel => exact ⟨2, l ++ [(p1, p2, p3)], by omega, by go_num, ⟨l, _, HC.out, ⟨_, _, _, _, HSD.out.1, HSD.out.2.1, HSD.out.2.2.1, HSD.out.2.2.2, .inr ⟨geW_ne hcmp, _, _, _, _, _, _, _, _, _, _, _, HL.out, HSUB3Q.out, HQUOQ.out, HT.out, HP.out, rfl⟩⟩, rfl⟩, HOX.out, HK3.out.below HS3.out⟩
            case measure => simp [intOf]
      · rename_i hcmp
        go_roundw
        case rel => exact ⟨2, l, by omega, by go_num, ⟨l, [], HC.out, ⟨_, _, _, _, HSD.out.1, HSD.out.2.1, HSD.out.2.2.1, HSD.out.2.2.2, .inl ⟨geW_eq hcmp, rfl⟩⟩, by simp⟩, (HO.out.kept HBW2.out).drewN' _, (HK.out.call HBW2.out).drewN _⟩
        case measure => simp [intOf]
    · go_wp2_with fail
      refine (dotOfSpots_calls _ _ _ _ _ _ _).mono ?_
      rintro e w1 ⟨d1, rfl, hd1, hdl1, hB1⟩
      have hc := rd_of hB1
      have hBW1 : Below wr.heap.size wr w1 := ((((Below.refl wr.heap.size wr).alloc (Nat.le_refl _) _).alloc (by simp) _).trans (hB1.mono (by simp; omega)))
      have a00 : w1.cell? ⟨wr.heap.size, 0, none⟩ = some (.float .f32 x2) := by rw [hc _ _ (by simp; try omega)]; first | (simp [go_sem]; done) | (simp [go_sem, World.alloc]; done)
      have a01 : w1.cell? ⟨wr.heap.size, 1, none⟩ = some (.float .f32 y2) := by rw [hc _ _ (by simp; try omega)]; first | (simp [go_sem]; done) | (simp [go_sem, World.alloc]; done)
      have a02 : w1.cell? ⟨wr.heap.size, 2, none⟩ = some (.float .f32 z2) := by rw [hc _ _ (by simp; try omega)]; first | (simp [go_sem]; done) | (simp [go_sem, World.alloc]; done)
      have a10 : w1.cell? ⟨wr.heap.size + 1, 0, none⟩ = some (.float .f32 x0) := by rw [hc _ _ (by simp; try omega)]; first | (simp [go_sem]; done) | (simp [go_sem, World.alloc]; done)
      have a11 : w1.cell? ⟨wr.heap.size + 1, 1, none⟩ = some (.float .f32 y0) := by rw [hc _ _ (by simp; try omega)]; first | (simp [go_sem]; done) | (simp [go_sem, World.alloc]; done)
      have a12 : w1.cell? ⟨wr.heap.size + 1, 2, none⟩ = some (.float .f32 z0) := by rw [hc _ _ (by simp; try omega)]; first | (simp [go_sem]; done) | (simp [go_sem, World.alloc]; done)
      have a20 : w1.cell? ⟨w.heap.size + 1, 0, none⟩ = some (.float .f32 wx) := (hBW1.cell hb1).trans v0
      have a21 : w1.cell? ⟨w.heap.size + 1, 1, none⟩ = some (.float .f32 wy) := (hBW1.cell hb1).trans v1
      have a22 : w1.cell? ⟨w.heap.size + 1, 2, none⟩ = some (.float .f32 wz) := (hBW1.cell hb1).trans v2
      have hs1 := hB1.size
      simp at hs1
      have he0 : wr.heap.size < w1.heap.size := by omega
      have he1 : wr.heap.size + 1 < w1.heap.size := by omega
      have he2 : w.heap.size + 1 < w1.heap.size := by omega
      have HB1 := Frame.hid hBW1
      clear hc hB1 hBW1 c0 c1 c2 c3 c4 c5 c6 c7 c8 v0 v1 v2
      go_wp2_with (refine wpList_arith rfl _ _ _ _ _ rfl rfl _ _ _ rfl rfl ?_; intro g1 n1 hsub1 hl1)
      refine (dotOfSpots_calls _ _ _ _ _ _ _).mono ?_
      rintro e w2 ⟨d2, rfl, hd2, hdl2, hB2⟩
      have hc := rd_of hB2
      have b00 : w2.cell? ⟨wr.heap.size, 0, none⟩ = some (.float .f32 x2) := by rw [hc _ _ (by simp; try omega)]; simp [go_sem]; assumption
      have b01 : w2.cell? ⟨wr.heap.size, 1, none⟩ = some (.float .f32 y2) := by rw [hc _ _ (by simp; try omega)]; simp [go_sem]; assumption
      have b02 : w2.cell? ⟨wr.heap.size, 2, none⟩ = some (.float .f32 z2) := by rw [hc _ _ (by simp; try omega)]; simp [go_sem]; assumption
      have b10 : w2.cell? ⟨wr.heap.size + 1, 0, none⟩ = some (.float .f32 x0) := by rw [hc _ _ (by simp; try omega)]; simp [go_sem]; assumption
      have b11 : w2.cell? ⟨wr.heap.size + 1, 1, none⟩ = some (.float .f32 y0) := by rw [hc _ _ (by simp; try omega)]; simp [go_sem]; assumption
      have b12 : w2.cell? ⟨wr.heap.size + 1, 2, none⟩ = some (.float .f32 z0) := by rw [hc _ _ (by simp; try omega)]; simp [go_sem]; assumption
      have b20 : w2.cell? ⟨w.heap.size + 1, 0, none⟩ = some (.float .f32 wx) := by rw [hc _ _ (by simp; try omega)]; simp [go_sem]; assumption
      have b21 : w2.cell? ⟨w.heap.size + 1, 1, none⟩ = some (.float .f32 wy) := by rw [hc _ _ (by simp; try omega)]; simp [go_sem]; assumption
      have b22 : w2.cell? ⟨w.heap.size + 1, 2, none⟩ = some (.float .f32 wz) := by rw [hc _ _ (by simp; try omega)]; simp [go_sem]; assumption
      have hs2 := hB2.size
      simp at hs2
      have he3 : wr.heap.size + 1 < w2.heap.size := by omega
      have HB2 := Frame.hid hB2
      clear hc hB2 a00 a01 a02 a10 a11 a12 a20 a21 a22
      go_wp2_with fail
      refine upon_arith _ _ _ _ _ rfl ?_
      intro g2 n2 hsub2 hl2
      have HBW2 : Hid (Below wr.heap.size wr w2) := HB1.out.trans (((below_drewN (Below.refl _ _) _).trans HB2.out).mono (Nat.le_of_lt he0))
      have HSD := Frame.hid (And.intro hd1 (And.intro hsub1 (And.intro hd2 hsub2)))
      clear hd1 hsub1 hd2 hsub2 hl1 hl2 hdl1 hdl2 HB1 HB2
      go_wp2_with fail
      · rename_i hcmp
        obtain ⟨w3, hw3⟩ : ∃ w3, w3 = w2.drewN n2 := ⟨_, rfl⟩
        have hBW3 : Below wr.heap.size wr w3 := by rw [hw3]; exact below_drewN HBW2.out _
        have hsz3 : wr.heap.size + 1 < w3.heap.size := by rw [hw3]; simpa using he3
        have HO3 := Frame.hid (HO.out.kept hBW3)
        have HK3 := Frame.hid (HK.out.call hBW3)
        have hnb : ∀ k, wr.heap.size ≤ k → (u7 : Value).ownBlock ≠ some k := fun k hk e => by have := (World.ownsRow.lt HO.out k e).2; omega
        have e00 : w3.cell? ⟨wr.heap.size, 0, none⟩ = some (.float .f32 x2) := by rw [hw3]; simpa using b00
        have e01 : w3.cell? ⟨wr.heap.size, 1, none⟩ = some (.float .f32 y2) := by rw [hw3]; simpa using b01
        have e02 : w3.cell? ⟨wr.heap.size, 2, none⟩ = some (.float .f32 z2) := by rw [hw3]; simpa using b02
        have e10 : w3.cell? ⟨wr.heap.size + 1, 0, none⟩ = some (.float .f32 x0) := by rw [hw3]; simpa using b10
        have e11 : w3.cell? ⟨wr.heap.size + 1, 1, none⟩ = some (.float .f32 y0) := by rw [hw3]; simpa using b11
        have e12 : w3.cell? ⟨wr.heap.size + 1, 2, none⟩ = some (.float .f32 z0) := by rw [hw3]; simpa using b12
        have hkk : ∀ W, KeepV w3 u7 W → (W.cell? ⟨wr.heap.size, 0, none⟩ = some (.float .f32 x2) ∧ W.cell? ⟨wr.heap.size, 1, none⟩ = some (.float .f32 y2) ∧ W.cell? ⟨wr.heap.size, 2, none⟩ = some (.float .f32 z2) ∧ W.cell? ⟨wr.heap.size + 1, 0, none⟩ = some (.float .f32 x0) ∧ W.cell? ⟨wr.heap.size + 1, 1, none⟩ = some (.float .f32 y0) ∧ W.cell? ⟨wr.heap.size + 1, 2, none⟩ = some (.float .f32 z0)) := fun W h => ⟨(h.cell (by omega) (hnb _ (by omega))).trans e00, (h.cell (by omega) (hnb _ (by omega))).trans e01, (h.cell (by omega) (hnb _ (by omega))).trans e02, (h.cell (by omega) (hnb _ (by omega))).trans e10, (h.cell (by omega) (hnb _ (by omega))).trans e11, (h.cell (by omega) (hnb _ (by omega))).trans e12⟩
        have HKK := Frame.hid hkk
        rw [← hw3]
        clear hkk hw3 e00 e01 e02 e10 e11 e12 b00 b01 b02 b10 b11 b12 b20 b21 b22 hBW3 hnb
        refine region_hand 14 (fun W => KeepV w3 u7 W) (by kernel_rfl) ?_
        have hW0 : Below w3.heap.size w3 w3.drew := (Below.refl _ _).drew
        have hS0 : KeepV w3 u7 w3.drew := KeepV.of hW0
        generalize w3.drew = wd at hW0 hS0 ⊢
        refine' wpEnd_take 0 rfl (by kernel_rfl) hS0 (Or.inl ⟨by rfl, fun wq hSq => _⟩) _
        rotate_left
        · (obtain ⟨q0, q1, q2, q3, q4, q5⟩ := HKK.out _ hSq; go_simp; (try with_reducible rfl))
        simp only [Act.put, List.setIfInBounds_toArray, List.set_cons_zero, List.set_cons_succ]
        refine' wpEnd_take 1 rfl (by kernel_rfl) hS0 (Or.inl ⟨by rfl, fun wq hSq => _⟩) _
        rotate_left
        · (obtain ⟨q0, q1, q2, q3, q4, q5⟩ := HKK.out _ hSq; go_simp; (try with_reducible rfl))
        simp only [Act.put, List.setIfInBounds_toArray, List.set_cons_zero, List.set_cons_succ]
        refine' wpEnd_take 2 rfl (by kernel_rfl) hS0 (Or.inl ⟨by rfl, fun wq hSq => _⟩) _
        rotate_left
        · (obtain ⟨q0, q1, q2, q3, q4, q5⟩ := HKK.out _ hSq; go_simp; (try with_reducible rfl))
        simp only [Act.put, List.setIfInBounds_toArray, List.set_cons_zero, List.set_cons_succ]
        refine' wpEnd_take 3 rfl (by kernel_rfl) hS0 (Or.inl ⟨by rfl, fun wq hSq => _⟩) _
        rotate_left
        · (obtain ⟨q0, q1, q2, q3, q4, q5⟩ := HKK.out _ hSq; go_simp; (try with_reducible rfl))
        simp only [Act.put, List.setIfInBounds_toArray, List.set_cons_zero, List.set_cons_succ]
        refine' wpEnd_take 5 rfl (by kernel_rfl) hS0 (Or.inl ⟨by rfl, fun wq hSq => _⟩) _
        rotate_left
        · (obtain ⟨q0, q1, q2, q3, q4, q5⟩ := HKK.out _ hSq; go_simp; (try with_reducible rfl))
        simp only [Act.put, List.setIfInBounds_toArray, List.set_cons_zero, List.set_cons_succ]
        refine' wpEnd_take 6 rfl (by kernel_rfl) hS0 (Or.inl ⟨by rfl, fun wq hSq => _⟩) _
        rotate_left
        · (obtain ⟨q0, q1, q2, q3, q4, q5⟩ := HKK.out _ hSq; go_simp; (try with_reducible rfl))
        simp only [Act.put, List.setIfInBounds_toArray, List.set_cons_zero, List.set_cons_succ]
        refine' wpEnd_take 7 rfl (by kernel_rfl) hS0 (Or.inl ⟨by rfl, fun wq hSq => _⟩) _
        rotate_left
        · (obtain ⟨q0, q1, q2, q3, q4, q5⟩ := HKK.out _ hSq; go_simp; (try with_reducible rfl))
        simp only [Act.put, List.setIfInBounds_toArray, List.set_cons_zero, List.set_cons_succ]
        refine wpEnd_ready [4, 8] (by kernel_rfl) rfl (AllE.cons rfl (fun K hK => ?_) (AllE.cons rfl (fun K hK => ?_) AllE.nil))
        · go_simp
          go_at_call 104
          refine (less_calls _ _ _ _ _ _ _).mono ?_
          rintro e_ wl ⟨l1, l2, l3, rfl, hL, hBa⟩
          have HL := Frame.hid hL
          have hWl : Below w3.heap.size w3 wl := hW0.trans (hBa.mono hW0.size)
          clear hL hBa
          refine hK.out _ _ (.inr (KeepV.of hWl)) ?_
          clear hK K
          (try simp only [Act.put, List.setIfInBounds_toArray, List.set_cons_zero, List.set_cons_succ])
          refine wpEnd_ready [8] (by kernel_rfl) rfl (AllE.cons rfl (fun K hK => ?_) AllE.nil)
          refine step_arith rfl _ _ _ _ _ rfl rfl _ _ _ rfl rfl ?_
          intro s1 n3 hsub3 _
          have HSUB3Q := Frame.hid hsub3
          clear hsub3
          have hWs : Below w3.heap.size w3 (wl.drewN n3) := below_drewN hWl n3
          generalize wl.drewN n3 = ws at hWs ⊢
          refine hK.out _ _ (.inr (KeepV.of hWs)) ?_
          clear hK K
          (try simp only [Act.put, List.setIfInBounds_toArray, List.set_cons_zero, List.set_cons_succ])
          refine wpEnd_ready [9] (by kernel_rfl) rfl (AllE.cons rfl (fun K hK => ?_) AllE.nil)
          refine step_arith rfl _ _ _ _ _ rfl rfl _ _ _ rfl rfl ?_
          intro q1 n4 hquo _
          have HQUOQ := Frame.hid hquo
          clear hquo
          have hWq : Below w3.heap.size w3 (ws.drewN n4) := below_drewN hWs n4
          generalize ws.drewN n4 = wq at hWq ⊢
          refine hK.out _ _ (.inr (KeepV.of hWq)) ?_
          clear hK K
          (try simp only [Act.put, List.setIfInBounds_toArray, List.set_cons_zero, List.set_cons_succ])
          refine wpEnd_ready [10] (by kernel_rfl) rfl (AllE.cons rfl (fun K hK => ?_) AllE.nil)
          go_simp
          go_at_call 88
          refine (times_calls _ _ _ _ _).mono ?_
          rintro e_ wt ⟨t1, t2, t3, rfl, hT, hBa⟩
          have HT := Frame.hid hT
          have hWt : Below w3.heap.size w3 wt := hWq.trans (hBa.mono hWq.size)
          clear hT hBa
          refine hK.out _ _ (.inr (KeepV.of hWt)) ?_
          clear hK K
          (try simp only [Act.put, List.setIfInBounds_toArray, List.set_cons_zero, List.set_cons_succ])
          refine wpEnd_ready [11] (by kernel_rfl) rfl (AllE.cons rfl (fun K hK => ?_) AllE.nil)
          go_simp
          go_at_call 89
          refine (plus_calls _ _ _ _ _ _ _).mono ?_
          rintro e_ wp ⟨p1, p2, p3, rfl, hP, hBa⟩
          have HP := Frame.hid hP
          have hWp : Below w3.heap.size w3 wp := hWt.trans (hBa.mono hWt.size)
          clear hP hBa
          refine hK.out _ _ (.inr (KeepV.of hWp)) ?_
          clear hK K
          (try simp only [Act.put, List.setIfInBounds_toArray, List.set_cons_zero, List.set_cons_succ])
          refine wpEnd_ready [12] (by kernel_rfl) rfl (AllE.cons rfl (fun K hK => ?_) AllE.nil)
          go_simp
          have hWa := hWp.alloc hWp.size (.cells #[.float .f32 p1, .float .f32 p2, .float .f32 p3] 57)
          refine hK.out _ _ (.inr (KeepV.of hWa)) ?_
          clear hK K
          (try simp only [Act.put, List.setIfInBounds_toArray, List.set_cons_zero, List.set_cons_succ])
          refine wpEnd_ready [13] (by kernel_rfl) rfl (AllE.cons rfl (fun K hK => ?_) AllE.nil)
          refine step_append_any rfl _ _ 26 rfl (w.heap.size + 1 + 1) 57 i0 (.agg #[.float .f32 0, .float .f32 0, .float .f32 0]) 3 12 Try.underlying26 hi hz0 hz1 hz2 rfl (by decide) u7 l.length (cellsS l) rfl ?_ ⟨wp.heap.size, 0, none⟩ 1 1 (cellsS [(p1, p2, p3)]) rfl rfl (news3' _ _ _ _ _) (cellsS_one _) (by unfold maxLen; omega) (by omega) (by have := hWp.size; simp; omega) ?_
          · exact (HO3.out.kept hWa)
          intro v3 w5 hown3 hgrow3 hnil3
          have hS3 : Below (w.heap.size + 1 + 1) w3 w5 := Below.grown (hWa.mono (by omega)) hgrow3 (by have := hWp.size; simp; omega) (fun k' hk' => (World.ownsRow.lt HO3.out k' hk').1)
          have hKV : KeepV w3 u7 w5 := (KeepV.of hWa).grown hgrow3
          have HOX : Hid (OwnedS w5 (w.heap.size + 1 + 1) v3 (l ++ [(p1, p2, p3)])) := own_snoc hown3
          have HS3 := Frame.hid hS3
          clear hgrow3 hnil3 hown3 hS3
          refine hK.out _ _ (.inr hKV) ?_
          clear hK K
          (try simp only [Act.put, List.setIfInBounds_toArray, List.set_cons_zero, List.set_cons_succ])
          refine wpEnd_ready [14] (by kernel_rfl) rfl (AllE.cons rfl (fun K hK => ?_) AllE.nil)
          go_simp
          refine hK.out _ _ (.inl rfl) ?_
          clear hK K
          refine wpEnd_done (by kernel_rfl) ?_
          go_wp2_with fail
          go_roundw
          case rel => exact ⟨3, l ++ [(p1, p2, p3)], by omega, by go_num, ⟨l, _, HC.out, ⟨_, _, _, _, HSD.out.1, HSD.out.2.1, HSD.out.2.2.1, HSD.out.2.2.2, .inr ⟨geW_ne hcmp, _, _, _, _, _, _, _, _, _, _, _, HL.out, HSUB3Q.out, HQUOQ.out, HT.out, HP.out, rfl⟩⟩, rfl⟩, HOX.out, HK3.out.below HS3.out⟩
          case measure => simp [intOf]
        · refine step_arith rfl _ _ _ _ _ rfl rfl _ _ _ rfl rfl ?_
          intro s1 n3 hsub3 _
          have HSUB3Q := Frame.hid hsub3
          clear hsub3
          have hW1 : Below w3.heap.size w3 (wd.drewN n3) := below_drewN hW0 n3
          generalize wd.drewN n3 = ws at hW1 ⊢
          refine hK.out _ _ (.inr (KeepV.of hW1)) ?_
          clear hK K
          (try simp only [Act.put, List.setIfInBounds_toArray, List.set_cons_zero, List.set_cons_succ])
          refine wpEnd_ready [4, 9] (by kernel_rfl) rfl (AllE.cons rfl (fun K hK => ?_) (AllE.cons rfl (fun K hK => ?_) AllE.nil))
          · go_simp
            go_at_call 104
            refine (less_calls _ _ _ _ _ _ _).mono ?_
            rintro e_ wl ⟨l1, l2, l3, rfl, hL, hBa⟩
            have HL := Frame.hid hL
            have hWl : Below w3.heap.size w3 wl := hW1.trans (hBa.mono hW1.size)
            clear hL hBa
            refine hK.out _ _ (.inr (KeepV.of hWl)) ?_
            clear hK K
            (try simp only [Act.put, List.setIfInBounds_toArray, List.set_cons_zero, List.set_cons_succ])
            refine wpEnd_ready [9] (by kernel_rfl) rfl (AllE.cons rfl (fun K hK => ?_) AllE.nil)
            refine step_arith rfl _ _ _ _ _ rfl rfl _ _ _ rfl rfl ?_
            intro q1 n4 hquo _
            have HQUOQ := Frame.hid hquo
            clear hquo
            have hWq : Below w3.heap.size w3 (wl.drewN n4) := below_drewN hWl n4
            generalize wl.drewN n4 = wq at hWq ⊢
            refine hK.out _ _ (.inr (KeepV.of hWq)) ?_
            clear hK K
            (try simp only [Act.put, List.setIfInBounds_toArray, List.set_cons_zero, List.set_cons_succ])
            refine wpEnd_ready [10] (by kernel_rfl) rfl (AllE.cons rfl (fun K hK => ?_) AllE.nil)
            go_simp
            go_at_call 88
            refine (times_calls _ _ _ _ _).mono ?_
            rintro e_ wt ⟨t1, t2, t3, rfl, hT, hBa⟩
            have HT := Frame.hid hT
            have hWt : Below w3.heap.size w3 wt := hWq.trans (hBa.mono hWq.size)
            clear hT hBa
            refine hK.out _ _ (.inr (KeepV.of hWt)) ?_
            clear hK K
            (try simp only [Act.put, List.setIfInBounds_toArray, List.set_cons_zero, List.set_cons_succ])
            refine wpEnd_ready [11] (by kernel_rfl) rfl (AllE.cons rfl (fun K hK => ?_) AllE.nil)
            go_simp
            go_at_call 89
            refine (plus_calls _ _ _ _ _ _ _).mono ?_
            rintro e_ wp ⟨p1, p2, p3, rfl, hP, hBa⟩
            have HP := Frame.hid hP
            have hWp : Below w3.heap.size w3 wp := hWt.trans (hBa.mono hWt.size)
            clear hP hBa
            refine hK.out _ _ (.inr (KeepV.of hWp)) ?_
            clear hK K
            (try simp only [Act.put, List.setIfInBounds_toArray, List.set_cons_zero, List.set_cons_succ])
            refine wpEnd_ready [12] (by kernel_rfl) rfl (AllE.cons rfl (fun K hK => ?_) AllE.nil)
            go_simp
            have hWa := hWp.alloc hWp.size (.cells #[.float .f32 p1, .float .f32 p2, .float .f32 p3] 57)
            refine hK.out _ _ (.inr (KeepV.of hWa)) ?_
            clear hK K
            (try simp only [Act.put, List.setIfInBounds_toArray, List.set_cons_zero, List.set_cons_succ])
            refine wpEnd_ready [13] (by kernel_rfl) rfl (AllE.cons rfl (fun K hK => ?_) AllE.nil)
            refine step_append_any rfl _ _ 26 rfl (w.heap.size + 1 + 1) 57 i0 (.agg #[.float .f32 0, .float .f32 0, .float .f32 0]) 3 12 Try.underlying26 hi hz0 hz1 hz2 rfl (by decide) u7 l.length (cellsS l) rfl ?_ ⟨wp.heap.size, 0, none⟩ 1 1 (cellsS [(p1, p2, p3)]) rfl rfl (news3' _ _ _ _ _) (cellsS_one _) (by unfold maxLen; omega) (by omega) (by have := hWp.size; simp; omega) ?_
            · exact (HO3.out.kept hWa)
            intro v3 w5 hown3 hgrow3 hnil3
            have hS3 : Below (w.heap.size + 1 + 1) w3 w5 := Below.grown (hWa.mono (by omega)) hgrow3 (by have := hWp.size; simp; omega) (fun k' hk' => (World.ownsRow.lt HO3.out k' hk').1)
            have hKV : KeepV w3 u7 w5 := (KeepV.of hWa).grown hgrow3
            have HOX : Hid (OwnedS w5 (w.heap.size + 1 + 1) v3 (l ++ [(p1, p2, p3)])) := own_snoc hown3
            have HS3 := Frame.hid hS3
            clear hgrow3 hnil3 hown3 hS3
            refine hK.out _ _ (.inr hKV) ?_
            clear hK K
            (try simp only [Act.put, List.setIfInBounds_toArray, List.set_cons_zero, List.set_cons_succ])
            refine wpEnd_ready [14] (by kernel_rfl) rfl (AllE.cons rfl (fun K hK => ?_) AllE.nil)
            go_simp
            refine hK.out _ _ (.inl rfl) ?_
            clear hK K
            refine wpEnd_done (by kernel_rfl) ?_
            go_wp2_with fail
            go_roundw
            case rel => exact ⟨3, l ++ [(p1, p2, p3)], by omega, by go_num, ⟨l, _, HC.out, ⟨_, _, _, _, HSD.out.1, HSD.out.2.1, HSD.out.2.2.1, HSD.out.2.2.2, .inr ⟨geW_ne hcmp, _, _, _, _, _, _, _, _, _, _, _, HL.out, HSUB3Q.out, HQUOQ.out, HT.out, HP.out, rfl⟩⟩, rfl⟩, HOX.out, HK3.out.below HS3.out⟩
            case measure => simp [intOf]
          · refine step_arith rfl _ _ _ _ _ rfl rfl _ _ _ rfl rfl ?_
            intro q1 n4 hquo _
            have HQUOQ := Frame.hid hquo
            clear hquo
            have hWq : Below w3.heap.size w3 (ws.drewN n4) := below_drewN hW1 n4
            generalize ws.drewN n4 = wq at hWq ⊢
            refine hK.out _ _ (.inr (KeepV.of hWq)) ?_
            clear hK K
            (try simp only [Act.put, List.setIfInBounds_toArray, List.set_cons_zero, List.set_cons_succ])
            refine wpEnd_ready [4] (by kernel_rfl) rfl (AllE.cons rfl (fun K hK => ?_) AllE.nil)
            go_simp
            go_at_call 104
            refine (less_calls _ _ _ _ _ _ _).mono ?_
            rintro e_ wl ⟨l1, l2, l3, rfl, hL, hBa⟩
            have HL := Frame.hid hL
            have hWl : Below w3.heap.size w3 wl := hWq.trans (hBa.mono hWq.size)
            clear hL hBa
            refine hK.out _ _ (.inr (KeepV.of hWl)) ?_
            clear hK K
            (try simp only [Act.put, List.setIfInBounds_toArray, List.set_cons_zero, List.set_cons_succ])
            refine wpEnd_ready [10] (by kernel_rfl) rfl (AllE.cons rfl (fun K hK => ?_) AllE.nil)
            go_simp
            go_at_call 88
            refine (times_calls _ _ _ _ _).mono ?_
            rintro e_ wt ⟨t1, t2, t3, rfl, hT, hBa⟩
            have HT := Frame.hid hT
            have hWt : Below w3.heap.size w3 wt := hWl.trans (hBa.mono hWl.size)
            clear hT hBa
            refine hK.out _ _ (.inr (KeepV.of hWt)) ?_
            clear hK K
            (try simp only [Act.put, List.setIfInBounds_toArray, List.set_cons_zero, List.set_cons_succ])
            refine wpEnd_ready [11] (by kernel_rfl) rfl (AllE.cons rfl (fun K hK => ?_) AllE.nil)
            go_simp
            go_at_call 89
            refine (plus_calls _ _ _ _ _ _ _).mono ?_
            rintro e_ wp ⟨p1, p2, p3, rfl, hP, hBa⟩
            have HP := Frame.hid hP
            have hWp : Below w3.heap.size w3 wp := hWt.trans (hBa.mono hWt.size)
            clear hP hBa
            refine hK.out _ _ (.inr (KeepV.of hWp)) ?_
            clear hK K
            (try simp only [Act.put, List.setIfInBounds_toArray, List.set_cons_zero, List.set_cons_succ])
            refine wpEnd_ready [12] (by kernel_rfl) rfl (AllE.cons rfl (fun K hK => ?_) AllE.nil)
            go_simp
            have hWa := hWp.alloc hWp.size (.cells #[.float .f32 p1, .float .f32 p2, .float .f32 p3] 57)
            refine hK.out _ _ (.inr (KeepV.of hWa)) ?_
            clear hK K
            (try simp only [Act.put, List.setIfInBounds_toArray, List.set_cons_zero, List.set_cons_succ])
            refine wpEnd_ready [13] (by kernel_rfl) rfl (AllE.cons rfl (fun K hK => ?_) AllE.nil)
            refine step_append_any rfl _ _ 26 rfl (w.heap.size + 1 + 1) 57 i0 (.agg #[.float .f32 0, .float .f32 0, .float .f32 0]) 3 12 Try.underlying26 hi hz0 hz1 hz2 rfl (by decide) u7 l.length (cellsS l) rfl ?_ ⟨wp.heap.size, 0, none⟩ 1 1 (cellsS [(p1, p2, p3)]) rfl rfl (news3' _ _ _ _ _) (cellsS_one _) (by unfold maxLen; omega) (by omega) (by have := hWp.size; simp; omega) ?_
            · exact (HO3.out.kept hWa)
            intro v3 w5 hown3 hgrow3 hnil3
            have hS3 : Below (w.heap.size + 1 + 1) w3 w5 := Below.grown (hWa.mono (by omega)) hgrow3 (by have := hWp.size; simp; omega) (fun k' hk' => (World.ownsRow.lt HO3.out k' hk').1)
            have hKV : KeepV w3 u7 w5 := (KeepV.of hWa).grown hgrow3
            have HOX : Hid (OwnedS w5 (w.heap.size + 1 + 1) v3 (l ++ [(p1, p2, p3)])) := own_snoc hown3
            have HS3 := Frame.hid hS3
            clear hgrow3 hnil3 hown3 hS3
            refine hK.out _ _ (.inr hKV) ?_
            clear hK K
            (try simp only [Act.put, List.setIfInBounds_toArray, List.set_cons_zero, List.set_cons_succ])
            refine wpEnd_ready [14] (by kernel_rfl) rfl (AllE.cons rfl (fun K hK => ?_) AllE.nil)
            go_simp
            refine hK.out _ _ (.inl rfl) ?_
            clear hK K
            refine wpEnd_done (by kernel_rfl) ?_
            go_wp2_with fail
            go_roundw
            case rel => exact ⟨3, l ++ [(p1, p2, p3)], by omega, by go_num, ⟨l, _, HC.out, ⟨_, _, _, _, HSD.out.1, HSD.out.2.1, HSD.out.2.2.1, HSD.out.2.2.2, .inr ⟨geW_ne hcmp, _, _, _, _, _, _, _, _, _, _, _, HL.out, HSUB3Q.out, HQUOQ.out, HT.out, HP.out, rfl⟩⟩, rfl⟩, HOX.out, HK3.out.below HS3.out⟩
            case measure => simp [intOf]
      · rename_i hcmp
        go_roundw
        case rel => exact ⟨3, l, by omega, by go_num, ⟨l, [], HC.out, ⟨_, _, _, _, HSD.out.1, HSD.out.2.1, HSD.out.2.2.1, HSD.out.2.2.2, .inl ⟨geW_eq hcmp, rfl⟩⟩, by simp⟩, (HO.out.kept HBW2.out).drewN' _, (HK.out.call HBW2.out).drewN _⟩
        case measure => simp [intOf]
    · go_wp2_with fail
      go_ret
      exact ⟨_, l, rfl, HC.out, HO.out.mono' (by omega), HW1.out.trans (HK.out.m.mono (by omega))⟩

end Go.Proofs.Ytnhpiebddelebaa
