/-
  PatchAt: what both hand out; the program's side.
-/
import Derived.Test.YtnbgnaenlbphcaaD4
import Derived.ScopeJumps
import Derived.WalkMore
namespace Go.Proofs.Ytnbgnaenlbphcaa
open Go.RowKit Fl Ieee Go.WideShapes Go.Deep
attribute [local go_sem] kstore_f kalloc_drewN kset_drewN hstore_i hstore_s

def geP (x : Nat) : Bool := FloatKind.f32.format.order x 0 == some Ordering.gt || FloatKind.f32.format.order x 0 == some Ordering.eq
theorem geP.same {x y : Nat} (h : FSame .f32 x y) : geP x = geP y := by
  unfold geP
  rw [order_same h (FSame.refl _ 0)]
theorem read_nil : single.read 0 = .number false 0 (-149) := by decide +kernel
theorem read_one : single.read 1065353216 = .number false 8388608 (-23) := by decide +kernel
theorem read_down : single.read (single.write (.infinity true)) = .infinity true := by decide +kernel
theorem geP_read (x : Nat) : geP x = ((single.read x).order (.number false 0 (-149)) == some Ordering.gt || (single.read x).order (.number false 0 (-149)) == some Ordering.eq) := by
  unfold geP
  show ((single.read x).order (single.read 0) == _ || (single.read x).order (single.read 0) == _) = _
  rw [read_nil]
theorem geP_down {x : Nat} (h : single.read x = .infinity true) : geP x = false := by
  rw [geP_read, h]; rfl
theorem geP_nan {x : Nat} (h : isNan .f32 x = true) : geP x = false := by
  rw [geP_read]
  have h1 : (single.read x).isNaN = true := h
  cases hx : single.read x with
  | nan s t => rfl
  | number s m p => rw [hx] at h1; cases h1
  | infinity s => rw [hx] at h1; cases h1
theorem sub_of {x y r : Nat} {d : Datum} (h : FOp .sub .f32 x y r) (e : (single.read x).sum (single.read y).opposite = some d) : r = single.write d := by
  have e2 : floatBits .sub .f32 x y = some (single.write d) := by
    show ((single.read x).sum (single.read y).opposite).map single.write = _
    rw [e]; rfl
  unfold FOp at h
  rw [e2] at h
  exact h
theorem sub_none {x y r : Nat} (h : FOp .sub .f32 x y r) (e : (single.read x).sum (single.read y).opposite = none) : isNan .f32 r = true := by
  have e2 : floatBits .sub .f32 x y = none := by
    show ((single.read x).sum (single.read y).opposite).map single.write = _
    rw [e]; rfl
  unfold FOp at h
  rw [e2] at h
  exact h
theorem geP_inf {x : Nat} (h : geP x = true) (hf : fin .f32 x = false) : single.read x = .infinity false := by
  rw [geP_read] at h
  unfold fin at hf
  have hf : (match single.read x with | .number .. => true | _ => false) = false := hf
  cases hx : single.read x with
  | nan s t => rw [hx] at h; cases h
  | number s m p => rw [hx] at hf; cases hf
  | infinity s =>
    cases s
    · rfl
    · rw [hx] at h; cases h
/-- A share that is not finite leaves nothing of 1. -/
theorem big_no {a b s c : Nat} (ha : geP a = true) (hb : geP b = true) (hf : (fin .f32 a && fin .f32 b) = false) (h1 : FOp .sub .f32 1065353216 a s) (h2 : FOp .sub .f32 s b c) : geP c = false := by
  cases hfb : fin .f32 b with
  | false =>
    have eb := geP_inf hb hfb
    cases hs : single.read s with
    | nan t u => exact geP_nan (sub_none h2 (by rw [hs, eb]; rfl))
    | number t m p => rw [sub_of h2 (d := .infinity true) (by rw [hs, eb]; rfl)]; exact geP_down read_down
    | infinity t =>
      cases t
      · exact geP_nan (sub_none h2 (by rw [hs, eb]; rfl))
      · rw [sub_of h2 (d := .infinity true) (by rw [hs, eb]; rfl)]; exact geP_down read_down
  | true =>
    rw [hfb, Bool.and_true] at hf
    have ea := geP_inf ha hf
    have es := sub_of h1 (d := .infinity true) (by rw [read_one, ea]; rfl)
    have hs : single.read s = .infinity true := by rw [es]; exact read_down
    cases hb' : single.read b with
    | nan t u => exact geP_nan (sub_none h2 (by rw [hs, hb']; rfl))
    | number t m p => rw [sub_of h2 (d := .infinity true) (by rw [hs, hb']; rfl)]; exact geP_down read_down
    | infinity t =>
      cases t
      · rw [sub_of h2 (d := .infinity true) (by rw [hs, hb']; rfl)]; exact geP_down read_down
      · exact geP_nan (sub_none h2 (by rw [hs, hb']; rfl))

/-- The third share. -/
def ThR (a b c : Nat) : Prop := ∃ s, FOp .sub .f32 1065353216 a s ∧ FOp .sub .f32 s b c
theorem ThR.same {a b c c' : Nat} (h : ThR a b c) (g : ThR a b c') : FSame .f32 c c' := by
  obtain ⟨s, h1, h2⟩ := h
  obtain ⟨s', g1, g2⟩ := g
  exact FOp.same (FOp.same (FSame.refl _ _) (FSame.refl _ _) h1 g1) (FSame.refl _ _) h2 g2
/-- What PatchAt hands out. -/
def PtO (d : Int) (xs : List (Nat × Nat × Nat)) (a b x y z : Nat) (ok : Bool) : Prop :=
  ((∀ c, ThR a b c → (patB d xs && geP a && geP b && geP c) = false) ∧ x = 0 ∧ y = 0 ∧ z = 0 ∧ ok = false) ∨
  (∃ c, ThR a b c ∧ (patB d xs && geP a && geP b && geP c) = true ∧ ∃ ys, LvP a b c d.toNat xs ys ∧ GivenR (sx ys 0) (sy ys 0) (sz ys 0) x y z ok)
theorem LvP.len {a b c : Nat} : ∀ {d : Nat} {xs ys : List (Nat × Nat × Nat)}, xs.length = plO d (d + 1) → LvP a b c d xs ys → ys.length = 1
  | 0, _, _, hl, h => by rw [h, hl]; rfl
  | _ + 1, _, _, _, ⟨_, h1, h2⟩ => LvP.len h1.1 h2
theorem PtO.same {d : Int} {xs : List (Nat × Nat × Nat)} {a b x y z x' y' z' : Nat} {ok ok' : Bool} (h : PtO d xs a b x y z ok) (g : PtO d xs a b x' y' z' ok') : S3 x y z x' y' z' ∧ ok = ok' := by
  rcases h with ⟨h1, rfl, rfl, rfl, rfl⟩ | ⟨c, hc, hy, ys, hl, hg⟩ <;> rcases g with ⟨g1, rfl, rfl, rfl, rfl⟩ | ⟨c', gc, gy, ys', gl, gg⟩
  · exact ⟨S3.refl _ _ _, rfl⟩
  · rw [h1 c' gc] at gy; cases gy
  · rw [g1 c hc] at hy; cases hy
  · have hp : patB d xs = true := by simp only [Bool.and_eq_true] at hy; exact hy.1.1.1
    obtain ⟨e, rfl, he, hxl, -⟩ := patB_yes hp
    have hs := LvP.same (hc.same gc) (by omega) hxl (LS.refl _) hl gl
    have h0 := LvP.len hxl hl
    exact GivenR.same (hs.2 0 (by omega)) hg gg

/-- What lies in memory when the step is taken. -/
structure PtS (w W : World) (f F : Nat) (A : Option Addr) (m c : Nat) (zs : List (Nat × Nat × Nat)) : Prop where
  hF : F = f + 1
  hm : m = zs.length
  c0 : W.cell? ⟨w.heap.size + 1, 0, none⟩ = some (.int .i64 F)
  c1 : W.cell? ⟨w.heap.size + 1, 1, none⟩ = some (.slice A m c)
  fr : ∀ i, W.frozen? ⟨w.heap.size + 1, i, none⟩ = false
  rs : New W w.heap.size
  l : w.heap.size + 1 < W.heap.size
  bel : Below w.heap.size w W
  rd : RdS W A zs
  hz : zs.length = plO (f + 1) (f + 2)
def meaP (g : Nat) (W : World) : Nat := match W.cell? ⟨g, 0, none⟩ with | some v => (intOf v).toNat | none => 0
theorem smallerF_calls (f F a b c : Nat) (A : Option Addr) (m cp : Nat) (zs : List (Nat × Nat × Nat)) (hF : F = f + 1) (hm : m = zs.length) (hf : f ≤ 2) (hz : zs.length = plO (f + 1) (f + 2)) (w : World) (hr : RdS w A zs) :
    Calls Try.prog 113 #[.agg #[.int .i64 F, .slice A m cp], .float .f32 a, .float .f32 b, .float .f32 c] w fun e w' => ∃ g m' c' zs', e = .returned (.agg #[.int .i64 f, .slice (some ⟨g, 0, none⟩) m' c']) ∧ m' = zs'.length ∧ SmP a b c f zs zs' ∧ RdS w' (some ⟨g, 0, none⟩) zs' ∧ Below w.heap.size w w' ∧ w.heap.size ≤ g := by
  subst hF
  obtain ⟨bk, off, rfl, hlt, -⟩ := hr.h (by rw [hz]; exact Nat.lt_of_le_of_lt (Nat.zero_le _) (crd_at (d := f + 1) (i := 0) (j := 0) (by omega) (by omega)).2)
  refine (smaller_calls f a b c bk off m cp zs hm hf (by rw [hm]; exact hz) w hr).mono ?_
  rintro e w' ⟨v, zs', rfl, hP, hO, hB⟩
  have hl : 0 < zs'.length := by rw [hP.1]; exact Nat.lt_of_le_of_lt (Nat.zero_le _) (crd_at (d := f) (i := 0) (j := 0) (by omega) (by omega)).2
  have hrd := hO.rd
  rcases hO.2 with ⟨h0, h1⟩ | ⟨g, cap, cur, rfl, hg, -⟩
  · omega
  · obtain ⟨A', c', hv, hr'⟩ := hrd
    injection hv with h1 h2 h3
    subst h1
    exact ⟨g, _, _, zs', rfl, rfl, hP, hr', hB, hg⟩

theorem New.two {W : World} {g k : Nat} {u v : Value} (h : New W g) (hk : k ≠ g) : New ((W.setCell ⟨k, 0, none⟩ u).setCell ⟨k, 1, none⟩ v) g := by
  have hne : ∀ i j, (⟨k, j, none⟩ : Addr) ≠ ⟨g, i, none⟩ := fun i j e => hk (by injection e)
  refine ⟨⟨?_, ?_, ?_⟩, fun i => ?_, by simpa using h.l⟩
  · rw [World.cell?_setCell_other _ _ _ _ (hne _ _), World.cell?_setCell_other _ _ _ _ (hne _ _)]; exact h.a.c0
  · rw [World.cell?_setCell_other _ _ _ _ (hne _ _), World.cell?_setCell_other _ _ _ _ (hne _ _)]; exact h.a.c1
  · rw [World.cell?_setCell_other _ _ _ _ (hne _ _), World.cell?_setCell_other _ _ _ _ (hne _ _)]; exact h.a.c2
  · rw [World.frozen?_setCell, World.frozen?_setCell]; exact h.f i

theorem PtS.facts {w W : World} {f F : Nat} {A : Option Addr} {m c : Nat} {zs : List (Nat × Nat × Nat)} (h : PtS w W f F A m c zs) : W.cell? ⟨w.heap.size + 1, 0, none⟩ = some (.int .i64 F) ∧ W.cell? ⟨w.heap.size + 1, 1, none⟩ = some (.slice A m c) ∧ (∀ i, W.frozen? ⟨w.heap.size + 1, i, none⟩ = false) ∧ w.heap.size + 1 < W.heap.size ∧ w.heap.size < W.heap.size := ⟨h.c0, h.c1, h.fr, h.l, Nat.lt_trans (Nat.lt_succ_self _) h.l⟩

set_option maxRecDepth 100000 in
set_option maxHeartbeats 4000000 in
theorem patchAt_yes (bk off c n : Nat) (xs : List (Nat × Nat × Nat)) (hxn : n = xs.length) (e : Nat) (he : e ≤ 2) (hn : n = plO (e + 1) (e + 2)) (hp : patB ((e + 1 : Nat) : Int) xs = true) (a b : Nat) (ha : geP a = true) (hb : geP b = true) (w : World) (hr : RdS w (some ⟨bk, off, none⟩) xs) :
    Calls Try.prog 50 #[.slice (some ⟨bk, off, none⟩) n c, .int .i64 ((e + 1 : Nat) : Int), .float .f32 a, .float .f32 b] w fun e' w' => ∃ x y z ok, e' = .returned (.tuple #[.agg #[.float .f32 x, .float .f32 y, .float .f32 z], .bool ok]) ∧ PtO ((e + 1 : Nat) : Int) xs a b x y z ok ∧ Below w.heap.size w w' := by
  have hw2 : Below w.heap.size w ((w.alloc (.cells #[.float .f32 0, .float .f32 0, .float .f32 0] 57)).alloc (.cells #[.int .i64 ((e + 1 : Nat) : Int), .slice (some ⟨bk, off, none⟩) n c] 146)) := ((Below.refl _ _).alloc (Nat.le_refl _) _).alloc (by simp) _
  have HPV := Frame.hid (fun W (hW : Below w.heap.size w W) => patchValid_calls (some ⟨bk, off, none⟩) xs c n hxn ((e + 1 : Nat) : Int) W (by rw [hn]; have h : plO (e + 1) (e + 2) ≤ 10 := (plO_le (d := e + 1) (j := e + 2) (by omega) (Nat.le_refl _)).2; omega) (hr.below hW))
  rw [hp] at HPV
  have HPB := Frame.hid hp
  have HA := Frame.hid ha
  have HB := Frame.hid hb
  have HX := Frame.hid (And.intro hxn hn)
  have HR := Frame.hid hr
  obtain ⟨D, hD⟩ : ∃ D, D = e + 1 := ⟨_, rfl⟩
  rw [← hD] at HPV ⊢
  have HD := Frame.hid hD
  unfold geP at ha hb
  clear hp hxn hn hr hD hw2
  go_enter Try.func50, Try.ntmps50
  go_wp2
  refine wp_scope_jumps 0 (fun a' W => ∃ (f F : Nat) (A : Option Addr) (m cp cc : Nat) (zs : List (Nat × Nat × Nat)) (u12 u13 u14 u15 u16 u17 u18 u19 u20 u21 u22 u23 u24 u25 u26 u27 u28 u29 u30 u31 u32 u33 u34 u35 u36 u37 u38 u39 u40 u41 u42 u43 u44 u45 u46 u47 u48 u49 u50 : Value), a' = { tmps := #[.slice (some ⟨bk, off, none⟩) n c, .int .i64 D, .float .f32 a, .float .f32 b, undef, undef, undef, undef, .pointer (some ⟨w.heap.size, 0, none⟩), .bool false, .pointer (some ⟨w.heap.size + 1, 0, none⟩), .float .f32 cc, u12, u13, u14, u15, u16, u17, u18, u19, u20, u21, u22, u23, u24, u25, u26, u27, u28, u29, u30, u31, u32, u33, u34, u35, u36, u37, u38, u39, u40, u41, u42, u43, u44, u45, u46, u47, u48, u49, u50], defers := [] } ∧ f ≤ 2 ∧ ThR a b cc ∧ geP cc = true ∧ PtS w W f F A m cp zs ∧ (∀ ys, LvP a b cc (f + 1) zs ys → LvP a b cc D xs ys)) (fun _ W => meaP (w.heap.size + 1) W) rfl ?_ ?_
  · go_wp2_with (first | (refine wpList_arith rfl _ _ _ _ _ rfl rfl _ 1065353216 _ rfl rfl ?_; intro s1 ns1 hs1 hls1) | (refine wpList_arith rfl _ _ _ _ _ rfl rfl _ _ _ rfl rfl ?_; intro r nr hr hl))
    have HTH := Frame.hid (show ThR a b r from ⟨_, hs1, hr⟩)
    clear hs1 hr
    generalize hwk : ((w.alloc (.cells #[.float .f32 0, .float .f32 0, .float .f32 0] 57)).alloc (.cells #[.int .i64 D, .slice (some ⟨bk, off, none⟩) n c] 146)).drewN (ns1 + nr) = wk
    have hBk : Below w.heap.size w wk := by rw [← hwk]; exact below_drewN (((Below.refl _ _).alloc (Nat.le_refl _) _).alloc (by simp) _) _
    have hN : New wk w.heap.size := by rw [← hwk]; refine ⟨⟨?_, ?_, ?_⟩, fun i => ?_, ?_⟩ <;> simp [go_sem] <;> omega
    have q0 : wk.cell? ⟨w.heap.size + 1, 0, none⟩ = some (.int .i64 D) := by rw [← hwk]; simp [go_sem]
    have q1 : wk.cell? ⟨w.heap.size + 1, 1, none⟩ = some (.slice (some ⟨bk, off, none⟩) n c) := by rw [← hwk]; simp [go_sem]
    have q2 : ∀ i, wk.frozen? ⟨w.heap.size + 1, i, none⟩ = false := by rw [← hwk]; intro i; simp [go_sem]
    have q3 : w.heap.size + 1 < wk.heap.size := by rw [← hwk]; simp
    refine (HPV.out _ hBk).mono ?_
    rintro e' W ⟨rfl, hB⟩
    have HS : Hid (PtS w W e D (some ⟨bk, off, none⟩) n c xs) := Frame.hid ⟨HD.out, HX.out.1, (hB.cell (p := ⟨w.heap.size + 1, 0, none⟩) q3).trans q0, (hB.cell (p := ⟨w.heap.size + 1, 1, none⟩) q3).trans q1, fun i => (hB.frozen (p := ⟨w.heap.size + 1, i, none⟩) q3).trans (q2 i), hN.go hB, Nat.lt_of_lt_of_le q3 hB.size, hBk.trans (hB.mono hBk.size), (HR.out.below hBk).below hB, by rw [← HX.out.1, HX.out.2]⟩
    clear hB hBk hN q0 q1 q2 q3 hwk
    cases hcw : geP r
    · have HCW := Frame.hid hcw
      unfold geP at hcw
      obtain ⟨f0, f1, f2, f3, f4⟩ := HS.out.facts
      have hN := HS.out.rs
      have z0 := hN.a.c0
      have z1 := hN.a.c1
      have z2 := hN.a.c2
      have zf := hN.f
      obtain ⟨e0, e1, e2⟩ := set3_read (w := W) (v0 := .float .f32 0) (v1 := .float .f32 0) (v2 := .float .f32 0) z0 z1 z2
      go_wp2_with fail
      simp only [Exit.jump]
      refine bodyPost_ret (v := .tuple #[.agg #[.float .f32 0, .float .f32 0, .float .f32 0], .bool false]) (by simp [results, Try.results50, go_sem, e0, e1, e2]) rfl ⟨_, _, _, _, rfl, .inl ⟨fun c' hc' => ?_, rfl, rfl, rfl, rfl⟩, ?_⟩
      · rw [geP.same (hc'.same HTH.out), HCW.out, Bool.and_false]
      · exact ((HS.out.bel.setCell (p := ⟨w.heap.size, 0, none⟩) (Nat.le_refl _) _).setCell (p := ⟨w.heap.size, 1, none⟩) (Nat.le_refl _) _).setCell (p := ⟨w.heap.size, 2, none⟩) (Nat.le_refl _) _
    · have HCW := Frame.hid hcw
      unfold geP at hcw
      obtain ⟨f0, f1, f2, f3, f4⟩ := HS.out.facts
      go_wp2_with fail
      go_step3
      clear f0 f1 f2 f3 f4 hcw
      have HLK : Hid (∀ ys, LvP a b r (e + 1) xs ys → LvP a b r D xs ys) := Frame.hid (fun ys h => by rw [HD.out]; exact h)
      obtain ⟨f, hfe⟩ : ∃ f, f = e := ⟨_, rfl⟩
      obtain ⟨F, hFD⟩ : ∃ F, F = D := ⟨_, rfl⟩
      obtain ⟨cc, hcr⟩ : ∃ cc, cc = r := ⟨_, rfl⟩
      obtain ⟨zs, hzs⟩ : ∃ zs, zs = xs := ⟨_, rfl⟩
      obtain ⟨A, hA⟩ : ∃ A : Option Addr, A = some ⟨bk, off, none⟩ := ⟨_, rfl⟩
      obtain ⟨m, hm⟩ : ∃ m, m = n := ⟨_, rfl⟩
      obtain ⟨cp, hcp⟩ : ∃ cp, cp = c := ⟨_, rfl⟩
      have hf : f ≤ 2 := by omega
      rw [← hfe] at HLK
      rw [← hfe, ← hFD, ← hA, ← hzs, ← hm, ← hcp] at HS
      rw [← hcr] at HTH HCW HLK ⊢
      have hzs' : LvP a b cc (f + 1) zs = LvP a b cc (f + 1) xs := by rw [hzs]
      rw [← hzs'] at HLK
      clear hzs' hfe hFD hcr hzs hA hm hcp
      obtain ⟨f0, f1, f2, f3, f4⟩ := HS.out.facts
      go_wp2_with fail
      refine (smallerF_calls f F a b cc A m cp zs HS.out.hF HS.out.hm hf HS.out.hz _ HS.out.rd).mono ?_
      rintro e' W2 ⟨gx, m', c', zs', rfl, hm', hP, hrd, hB, hgx⟩
      have g0 := (hB.cell (p := ⟨w.heap.size + 1, 0, none⟩) f3).trans f0
      have g1 := (hB.cell (p := ⟨w.heap.size + 1, 1, none⟩) f3).trans f1
      have g2 : ∀ i, W2.frozen? ⟨w.heap.size + 1, i, none⟩ = false := fun i => (hB.frozen (p := ⟨w.heap.size + 1, i, none⟩) f3).trans (f2 i)
      have g3 : w.heap.size + 1 < W2.heap.size := Nat.lt_of_lt_of_le f3 hB.size
      have hne : ¬ (w.heap.size + 1 = gx) := by omega
      have HRS := Frame.hid (HS.out.rs.go (hB.mono (by first | exact Nat.le_refl _ | omega)))
      have HBW := Frame.hid (HS.out.bel.trans (hB.mono HS.out.bel.size))
      have HP := Frame.hid hP
      have HM := Frame.hid hm'
      obtain ⟨k0, k1⟩ := set2_readD (w := W2) (v0 := .int .i64 f) (v1 := .slice (some ⟨gx, 0, none⟩) m' c') g0 g1
      have HRX := Frame.hid ((hrd.set (k := w.heap.size + 1) (i := 0) (v := .int .i64 f) hne).set (k := w.heap.size + 1) (i := 1) (v := .slice (some ⟨gx, 0, none⟩) m' c') hne)
      have HNX := Frame.hid (HRS.out.two (k := w.heap.size + 1) (u := .int .i64 f) (v := .slice (some ⟨gx, 0, none⟩) m' c') (by omega))
      have HBX := Frame.hid ((HBW.out.setCell (p := ⟨w.heap.size + 1, 0, none⟩) (by simp) (.int .i64 f)).setCell (p := ⟨w.heap.size + 1, 1, none⟩) (by simp) (.slice (some ⟨gx, 0, none⟩) m' c'))
      have hfx : ∀ i, ((W2.setCell ⟨w.heap.size + 1, 0, none⟩ (.int .i64 f)).setCell ⟨w.heap.size + 1, 1, none⟩ (.slice (some ⟨gx, 0, none⟩) m' c')).frozen? ⟨w.heap.size + 1, i, none⟩ = false := fun i => by rw [World.frozen?_setCell, World.frozen?_setCell]; exact g2 i
      have hlx : w.heap.size + 1 < ((W2.setCell ⟨w.heap.size + 1, 0, none⟩ (.int .i64 f)).setCell ⟨w.heap.size + 1, 1, none⟩ (.slice (some ⟨gx, 0, none⟩) m' c')).heap.size := by simpa using g3
      clear hm' hB f0 f1 f2 f3 f4
      rcases Nat.eq_zero_or_pos f with h0 | h0
      · obtain ⟨b', o', hbo, hb', hc'⟩ := hrd.h (by rw [hP.1, h0]; decide)
        injection hbo with hbo
        injection hbo with hbo1 hbo2
        subst hbo1 hbo2
        obtain ⟨y0, y1, y2⟩ := hc' 0 (by rw [hP.1, h0]; decide)
        subst h0
        simp only [Nat.zero_mul, Nat.add_zero] at y0 y1 y2
        have hm1 : m' = 1 := by rw [HM.out, hP.1]; rfl
        subst hm1
        have HL1 : Hid (LvP a b cc D xs zs') := Frame.hid (HLK.out zs' ⟨zs', HP.out, rfl⟩)
        have hg1 : ¬ (gx = w.heap.size + 1) := fun e => hne e.symm
        obtain ⟨x1, hx1⟩ : ∃ x, x = sx zs' 0 := ⟨_, rfl⟩
        obtain ⟨x2, hx2⟩ : ∃ x, x = sy zs' 0 := ⟨_, rfl⟩
        obtain ⟨x3, hx3⟩ : ∃ x, x = sz zs' 0 := ⟨_, rfl⟩
        rw [← hx1] at y0
        rw [← hx2] at y1
        rw [← hx3] at y2
        have HXS := Frame.hid (And.intro hx1 (And.intro hx2 hx3))
        clear hP hrd hc' hne hx1 hx2 hx3 hfx hlx
        go_wp2_with fail
        refine (spotIfFinite_calls _ _ _ _).mono ?_
        rintro e5 W5 ⟨x, y, z, ok, mm, rfl, hG, hW5⟩
        have hB5 : Below ((W2.setCell ⟨w.heap.size + 1, 0, none⟩ (.int .i64 (0 : Nat))).setCell ⟨w.heap.size + 1, 1, none⟩ (.slice (some ⟨gx, 0, none⟩) 1 c')).heap.size ((W2.setCell ⟨w.heap.size + 1, 0, none⟩ (.int .i64 (0 : Nat))).setCell ⟨w.heap.size + 1, 1, none⟩ (.slice (some ⟨gx, 0, none⟩) 1 c')) W5 := by rw [hW5]; exact b3 _ _ _ _ _
        have HG := Frame.hid hG
        have hN5 := HNX.out.go hB5
        have HB5 := Frame.hid (HBX.out.trans (hB5.mono HBX.out.size))
        have z0 := hN5.a.c0
        have z1 := hN5.a.c1
        have z2 := hN5.a.c2
        have zf := hN5.f
        obtain ⟨e0, e1, e2⟩ := set3_read (w := W5) (v0 := .float .f32 x) (v1 := .float .f32 y) (v2 := .float .f32 z) z0 z1 z2
        clear hG hW5 hB5 hN5 y0 y1 y2 k0 k1 g0 g1 g2 g3
        go_wp2_with fail
        simp only [Exit.jump]
        refine bodyPost_ret (v := .tuple #[.agg #[.float .f32 x, .float .f32 y, .float .f32 z], .bool ok]) (by simp [results, Try.results50, go_sem, e0, e1, e2]) rfl ⟨_, _, _, _, rfl, .inr ⟨cc, HTH.out, by rw [HD.out, HPB.out, HA.out, HB.out, HCW.out]; rfl, zs', by rw [Int.toNat_natCast]; exact HL1.out, ?_⟩, ?_⟩
        · obtain ⟨q1, q2, q3⟩ := HXS.out
          rw [← q1, ← q2, ← q3]
          exact HG.out
        · exact ((HB5.out.setCell (p := ⟨w.heap.size, 0, none⟩) (Nat.le_refl _) _).setCell (p := ⟨w.heap.size, 1, none⟩) (Nat.le_refl _) _).setCell (p := ⟨w.heap.size, 2, none⟩) (Nat.le_refl _) _
      · obtain ⟨g, hg⟩ : ∃ g, f = g + 1 := ⟨f - 1, by omega⟩
        have HGF := Frame.hid hg
        have hf0 : (0 : Int) < (f : Int) := by omega
        clear hg hrd hP
        go_wp2_with fail
        go_step3
        have hJ : PtS w ((W2.setCell ⟨w.heap.size + 1, 0, none⟩ (.int .i64 f)).setCell ⟨w.heap.size + 1, 1, none⟩ (.slice (some ⟨gx, 0, none⟩) m' c')) g f (some ⟨gx, 0, none⟩) m' c' zs' := ⟨HGF.out, HM.out, k0, k1, hfx, HNX.out, hlx, HBX.out, HRX.out, by rw [HP.out.1, HGF.out]⟩
        have hlk : ∀ ys, LvP a b cc (g + 1) zs' ys → LvP a b cc D xs ys := fun ys h => HLK.out ys ⟨zs', HP.out, by rw [HGF.out]; exact h⟩
        have hg2 : g ≤ 2 := by have := HGF.out; omega
        exact ⟨rfl, g, f, _, m', c', cc, zs', _, _, _, _, _, _, _, _, _, _, _, _, _, _, _, _, _, _, _, _, _, _, _, _, _, _, _, _, _, _, _, _, _, _, _, _, _, _, _, rfl, hg2, HTH.out, HCW.out, hJ, hlk⟩
  · rintro a' W ⟨f, F, A, m, cp, cc, zs, u12, u13, u14, u15, u16, u17, u18, u19, u20, u21, u22, u23, u24, u25, u26, u27, u28, u29, u30, u31, u32, u33, u34, u35, u36, u37, u38, u39, u40, u41, u42, u43, u44, u45, u46, u47, u48, u49, u50, rfl, hf, hTH, hcw, hS, hLK⟩
    have HS := Frame.hid hS
    have HTH := Frame.hid hTH
    have HCW := Frame.hid hcw
    have HLK := Frame.hid hLK
    clear hTH hcw hS hLK
    obtain ⟨f0, f1, f2, f3, f4⟩ := HS.out.facts
    go_wp2_with fail
    refine (smallerF_calls f F a b cc A m cp zs HS.out.hF HS.out.hm hf HS.out.hz _ HS.out.rd).mono ?_
    rintro e' W2 ⟨gx, m', c', zs', rfl, hm', hP, hrd, hB, hgx⟩
    have g0 := (hB.cell (p := ⟨w.heap.size + 1, 0, none⟩) f3).trans f0
    have g1 := (hB.cell (p := ⟨w.heap.size + 1, 1, none⟩) f3).trans f1
    have g2 : ∀ i, W2.frozen? ⟨w.heap.size + 1, i, none⟩ = false := fun i => (hB.frozen (p := ⟨w.heap.size + 1, i, none⟩) f3).trans (f2 i)
    have g3 : w.heap.size + 1 < W2.heap.size := Nat.lt_of_lt_of_le f3 hB.size
    have hne : ¬ (w.heap.size + 1 = gx) := by omega
    have HRS := Frame.hid (HS.out.rs.go (hB.mono (by first | exact Nat.le_refl _ | omega)))
    have HBW := Frame.hid (HS.out.bel.trans (hB.mono HS.out.bel.size))
    have HP := Frame.hid hP
    have HM := Frame.hid hm'
    obtain ⟨k0, k1⟩ := set2_readD (w := W2) (v0 := .int .i64 f) (v1 := .slice (some ⟨gx, 0, none⟩) m' c') g0 g1
    have HRX := Frame.hid ((hrd.set (k := w.heap.size + 1) (i := 0) (v := .int .i64 f) hne).set (k := w.heap.size + 1) (i := 1) (v := .slice (some ⟨gx, 0, none⟩) m' c') hne)
    have HNX := Frame.hid (HRS.out.two (k := w.heap.size + 1) (u := .int .i64 f) (v := .slice (some ⟨gx, 0, none⟩) m' c') (by omega))
    have HBX := Frame.hid ((HBW.out.setCell (p := ⟨w.heap.size + 1, 0, none⟩) (by simp) (.int .i64 f)).setCell (p := ⟨w.heap.size + 1, 1, none⟩) (by simp) (.slice (some ⟨gx, 0, none⟩) m' c'))
    have hfx : ∀ i, ((W2.setCell ⟨w.heap.size + 1, 0, none⟩ (.int .i64 f)).setCell ⟨w.heap.size + 1, 1, none⟩ (.slice (some ⟨gx, 0, none⟩) m' c')).frozen? ⟨w.heap.size + 1, i, none⟩ = false := fun i => by rw [World.frozen?_setCell, World.frozen?_setCell]; exact g2 i
    have hlx : w.heap.size + 1 < ((W2.setCell ⟨w.heap.size + 1, 0, none⟩ (.int .i64 f)).setCell ⟨w.heap.size + 1, 1, none⟩ (.slice (some ⟨gx, 0, none⟩) m' c')).heap.size := by simpa using g3
    clear hm' hB f0 f1 f2 f3 f4
    rcases Nat.eq_zero_or_pos f with h0 | h0
    · obtain ⟨b', o', hbo, hb', hc'⟩ := hrd.h (by rw [hP.1, h0]; decide)
      injection hbo with hbo
      injection hbo with hbo1 hbo2
      subst hbo1 hbo2
      obtain ⟨y0, y1, y2⟩ := hc' 0 (by rw [hP.1, h0]; decide)
      subst h0
      simp only [Nat.zero_mul, Nat.add_zero] at y0 y1 y2
      have hm1 : m' = 1 := by rw [HM.out, hP.1]; rfl
      subst hm1
      have HL1 : Hid (LvP a b cc D xs zs') := Frame.hid (HLK.out zs' ⟨zs', HP.out, rfl⟩)
      have hg1 : ¬ (gx = w.heap.size + 1) := fun e => hne e.symm
      obtain ⟨x1, hx1⟩ : ∃ x, x = sx zs' 0 := ⟨_, rfl⟩
      obtain ⟨x2, hx2⟩ : ∃ x, x = sy zs' 0 := ⟨_, rfl⟩
      obtain ⟨x3, hx3⟩ : ∃ x, x = sz zs' 0 := ⟨_, rfl⟩
      rw [← hx1] at y0
      rw [← hx2] at y1
      rw [← hx3] at y2
      have HXS := Frame.hid (And.intro hx1 (And.intro hx2 hx3))
      clear hP hrd hc' hne hx1 hx2 hx3 hfx hlx
      go_wp2_with fail
      refine (spotIfFinite_calls _ _ _ _).mono ?_
      rintro e5 W5 ⟨x, y, z, ok, mm, rfl, hG, hW5⟩
      have hB5 : Below ((W2.setCell ⟨w.heap.size + 1, 0, none⟩ (.int .i64 (0 : Nat))).setCell ⟨w.heap.size + 1, 1, none⟩ (.slice (some ⟨gx, 0, none⟩) 1 c')).heap.size ((W2.setCell ⟨w.heap.size + 1, 0, none⟩ (.int .i64 (0 : Nat))).setCell ⟨w.heap.size + 1, 1, none⟩ (.slice (some ⟨gx, 0, none⟩) 1 c')) W5 := by rw [hW5]; exact b3 _ _ _ _ _
      have HG := Frame.hid hG
      have hN5 := HNX.out.go hB5
      have HB5 := Frame.hid (HBX.out.trans (hB5.mono HBX.out.size))
      have z0 := hN5.a.c0
      have z1 := hN5.a.c1
      have z2 := hN5.a.c2
      have zf := hN5.f
      obtain ⟨e0, e1, e2⟩ := set3_read (w := W5) (v0 := .float .f32 x) (v1 := .float .f32 y) (v2 := .float .f32 z) z0 z1 z2
      clear hG hW5 hB5 hN5 y0 y1 y2 k0 k1 g0 g1 g2 g3
      go_wp2_with fail
      simp only [Exit.jump]
      refine bodyPost_ret (v := .tuple #[.agg #[.float .f32 x, .float .f32 y, .float .f32 z], .bool ok]) (by simp [results, Try.results50, go_sem, e0, e1, e2]) rfl ⟨_, _, _, _, rfl, .inr ⟨cc, HTH.out, by rw [HD.out, HPB.out, HA.out, HB.out, HCW.out]; rfl, zs', by rw [Int.toNat_natCast]; exact HL1.out, ?_⟩, ?_⟩
      · obtain ⟨q1, q2, q3⟩ := HXS.out
        rw [← q1, ← q2, ← q3]
        exact HG.out
      · exact ((HB5.out.setCell (p := ⟨w.heap.size, 0, none⟩) (Nat.le_refl _) _).setCell (p := ⟨w.heap.size, 1, none⟩) (Nat.le_refl _) _).setCell (p := ⟨w.heap.size, 2, none⟩) (Nat.le_refl _) _
    · obtain ⟨g, hg⟩ : ∃ g, f = g + 1 := ⟨f - 1, by omega⟩
      have HGF := Frame.hid hg
      have hf0 : (0 : Int) < (f : Int) := by omega
      clear hg hrd hP
      go_wp2_with fail
      go_step3
      have hJ : PtS w ((W2.setCell ⟨w.heap.size + 1, 0, none⟩ (.int .i64 f)).setCell ⟨w.heap.size + 1, 1, none⟩ (.slice (some ⟨gx, 0, none⟩) m' c')) g f (some ⟨gx, 0, none⟩) m' c' zs' := ⟨HGF.out, HM.out, k0, k1, hfx, HNX.out, hlx, HBX.out, HRX.out, by rw [HP.out.1, HGF.out]⟩
      have hlk : ∀ ys, LvP a b cc (g + 1) zs' ys → LvP a b cc D xs ys := fun ys h => HLK.out ys ⟨zs', HP.out, by rw [HGF.out]; exact h⟩
      have hg2 : g ≤ 2 := by have := HGF.out; omega
      refine ⟨rfl, ⟨g, f, _, m', c', cc, zs', _, _, _, _, _, _, _, _, _, _, _, _, _, _, _, _, _, _, _, _, _, _, _, _, _, _, _, _, _, _, _, _, _, _, _, _, _, _, _, rfl, hg2, HTH.out, HCW.out, hJ, hlk⟩, ?_⟩
      have c0 := HS.out.c0
      have hF := HS.out.hF
      unfold meaP
      simp only [k0, c0, intOf, Int.toNat_natCast]
      omega

end Go.Proofs.Ytnbgnaenlbphcaa
