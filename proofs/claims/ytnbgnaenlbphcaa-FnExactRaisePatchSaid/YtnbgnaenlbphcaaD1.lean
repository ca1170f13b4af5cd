/-
  Patches: what both sides reckon; the program's small steps.
-/
import Derived.Test.YtnbgnaenlbphcaaG5
import Derived.Test.YtnbgnaenlbphcaaH5
import Derived.Test.YtnbgnaenlbphcaaRy
import Derived.Test.YtnbgnaenlbphcaaK2
namespace Go.Proofs.Ytnbgnaenlbphcaa
open Go.RowKit Fl Go.WideShapes Go.Deep
attribute [local go_sem] kstore_f kalloc_drewN kset_drewN hstore_i hstore_s

/-- Where a row of a patch begins. -/
def plO (d : Nat) : Nat → Nat
  | 0 => 0
  | j + 1 => plO d j + (d + 1 - j)
/-- The places of a patch, in order. -/
def crd : Nat → List (Nat × Nat)
  | 0 => [(0, 0)]
  | 1 => [(0, 0), (1, 0), (0, 1)]
  | 2 => [(0, 0), (1, 0), (2, 0), (0, 1), (1, 1), (0, 2)]
  | _ => [(0, 0), (1, 0), (2, 0), (3, 0), (0, 1), (1, 1), (2, 1), (0, 2), (1, 2), (0, 3)]
theorem crd_len {d : Nat} (h : d ≤ 3) : (crd d).length = plO d (d + 1) := by
  rcases (by omega : d = 0 ∨ d = 1 ∨ d = 2 ∨ d = 3) with rfl | rfl | rfl | rfl <;> rfl
theorem crd_at {d i j : Nat} (h : d ≤ 3) (hij : i + j ≤ d) : (crd d).getD (plO d j + i) (0, 0) = (i, j) ∧ plO d j + i < plO d (d + 1) := by
  rcases (by omega : d = 0 ∨ d = 1 ∨ d = 2 ∨ d = 3) with rfl | rfl | rfl | rfl <;>
    rcases (by omega : j = 0 ∨ j = 1 ∨ j = 2 ∨ j = 3) with rfl | rfl | rfl | rfl <;>
    rcases (by omega : i = 0 ∨ i = 1 ∨ i = 2 ∨ i = 3) with rfl | rfl | rfl | rfl <;> first | omega | decide
theorem plO_le {d j : Nat} (h : d ≤ 3) (hj : j ≤ d + 1) : plO d j ≤ plO d (d + 1) ∧ plO d (d + 1) ≤ 10 := by
  rcases (by omega : d = 0 ∨ d = 1 ∨ d = 2 ∨ d = 3) with rfl | rfl | rfl | rfl <;>
    rcases (by omega : j = 0 ∨ j = 1 ∨ j = 2 ∨ j = 3 ∨ j = 4) with rfl | rfl | rfl | rfl | rfl <;> first | omega | decide

/-- The spots of a patch, each told by its place. -/
def PL (d : Nat) (R : Nat → Nat → Nat → Nat → Nat → Prop) (zs : List (Nat × Nat × Nat)) : Prop := ∀ k, k < zs.length → R ((crd d).getD k (0, 0)).1 ((crd d).getD k (0, 0)).2 (sx zs k) (sy zs k) (sz zs k)
theorem PL.nil {d : Nat} {R : Nat → Nat → Nat → Nat → Nat → Prop} : PL d R [] := fun k h => absurd h (by simp)
theorem PL.snoc {d : Nat} {R : Nat → Nat → Nat → Nat → Nat → Prop} {zs : List (Nat × Nat × Nat)} {x y z i j : Nat} (h : PL d R zs) (hd : d ≤ 3) (hij : i + j ≤ d) (hl : zs.length = plO d j + i) (hr : R i j x y z) : PL d R (zs ++ [(x, y, z)]) := fun k hk => by
  rcases Nat.lt_or_ge k zs.length with hlt | hge
  · have e : (zs ++ [(x, y, z)]).getD k (0, 0, 0) = zs.getD k (0, 0, 0) := by simp [List.getD, List.getElem?_append_left hlt]
    have h0 := h k hlt
    unfold sx sy sz at h0 ⊢
    rw [e]
    exact h0
  · have h0 : k = zs.length := by simp at hk; omega
    subst h0
    have e : (zs ++ [(x, y, z)]).getD zs.length (0, 0, 0) = (x, y, z) := by simp [List.getD]
    unfold sx sy sz
    rw [e, hl, (crd_at hd hij).1]
    exact hr
theorem PL.same {d : Nat} {R R' : Nat → Nat → Nat → Nat → Nat → Prop} {zs zs' : List (Nat × Nat × Nat)} (hd : d ≤ 3) (hl : zs.length = plO d (d + 1)) (hl' : zs'.length = plO d (d + 1)) (h : PL d R zs) (g : PL d R' zs')
    (hs : ∀ i j x y z x' y' z', i + j ≤ d → R i j x y z → R' i j x' y' z' → S3 x y z x' y' z') : LS zs zs' := by
  refine ⟨hl.trans hl'.symm, fun k hk => ?_⟩
  refine hs _ _ _ _ _ _ _ _ ?_ (h k hk) (g k (by omega))
  rw [hl] at hk
  revert hk
  rcases (by omega : d = 0 ∨ d = 1 ∨ d = 2 ∨ d = 3) with rfl | rfl | rfl | rfl <;> (intro hk; simp only [plO] at hk)
  · rcases (by omega : k = 0) with rfl; decide
  · rcases (by omega : k = 0 ∨ k = 1 ∨ k = 2) with rfl | rfl | rfl <;> decide
  · rcases (by omega : k = 0 ∨ k = 1 ∨ k = 2 ∨ k = 3 ∨ k = 4 ∨ k = 5) with rfl | rfl | rfl | rfl | rfl | rfl <;> decide
  · rcases (by omega : k = 0 ∨ k = 1 ∨ k = 2 ∨ k = 3 ∨ k = 4 ∨ k = 5 ∨ k = 6 ∨ k = 7 ∨ k = 8 ∨ k = 9) with rfl | rfl | rfl | rfl | rfl | rfl | rfl | rfl | rfl | rfl <;> decide

/-- A spot of a smaller patch, between three. -/
def BlR (a b c : Nat) (p q r : Nat × Nat × Nat) (x y z : Nat) : Prop := ∃ p1 p2 p3 q1 q2 q3 s1 s2 s3 r1 r2 r3, TimesR p.1 p.2.1 p.2.2 c p1 p2 p3 ∧ TimesR q.1 q.2.1 q.2.2 a q1 q2 q3 ∧ PlusR p1 p2 p3 q1 q2 q3 s1 s2 s3 ∧ TimesR r.1 r.2.1 r.2.2 b r1 r2 r3 ∧ PlusR s1 s2 s3 r1 r2 r3 x y z
def S3p (p q : Nat × Nat × Nat) : Prop := S3 p.1 p.2.1 p.2.2 q.1 q.2.1 q.2.2
theorem BlR.same {a b c c' x y z x' y' z' : Nat} {p q r p' q' r' : Nat × Nat × Nat} (hc : FSame .f32 c c') (h1 : S3p p p') (h2 : S3p q q') (h3 : S3p r r') (h : BlR a b c p q r x y z) (g : BlR a b c' p' q' r' x' y' z') : S3 x y z x' y' z' := by
  obtain ⟨p1, p2, p3, q1, q2, q3, s1, s2, s3, r1, r2, r3, e1, e2, e3, e4, e5⟩ := h
  obtain ⟨P1, P2, P3, Q1, Q2, Q3, S1, S2, S3', R1, R2, R3, f1, f2, f3, f4, f5⟩ := g
  exact PlusR.same (PlusR.same (TimesR.same h1 hc e1 f1) (TimesR.same h2 (FSame.refl _ _) e2 f2) e3 f3) (TimesR.same h3 (FSame.refl _ _) e4 f4) e5 f5
/-- The spot of a list. -/
def spt (xs : List (Nat × Nat × Nat)) (k : Nat) : Nat × Nat × Nat := (sx xs k, sy xs k, sz xs k)
/-- The smaller patch of one of the degree d + 1. -/
def SmP (a b c d : Nat) (xs zs : List (Nat × Nat × Nat)) : Prop :=
  zs.length = plO d (d + 1) ∧ PL d (fun i j x y z => BlR a b c (spt xs (plO (d + 1) j + i)) (spt xs (plO (d + 1) j + (i + 1))) (spt xs (plO (d + 1) (j + 1) + i)) x y z) zs
theorem SmP.same {a b c c' d : Nat} {xs ys zs zs' : List (Nat × Nat × Nat)} (hd : d ≤ 2) (hc : FSame .f32 c c') (hl : xs.length = plO (d + 1) (d + 2)) (hs : LS xs ys) (h : SmP a b c d xs zs) (g : SmP a b c' d ys zs') : LS zs zs' := by
  refine PL.same (by omega) h.1 g.1 h.2 g.2 fun i j x y z x' y' z' hij hx hy => ?_
  have hk : ∀ k, k < plO (d + 1) (d + 2) → S3p (spt xs k) (spt ys k) := fun k hk => hs.2 k (by omega)
  exact BlR.same hc (hk _ (crd_at (d := d + 1) (by omega) (by omega)).2) (hk _ (crd_at (d := d + 1) (i := i + 1) (by omega) (by omega)).2) (hk _ (crd_at (d := d + 1) (j := j + 1) (by omega) (by omega)).2) hx hy
/-- What is left of a patch of some degree. -/
def LvP (a b c : Nat) : Nat → List (Nat × Nat × Nat) → List (Nat × Nat × Nat) → Prop
  | 0, xs, ys => ys = xs
  | d + 1, xs, ys => ∃ zs, SmP a b c d xs zs ∧ LvP a b c d zs ys
theorem LvP.same {a b c c' : Nat} (hc : FSame .f32 c c') : ∀ {d : Nat} {xs ys zs zs' : List (Nat × Nat × Nat)}, d ≤ 3 → xs.length = plO d (d + 1) → LS xs ys → LvP a b c d xs zs → LvP a b c' d ys zs' → LS zs zs'
  | 0, _, _, _, _, _, _, hS, h, g => by rw [h, g]; exact hS
  | d + 1, _, _, _, _, hd, hl, hS, ⟨_, h1, h2⟩, ⟨_, g1, g2⟩ => LvP.same hc (by omega) h1.1 (SmP.same (by omega) hc hl hS h1 g1) h2 g2
/-- Whether spots are a patch of a degree. -/
def patB (d : Int) (xs : List (Nat × Nat × Nat)) : Bool := decide (1 ≤ d) && decide (d ≤ 3) && decide ((xs.length : Int) = ((d + 1) * (d + 2)).tdiv 2) && finS xs
theorem patB_yes {d : Int} {xs : List (Nat × Nat × Nat)} (h : patB d xs = true) : ∃ e : Nat, d = (e + 1 : Nat) ∧ e ≤ 2 ∧ xs.length = plO (e + 1) (e + 2) ∧ finS xs = true := by
  unfold patB at h
  simp only [Bool.and_eq_true, decide_eq_true_eq] at h
  obtain ⟨⟨⟨h1, h2⟩, h3⟩, h4⟩ := h
  rcases (by omega : d = 1 ∨ d = 2 ∨ d = 3) with rfl | rfl | rfl
  · exact ⟨0, rfl, by omega, by have : (xs.length : Int) = 3 := h3; simp only [plO]; omega, h4⟩
  · exact ⟨1, rfl, by omega, by have : (xs.length : Int) = 6 := h3; simp only [plO]; omega, h4⟩
  · exact ⟨2, rfl, by omega, by have : (xs.length : Int) = 10 := h3; simp only [plO]; omega, h4⟩

set_option maxRecDepth 100000 in
set_option maxHeartbeats 2000000 in
theorem patchSpot_calls (bk off c n : Nat) (xs : List (Nat × Nat × Nat)) (hxn : n = xs.length) (d i j d1 m1 j1 m2 m3 m4 : Int) (k : Nat) (hk : k < n) (e1 : IntKind.i64.wrap (d + 1) = d1) (e2 : IntKind.i64.wrap (j * d1) = m1) (e3 : IntKind.i64.wrap (j - 1) = j1) (e4 : IntKind.i64.wrap (j * j1) = m2) (e5 : IntKind.i64.wrap (m2.tdiv 2) = m3) (e6 : IntKind.i64.wrap (m1 - m3) = m4) (ha : IntKind.i64.wrap (m4 + i) = (k : Int)) (w : World) (hr : RdS w (some ⟨bk, off, none⟩) xs) :
    Calls Try.prog 154 #[.agg #[.int .i64 d, .slice (some ⟨bk, off, none⟩) n c], .int .i64 i, .int .i64 j] w fun e w' => e = .returned (.agg #[.float .f32 (sx xs k), .float .f32 (sy xs k), .float .f32 (sz xs k)]) ∧ Below w.heap.size w w' := by
  obtain ⟨b', off', e, hlt, hc⟩ := hr.h (by omega)
  injection e with e
  injection e with e1' e2'
  subst e1' e2'
  obtain ⟨c0, c1, c2⟩ := hc k (by omega)
  have hne : ¬ (bk = w.heap.size) := by omega
  have hne1 : ¬ (bk = w.heap.size + 1) := by omega
  obtain ⟨x, hx⟩ : ∃ x, x = sx xs k := ⟨_, rfl⟩
  obtain ⟨y, hy⟩ : ∃ y, y = sy xs k := ⟨_, rfl⟩
  obtain ⟨z, hz⟩ : ∃ z, z = sz xs k := ⟨_, rfl⟩
  rw [← hx] at c0 ⊢
  rw [← hy] at c1 ⊢
  rw [← hz] at c2 ⊢
  clear hc hr hx hy hz hxn
  go_enter Try.func154, Try.ntmps154
  go_wp2_with fail
  refine bodyPost_ret (v := .agg #[.float .f32 x, .float .f32 y, .float .f32 z]) (by simp [results, Try.results154, go_sem]) rfl ⟨rfl, ?_⟩
  (apply bel_of; (repeat (first | apply below_dn | apply below_al)); exact below_st _)

end Go.Proofs.Ytnbgnaenlbphcaa
