/-
  Spots: taken over into the program's own, finite or not, the same or not, sums, products, lengths; walked on both sides.
-/
import Derived.Test.YtnbgnaenlbphcaaSc
import Derived.Test.YtnbgnaenlbphcaaBd
import Derived.Test.YtnbgnaenlbphcaaRt
import Derived.Laws.NewBlocks
import Derived.Laws.NewDeep
import Derived.Laws.NewFold
import Derived.Deep.QuietTactic
namespace Go.Proofs.Ytnbgnaenlbphcaa
open Go.RowKit Fl

theorem kstore_f (P : Program) (w : World) (a : Addr) (m : Mode) (k : FloatKind) (b : Nat) : (store a (.float k b) m).run P w = stored P w a (.float k b) m := run_store P w a _ m rfl
theorem kalloc_drewN (w : World) (n : Nat) (o : Obj) : (w.drewN n).alloc o = (w.alloc o).drewN n := rfl
theorem kset_drewN (w : World) (n : Nat) (a : Addr) (v : Value) : (w.drewN n).setCell a v = (w.setCell a v).drewN n := rfl
attribute [local go_sem] kstore_f kalloc_drewN kset_drewN

theorem rd_of {n : Nat} {w w' : World} (h : Below n w w') : ∀ b i, b < n → w'.cell? ⟨b, i, none⟩ = w.cell? ⟨b, i, none⟩ := fun _ _ hb => h.cell hb
theorem fz_of {n : Nat} {w w' : World} (h : Below n w w') : ∀ b i, b < n → w'.frozen? ⟨b, i, none⟩ = w.frozen? ⟨b, i, none⟩ := fun _ _ hb => h.frozen hb
theorem sz_of {n : Nat} {w w' : World} (h : Below n w w') : ∀ m, m < w.heap.size → m < w'.heap.size := fun _ hm => Nat.lt_of_lt_of_le hm h.size
theorem b1 (w : World) (o1 : Obj) (n : Nat) : Below w.heap.size w ((w.alloc o1).drewN n) := below_drewN ((Below.refl _ _).alloc (by simp) _) _
theorem b2 (w : World) (o1 o2 : Obj) (n : Nat) : Below w.heap.size w (((w.alloc o1).alloc o2).drewN n) := below_drewN (((Below.refl _ _).alloc (by simp) _).alloc (by simp) _) _
theorem b3 (w : World) (o1 o2 o3 : Obj) (n : Nat) : Below w.heap.size w ((((w.alloc o1).alloc o2).alloc o3).drewN n) := below_drewN ((((Below.refl _ _).alloc (by simp) _).alloc (by simp) _).alloc (by simp; omega) _) _
theorem b4 (w : World) (o1 o2 o3 o4 : Obj) (n : Nat) : Below w.heap.size w (((((w.alloc o1).alloc o2).alloc o3).alloc o4).drewN n) := below_drewN (((((Below.refl _ _).alloc (by simp) _).alloc (by simp) _).alloc (by simp; omega) _).alloc (by simp; omega) _) _

theorem below_al {B : Nat} {a w : World} (o : Obj) (h : B ≤ w.heap.size ∧ Below B a w) : B ≤ (w.alloc o).heap.size ∧ Below B a (w.alloc o) := ⟨by simp; omega, h.2.alloc h.1 o⟩
theorem below_dn {B : Nat} {a w : World} (n : Nat) (h : B ≤ w.heap.size ∧ Below B a w) : B ≤ (w.drewN n).heap.size ∧ Below B a (w.drewN n) := ⟨h.1, below_drewN h.2 n⟩
theorem below_sc {B : Nat} {a w : World} {p : Addr} (hp : B ≤ p.block) (h : B ≤ w.heap.size ∧ Below B a w) (u : Value) : B ≤ (w.setCell p u).heap.size ∧ Below B a (w.setCell p u) := ⟨by simpa using h.1, h.2.setCell hp u⟩
theorem bel_of {B : Nat} {a w : World} (h : B ≤ w.heap.size ∧ Below B a w) : Below B a w := h.2
theorem below_st (w : World) : w.heap.size ≤ w.heap.size ∧ Below w.heap.size w w := ⟨Nat.le_refl _, Below.refl _ _⟩
theorem below_ch {B C : Nat} {a w w' : World} (h : B ≤ w.heap.size ∧ Below B a w) (hB : Below C w w') (hC : C = w.heap.size) : B ≤ w'.heap.size ∧ Below B a w' := by
  subst hC
  exact ⟨Nat.le_trans h.1 hB.size, h.2.trans (hB.mono h.1)⟩

/-- Two spots are one, up to not-a-numbers. -/
def S3 (x y z x' y' z' : Nat) : Prop := FSame .f32 x x' ∧ FSame .f32 y y' ∧ FSame .f32 z z'
theorem S3.refl (x y z : Nat) : S3 x y z x y z := ⟨FSame.refl _ _, FSame.refl _ _, FSame.refl _ _⟩
theorem S3.symm {x y z x' y' z' : Nat} (h : S3 x y z x' y' z') : S3 x' y' z' x y z := ⟨h.1.symm, h.2.1.symm, h.2.2.symm⟩

theorem fin_same {k : FloatKind} {a b : Nat} (h : FSame k a b) : fin k a = fin k b := by
  rcases h with rfl | ⟨h1, h2⟩
  · rfl
  · rw [fin_eq, fin_eq, h1, h2]; rfl

/-- All parts are finite. -/
def fin3 (x y z : Nat) : Bool := fin .f32 x && fin .f32 y && fin .f32 z
theorem S3.fin {x y z x' y' z' : Nat} (h : S3 x y z x' y' z') : fin3 x y z = fin3 x' y' z' := by
  unfold fin3; rw [fin_same h.1, fin_same h.2.1, fin_same h.2.2]

def LessR (x y z x' y' z' a b c : Nat) : Prop := FOp .sub .f32 x x' a ∧ FOp .sub .f32 y y' b ∧ FOp .sub .f32 z z' c
def PlusR (x y z x' y' z' a b c : Nat) : Prop := FOp .add .f32 x x' a ∧ FOp .add .f32 y y' b ∧ FOp .add .f32 z z' c
def TimesR (x y z t a b c : Nat) : Prop := FOp .mul .f32 x t a ∧ FOp .mul .f32 y t b ∧ FOp .mul .f32 z t c
theorem LessR.same {x y z x' y' z' a b c X Y Z X' Y' Z' A B C : Nat} (h1 : S3 x y z X Y Z) (h2 : S3 x' y' z' X' Y' Z') (h : LessR x y z x' y' z' a b c) (g : LessR X Y Z X' Y' Z' A B C) : S3 a b c A B C :=
  ⟨FOp.same h1.1 h2.1 h.1 g.1, FOp.same h1.2.1 h2.2.1 h.2.1 g.2.1, FOp.same h1.2.2 h2.2.2 h.2.2 g.2.2⟩
theorem PlusR.same {x y z x' y' z' a b c X Y Z X' Y' Z' A B C : Nat} (h1 : S3 x y z X Y Z) (h2 : S3 x' y' z' X' Y' Z') (h : PlusR x y z x' y' z' a b c) (g : PlusR X Y Z X' Y' Z' A B C) : S3 a b c A B C :=
  ⟨FOp.same h1.1 h2.1 h.1 g.1, FOp.same h1.2.1 h2.2.1 h.2.1 g.2.1, FOp.same h1.2.2 h2.2.2 h.2.2 g.2.2⟩
theorem TimesR.same {x y z t a b c X Y Z T A B C : Nat} (h1 : S3 x y z X Y Z) (h2 : FSame .f32 t T) (h : TimesR x y z t a b c) (g : TimesR X Y Z T A B C) : S3 a b c A B C :=
  ⟨FOp.same h1.1 h2 h.1 g.1, FOp.same h1.2.1 h2 h.2.1 g.2.1, FOp.same h1.2.2 h2 h.2.2 g.2.2⟩

/-- A difference of two products. -/
def PpR (a b c d r : Nat) : Prop := ∃ p q, FOp .mul .f32 a b p ∧ FOp .mul .f32 c d q ∧ FOp .sub .f32 p q r
theorem PpR.same {a b c d r A B C D R : Nat} (h1 : FSame .f32 a A) (h2 : FSame .f32 b B) (h3 : FSame .f32 c C) (h4 : FSame .f32 d D) (h : PpR a b c d r) (g : PpR A B C D R) : FSame .f32 r R := by
  obtain ⟨p, q, e1, e2, e3⟩ := h
  obtain ⟨P, Q, f1, f2, f3⟩ := g
  exact FOp.same (FOp.same h1 h2 e1 f1) (FOp.same h3 h4 e2 f2) e3 f3
def CrossR (x y z x' y' z' a b c : Nat) : Prop := PpR y z' z y' a ∧ PpR z x' x z' b ∧ PpR x y' y x' c
theorem CrossR.same {x y z x' y' z' a b c X Y Z X' Y' Z' A B C : Nat} (h1 : S3 x y z X Y Z) (h2 : S3 x' y' z' X' Y' Z') (h : CrossR x y z x' y' z' a b c) (g : CrossR X Y Z X' Y' Z' A B C) : S3 a b c A B C :=
  ⟨PpR.same h1.2.1 h2.2.2 h1.2.2 h2.2.1 h.1 g.1, PpR.same h1.2.2 h2.1 h1.1 h2.2.2 h.2.1 g.2.1, PpR.same h1.1 h2.2.1 h1.2.1 h2.1 h.2.2 g.2.2⟩
def DotR (x y z x' y' z' r : Nat) : Prop := ∃ p q s u, FOp .mul .f32 x x' p ∧ FOp .mul .f32 y y' q ∧ FOp .mul .f32 z z' s ∧ FOp .add .f32 p q u ∧ FOp .add .f32 u s r
theorem DotR.same {x y z x' y' z' r X Y Z X' Y' Z' R : Nat} (h1 : S3 x y z X Y Z) (h2 : S3 x' y' z' X' Y' Z') (h : DotR x y z x' y' z' r) (g : DotR X Y Z X' Y' Z' R) : FSame .f32 r R := by
  obtain ⟨p, q, s, u, e1, e2, e3, e4, e5⟩ := h
  obtain ⟨P, Q, S, U, f1, f2, f3, f4, f5⟩ := g
  exact FOp.same (FOp.same (FOp.same h1.1 h2.1 e1 f1) (FOp.same h1.2.1 h2.2.1 e2 f2) e4 f4) (FOp.same h1.2.2 h2.2.2 e3 f3) e5 f5

theorem rootR_same {a b r r' : Nat} (hab : FSame .f32 a b) (h : RootR a r) (h' : RootR b r') : FSame .f32 r r' := by
  obtain ⟨y, q, h1, h2, h3⟩ := h
  obtain ⟨y', q', g1, g2, g3⟩ := h'
  have hy := wide_same hab h1 g1
  exact told_same (FSq.same hy h2 g2) (sqrt_told h1 h2) h3 g3

/-- What is handed out if it is finite, else nothing. -/
def GivenR (x y z a b c : Nat) (ok : Bool) : Prop := ok = fin3 x y z ∧ (ok = true → a = x ∧ b = y ∧ c = z) ∧ (ok = false → a = 0 ∧ b = 0 ∧ c = 0)
theorem GivenR.same {x y z a b c X Y Z A B C : Nat} {k K : Bool} (h1 : S3 x y z X Y Z) (h : GivenR x y z a b c k) (g : GivenR X Y Z A B C K) : S3 a b c A B C ∧ k = K := by
  obtain ⟨e1, e2, e3⟩ := h
  obtain ⟨f1, f2, f3⟩ := g
  have hk : k = K := by rw [e1, f1, h1.fin]
  subst hk
  cases k
  · obtain ⟨rfl, rfl, rfl⟩ := e3 rfl
    obtain ⟨rfl, rfl, rfl⟩ := f3 rfl
    exact ⟨S3.refl _ _ _, rfl⟩
  · obtain ⟨rfl, rfl, rfl⟩ := e2 rfl
    obtain ⟨rfl, rfl, rfl⟩ := f2 rfl
    exact ⟨h1, rfl⟩
def CrossO (x y z x' y' z' a b c : Nat) (ok : Bool) : Prop :=
  ((fin3 x y z && fin3 x' y' z') = true ∧ ∃ p q r, CrossR x y z x' y' z' p q r ∧ GivenR p q r a b c ok) ∨ ((fin3 x y z && fin3 x' y' z') = false ∧ a = 0 ∧ b = 0 ∧ c = 0 ∧ ok = false)
theorem CrossO.same {x y z x' y' z' a b c X Y Z X' Y' Z' A B C : Nat} {k K : Bool} (h1 : S3 x y z X Y Z) (h2 : S3 x' y' z' X' Y' Z') (h : CrossO x y z x' y' z' a b c k) (g : CrossO X Y Z X' Y' Z' A B C K) : S3 a b c A B C ∧ k = K := by
  have e : (fin3 x y z && fin3 x' y' z') = (fin3 X Y Z && fin3 X' Y' Z') := by rw [h1.fin, h2.fin]
  rcases h with ⟨e1, p, q, r, hc, hg⟩ | ⟨e1, rfl, rfl, rfl, rfl⟩
  · rcases g with ⟨f1, P, Q, R, gc, gg⟩ | ⟨f1, _⟩
    · exact GivenR.same (CrossR.same h1 h2 hc gc) hg gg
    · rw [← e, e1] at f1; cases f1
  · rcases g with ⟨f1, _⟩ | ⟨f1, rfl, rfl, rfl, rfl⟩
    · rw [← e, e1] at f1; cases f1
    · exact ⟨S3.refl _ _ _, rfl⟩
def NumR (x r : Nat) (ok : Bool) : Prop := ok = fin .f32 x ∧ (ok = true → r = x) ∧ (ok = false → r = 0)
theorem NumR.same {x r X R : Nat} {k K : Bool} (h1 : FSame .f32 x X) (h : NumR x r k) (g : NumR X R K) : FSame .f32 r R ∧ k = K := by
  obtain ⟨e1, e2, e3⟩ := h
  obtain ⟨f1, f2, f3⟩ := g
  have hk : k = K := by rw [e1, f1, fin_same h1]
  subst hk
  cases k
  · rw [e3 rfl, f3 rfl]; exact ⟨FSame.refl _ _, rfl⟩
  · rw [e2 rfl, f2 rfl]; exact ⟨h1, rfl⟩
def LongO (x y z r : Nat) (ok : Bool) : Prop := (fin3 x y z = true ∧ ∃ d q, DotR x y z x y z d ∧ RootR d q ∧ NumR q r ok) ∨ (fin3 x y z = false ∧ r = 0 ∧ ok = false)
theorem LongO.same {x y z r X Y Z R : Nat} {k K : Bool} (h1 : S3 x y z X Y Z) (h : LongO x y z r k) (g : LongO X Y Z R K) : FSame .f32 r R ∧ k = K := by
  rcases h with ⟨e1, d, q, hd, hq, hn⟩ | ⟨e1, rfl, rfl⟩
  · rcases g with ⟨f1, D, Q, gd, gq, gn⟩ | ⟨f1, _⟩
    · exact NumR.same (rootR_same (DotR.same h1 h1 hd gd) hq gq) hn gn
    · rw [← h1.fin, e1] at f1; cases f1
  · rcases g with ⟨f1, _⟩ | ⟨f1, rfl, rfl⟩
    · rw [← h1.fin, e1] at f1; cases f1
    · exact ⟨FSame.refl _ _, rfl⟩

set_option maxRecDepth 100000 in
set_option maxHeartbeats 400000 in
theorem toSpot_calls (x y z : Nat) (w : World) : Calls Try.prog 111 #[.agg #[.float .f32 x, .float .f32 y, .float .f32 z]] w fun e w' => e = .returned (.agg #[.float .f32 x, .float .f32 y, .float .f32 z]) ∧ Below w.heap.size w w' := by
  go_enter Try.func111, Try.ntmps111
  go_wp2
  refine bodyPost_ret (v := .agg #[.float .f32 x, .float .f32 y, .float .f32 z]) (by simp [results, Try.results111, go_sem]) rfl ⟨rfl, ?_⟩
  exact b3 _ _ _ _ 0

set_option maxRecDepth 100000 in
set_option maxHeartbeats 400000 in
theorem isSpot_calls (x y z : Nat) (w : World) : Calls Try.prog 132 #[.agg #[.float .f32 x, .float .f32 y, .float .f32 z]] w fun e w' => e = .returned (.bool (fin3 x y z)) ∧ ∃ n, w' = (w.alloc (.cells #[.float .f32 x, .float .f32 y, .float .f32 z] 57)).drewN n := by
  cases hx : fin .f32 x <;> cases hy : fin .f32 y
  all_goals
    go_enter Try.func132, Try.ntmps132
    go_wp2_with (go_at_call 148; refine (isFinite_calls _ _).mono ?_; rintro e w' ⟨rfl, n, rfl⟩)
    go_ret
    exact ⟨ret_bool (by simp [fin3, hx, hy]), _, rfl⟩

set_option maxRecDepth 100000 in
set_option maxHeartbeats 400000 in
theorem l04Spot_calls (x y z : Nat) (w : World) : Calls Try.prog 138 #[.agg #[.float .f32 x, .float .f32 y, .float .f32 z]] w fun e w' => e = .returned (.bool (fin3 x y z)) ∧ ∃ n, w' = (w.alloc (.cells #[.float .f32 x, .float .f32 y, .float .f32 z] 57)).drewN n := by
  cases hx : fin .f32 x <;> cases hy : fin .f32 y
  all_goals
    go_enter Try.func138, Try.ntmps138
    go_wp2_with (go_at_call 144; refine (l01Finite_calls _ _).mono ?_; rintro e w' ⟨rfl, n, rfl⟩)
    go_ret
    exact ⟨ret_bool (by simp [fin3, hx, hy]), _, rfl⟩

set_option maxRecDepth 100000 in
set_option maxHeartbeats 400000 in
theorem spotIfFinite_calls (x y z : Nat) (w : World) : Calls Try.prog 90 #[.agg #[.float .f32 x, .float .f32 y, .float .f32 z]] w fun e w' => ∃ a b c ok n, e = .returned (.tuple #[.agg #[.float .f32 a, .float .f32 b, .float .f32 c], .bool ok]) ∧ GivenR x y z a b c ok ∧ w' = (((w.alloc (.cells #[.float .f32 x, .float .f32 y, .float .f32 z] 57)).alloc (.cells #[.float .f32 a, .float .f32 b, .float .f32 c] 57)).alloc (.cells #[.float .f32 x, .float .f32 y, .float .f32 z] 57)).drewN n := by
  cases hf : fin3 x y z
  all_goals
    go_enter Try.func90, Try.ntmps90
    go_wp2_with (go_at_call 132; refine (isSpot_calls _ _ _ _).mono ?_; rintro e w' ⟨rfl, n, rfl⟩; rw [hf])
  · refine bodyPost_ret (v := .tuple #[.agg #[.float .f32 0, .float .f32 0, .float .f32 0], .bool false]) (by simp [results, Try.results90, go_sem]) rfl ⟨_, _, _, _, _, rfl, ⟨hf.symm, fun h => (by cases h), fun _ => ⟨rfl, rfl, rfl⟩⟩, rfl⟩
  · refine bodyPost_ret (v := .tuple #[.agg #[.float .f32 x, .float .f32 y, .float .f32 z], .bool true]) (by simp [results, Try.results90, go_sem]) rfl ⟨_, _, _, _, _, rfl, ⟨hf.symm, fun _ => ⟨rfl, rfl, rfl⟩, fun h => (by cases h)⟩, rfl⟩

set_option maxRecDepth 100000 in
set_option maxHeartbeats 400000 in
theorem l04Given_calls (x y z : Nat) (w : World) : Calls Try.prog 87 #[.agg #[.float .f32 x, .float .f32 y, .float .f32 z]] w fun e w' => ∃ a b c ok n, e = .returned (.tuple #[.agg #[.float .f32 a, .float .f32 b, .float .f32 c], .bool ok]) ∧ GivenR x y z a b c ok ∧ w' = (((w.alloc (.cells #[.float .f32 x, .float .f32 y, .float .f32 z] 57)).alloc (.cells #[.float .f32 a, .float .f32 b, .float .f32 c] 57)).alloc (.cells #[.float .f32 x, .float .f32 y, .float .f32 z] 57)).drewN n := by
  cases hf : fin3 x y z
  all_goals
    go_enter Try.func87, Try.ntmps87
    go_wp2_with (go_at_call 138; refine (l04Spot_calls _ _ _ _).mono ?_; rintro e w' ⟨rfl, n, rfl⟩; rw [hf])
  · refine bodyPost_ret (v := .tuple #[.agg #[.float .f32 0, .float .f32 0, .float .f32 0], .bool false]) (by simp [results, Try.results87, go_sem]) rfl ⟨_, _, _, _, _, rfl, ⟨hf.symm, fun h => (by cases h), fun _ => ⟨rfl, rfl, rfl⟩⟩, rfl⟩
  · refine bodyPost_ret (v := .tuple #[.agg #[.float .f32 x, .float .f32 y, .float .f32 z], .bool true]) (by simp [results, Try.results87, go_sem]) rfl ⟨_, _, _, _, _, rfl, ⟨hf.symm, fun _ => ⟨rfl, rfl, rfl⟩, fun h => (by cases h)⟩, rfl⟩

set_option maxRecDepth 100000 in
set_option maxHeartbeats 400000 in
theorem less_calls (x y z x' y' z' : Nat) (w : World) : Calls Try.prog 150 #[.agg #[.float .f32 x, .float .f32 y, .float .f32 z], .agg #[.float .f32 x', .float .f32 y', .float .f32 z']] w fun e w' => ∃ a b c, e = .returned (.agg #[.float .f32 a, .float .f32 b, .float .f32 c]) ∧ LessR x y z x' y' z' a b c ∧ Below w.heap.size w w' := by
  go_enter Try.func150, Try.ntmps150
  go_wp2_with (refine wpList_arith rfl _ _ _ _ _ rfl rfl _ _ _ rfl rfl ?_; intro r n hr hl)
  rename_i r1 n1 hr1 hl1 r2 n2 hr2 hl2
  refine bodyPost_ret (v := .agg #[.float .f32 r1, .float .f32 r2, .float .f32 r]) (by simp [results, Try.results150, go_sem]) rfl ⟨_, _, _, rfl, ⟨hr1, hr2, hr⟩, ?_⟩
  exact b3 _ _ _ _ _

set_option maxRecDepth 100000 in
set_option maxHeartbeats 400000 in
theorem l04Less_calls (x y z x' y' z' : Nat) (w : World) : Calls Try.prog 103 #[.agg #[.float .f32 x, .float .f32 y, .float .f32 z], .agg #[.float .f32 x', .float .f32 y', .float .f32 z']] w fun e w' => ∃ a b c, e = .returned (.agg #[.float .f32 a, .float .f32 b, .float .f32 c]) ∧ LessR x y z x' y' z' a b c ∧ Below w.heap.size w w' := by
  go_enter Try.func103, Try.ntmps103
  go_wp2_with (refine wpList_arith rfl _ _ _ _ _ rfl rfl _ _ _ rfl rfl ?_; intro r n hr hl)
  rename_i r1 n1 hr1 hl1 r2 n2 hr2 hl2
  refine bodyPost_ret (v := .agg #[.float .f32 r1, .float .f32 r2, .float .f32 r]) (by simp [results, Try.results103, go_sem]) rfl ⟨_, _, _, rfl, ⟨hr1, hr2, hr⟩, ?_⟩
  exact b3 _ _ _ _ _

set_option maxRecDepth 100000 in
set_option maxHeartbeats 400000 in
theorem plus_calls (x y z x' y' z' : Nat) (w : World) : Calls Try.prog 120 #[.agg #[.float .f32 x, .float .f32 y, .float .f32 z], .agg #[.float .f32 x', .float .f32 y', .float .f32 z']] w fun e w' => ∃ a b c, e = .returned (.agg #[.float .f32 a, .float .f32 b, .float .f32 c]) ∧ PlusR x y z x' y' z' a b c ∧ Below w.heap.size w w' := by
  go_enter Try.func120, Try.ntmps120
  go_wp2_with (refine wpList_arith rfl _ _ _ _ _ rfl rfl _ _ _ rfl rfl ?_; intro r n hr hl)
  rename_i r1 n1 hr1 hl1 r2 n2 hr2 hl2
  refine bodyPost_ret (v := .agg #[.float .f32 r1, .float .f32 r2, .float .f32 r]) (by simp [results, Try.results120, go_sem]) rfl ⟨_, _, _, rfl, ⟨hr1, hr2, hr⟩, ?_⟩
  exact b3 _ _ _ _ _

set_option maxRecDepth 100000 in
set_option maxHeartbeats 400000 in
theorem l04Add_calls (x y z x' y' z' : Nat) (w : World) : Calls Try.prog 110 #[.agg #[.float .f32 x, .float .f32 y, .float .f32 z], .agg #[.float .f32 x', .float .f32 y', .float .f32 z']] w fun e w' => ∃ a b c, e = .returned (.agg #[.float .f32 a, .float .f32 b, .float .f32 c]) ∧ PlusR x y z x' y' z' a b c ∧ Below w.heap.size w w' := by
  go_enter Try.func110, Try.ntmps110
  go_wp2_with (refine wpList_arith rfl _ _ _ _ _ rfl rfl _ _ _ rfl rfl ?_; intro r n hr hl)
  rename_i r1 n1 hr1 hl1 r2 n2 hr2 hl2
  refine bodyPost_ret (v := .agg #[.float .f32 r1, .float .f32 r2, .float .f32 r]) (by simp [results, Try.results110, go_sem]) rfl ⟨_, _, _, rfl, ⟨hr1, hr2, hr⟩, ?_⟩
  exact b3 _ _ _ _ _

set_option maxRecDepth 100000 in
set_option maxHeartbeats 400000 in
theorem dotOfSpots_calls (x y z x' y' z' : Nat) (w : World) : Calls Try.prog 147 #[.agg #[.float .f32 x, .float .f32 y, .float .f32 z], .agg #[.float .f32 x', .float .f32 y', .float .f32 z']] w fun e w' => ∃ r, e = .returned (.float .f32 r) ∧ DotR x y z x' y' z' r ∧ r < 2 ^ FloatKind.f32.format.width ∧ Below w.heap.size w w' := by
  go_enter Try.func147, Try.ntmps147
  go_wp2_with (refine wpList_arith rfl _ _ _ _ _ rfl rfl _ _ _ rfl rfl ?_; intro r n hr hl)
  rename_i r1 n1 hr1 hl1 r2 n2 hr2 hl2 r3 n3 hr3 hl3 r4 n4 hr4 hl4
  go_ret
  exact ⟨_, rfl, ⟨_, _, _, _, hr1, hr2, hr4, hr3, hr⟩, hl, b2 _ _ _ _⟩

set_option maxRecDepth 100000 in
set_option maxHeartbeats 400000 in
theorem l04Dot_calls (x y z x' y' z' : Nat) (w : World) : Calls Try.prog 98 #[.agg #[.float .f32 x, .float .f32 y, .float .f32 z], .agg #[.float .f32 x', .float .f32 y', .float .f32 z']] w fun e w' => ∃ r, e = .returned (.float .f32 r) ∧ DotR x y z x' y' z' r ∧ r < 2 ^ FloatKind.f32.format.width ∧ Below w.heap.size w w' := by
  go_enter Try.func98, Try.ntmps98
  go_wp2_with (refine wpList_arith rfl _ _ _ _ _ rfl rfl _ _ _ rfl rfl ?_; intro r n hr hl)
  rename_i r1 n1 hr1 hl1 r2 n2 hr2 hl2 r3 n3 hr3 hl3 r4 n4 hr4 hl4
  go_ret
  exact ⟨_, rfl, ⟨_, _, _, _, hr1, hr2, hr4, hr3, hr⟩, hl, b2 _ _ _ _⟩

set_option maxRecDepth 100000 in
set_option maxHeartbeats 400000 in
theorem eqSpot_calls (x y z x' y' z' : Nat) (h : S3 x y z x' y' z') (w : World) : Calls Try.prog 39 #[.agg #[.float .f32 x, .float .f32 y, .float .f32 z], .agg #[.float .f32 x', .float .f32 y', .float .f32 z']] w fun e w' => e = .returned (.bool true) ∧ Below w.heap.size w w' := by
  obtain ⟨h1, h2, h3⟩ := h
  go_enter Try.func39, Try.ntmps39
  go_wp2_with (first | (refine wpList_conv rfl _ _ _ rfl .f32 .f64 (by decide) (.inl rfl) _ rfl (by kernel_rfl) (by kernel_rfl) ?_; intro r n hr hl) | (go_at_call 44; refine (sameFloat_calls _ _ (by first | exact wide_pair h1 (by with_reducible assumption) (by with_reducible assumption) | exact wide_pair h2 (by with_reducible assumption) (by with_reducible assumption) | exact wide_pair h3 (by with_reducible assumption) (by with_reducible assumption)) _).mono ?_; rintro e w' ⟨rfl, n, rfl⟩))
  go_ret
  exact ⟨rfl, b2 _ _ _ _⟩

end Go.Proofs.Ytnbgnaenlbphcaa
