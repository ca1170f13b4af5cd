/-
  BoxOfSpots: the lesser and the greater of two numbers, lists of spots, what both sides reckon.
-/
import Derived.Test.YtbikiihcbocojaaKp
import Derived.StillTailTactics
import Derived.Deep.DeepCutAuto
import Derived.BigRegion
namespace Go.Proofs.Ytbikiihcbocojaa
open Go.RowKit Fl Go.WideShapes Go.Deep
attribute [local go_sem] kstore_f kalloc_drewN kset_drewN

def ltF (x y : Nat) : Bool := FloatKind.f32.format.order x y == some Ordering.lt
def grF (x y : Nat) : Bool := FloatKind.f32.format.order x y == some Ordering.gt
def selL (a b : Nat) : Nat := if ltF b a = true then b else a
def selG (a b : Nat) : Nat := if grF b a = true then b else a
theorem selL_self (a : Nat) : selL a a = a := by unfold selL; split <;> rfl
theorem selG_self (a : Nat) : selG a a = a := by unfold selG; split <;> rfl
def lowT (f : Nat → Nat) : Nat → Nat
  | 0 => f 0
  | k + 1 => selL (lowT f k) (f k)
def highT (f : Nat → Nat) : Nat → Nat
  | 0 => f 0
  | k + 1 => selG (highT f k) (f k)
theorem lowT_one (f : Nat → Nat) : lowT f 1 = f 0 := selL_self _
theorem highT_one (f : Nat → Nat) : highT f 1 = f 0 := selG_self _

set_option maxRecDepth 100000 in
theorem lesser_calls (a b : Nat) (w : World) : Calls Try.prog 74 #[.float .f32 a, .float .f32 b] w fun e w' => e = .returned (.float .f32 (selL a b)) ∧ w = w' := by
  unfold selL
  cases h : ltF b a <;> unfold ltF at h
  all_goals
    go_enter Try.func74, Try.ntmps74
    go_wp2_with fail
    go_ret
    exact ⟨by simp, rfl⟩
set_option maxRecDepth 100000 in
theorem l04Low_calls (a b : Nat) (w : World) : Calls Try.prog 71 #[.float .f32 a, .float .f32 b] w fun e w' => e = .returned (.float .f32 (selL a b)) ∧ w = w' := by
  unfold selL
  cases h : ltF b a <;> unfold ltF at h
  all_goals
    go_enter Try.func71, Try.ntmps71
    go_wp2_with fail
    go_ret
    exact ⟨by simp, rfl⟩
set_option maxRecDepth 100000 in
theorem greater_calls (a b : Nat) (w : World) : Calls Try.prog 75 #[.float .f32 a, .float .f32 b] w fun e w' => e = .returned (.float .f32 (selG a b)) ∧ w = w' := by
  unfold selG
  cases h : grF b a <;> unfold grF at h
  all_goals
    go_enter Try.func75, Try.ntmps75
    go_wp2_with fail
    go_ret
    exact ⟨by simp, rfl⟩
set_option maxRecDepth 100000 in
theorem l04High_calls (a b : Nat) (w : World) : Calls Try.prog 72 #[.float .f32 a, .float .f32 b] w fun e w' => e = .returned (.float .f32 (selG a b)) ∧ w = w' := by
  unfold selG
  cases h : grF b a <;> unfold grF at h
  all_goals
    go_enter Try.func72, Try.ntmps72
    go_wp2_with fail
    go_ret
    exact ⟨by simp, rfl⟩

/-- What is a list of spots. -/
def listB (xs : List (Nat × Nat × Nat)) : Bool := decide (1 ≤ xs.length) && decide (xs.length ≤ 256) && finS xs

set_option maxRecDepth 100000 in
set_option maxHeartbeats 1000000 in
theorem isList_calls (A : Option Addr) (xs : List (Nat × Nat × Nat)) (c : Nat) (w : World) (hn : xs.length ≤ 1048576) (hA : RdS w A xs) :
    Calls Try.prog 73 #[.slice A xs.length c] w fun e w' => e = .returned (.bool (listB xs)) ∧ Below w.heap.size w w' := by
  have HC := Frame.hid (areSpots_calls A xs c w hn hA)
  obtain ⟨n, hxn⟩ : ∃ n, n = xs.length := ⟨_, rfl⟩
  have hq : listB xs = (decide (1 ≤ n) && decide (n ≤ 256) && finS xs) := by rw [hxn]; rfl
  rw [hq]
  rw [← hxn] at hn HC ⊢
  clear hxn hA hq
  by_cases h1 : 1 ≤ n <;> by_cases h2 : n ≤ 256
  all_goals
    go_enter Try.func73, Try.ntmps73
    go_wp2_with (go_at_call 111; refine HC.out.mono ?_; rintro e w' ⟨rfl, hB⟩)
    all_goals go_ret
    all_goals first | exact ⟨ret_bool rfl, Below.refl _ _⟩ | exact ⟨ret_bool (by simp [h1, h2]), hB⟩ | exact ⟨rfl, hB⟩

set_option maxRecDepth 100000 in
set_option maxHeartbeats 1000000 in
theorem l04List_calls (A : Option Addr) (xs : List (Nat × Nat × Nat)) (c : Nat) (w : World) (hn : xs.length ≤ 1048576) (hA : RdS w A xs) :
    Calls Try.prog 70 #[.slice A xs.length c] w fun e w' => e = .returned (.bool (listB xs)) ∧ Below w.heap.size w w' := by
  have HC := Frame.hid (l04Spots_calls A xs c w hn hA)
  obtain ⟨n, hxn⟩ : ∃ n, n = xs.length := ⟨_, rfl⟩
  have hq : listB xs = (decide (1 ≤ n) && decide (n ≤ 256) && finS xs) := by rw [hxn]; rfl
  rw [hq]
  rw [← hxn] at hn HC ⊢
  clear hxn hA hq
  by_cases h1 : 1 ≤ n <;> by_cases h2 : n ≤ 256
  all_goals
    go_enter Try.func70, Try.ntmps70
    go_wp2_with (go_at_call 98; refine HC.out.mono ?_; rintro e w' ⟨rfl, hB⟩)
    all_goals go_ret
    all_goals first | exact ⟨ret_bool rfl, Below.refl _ _⟩ | exact ⟨ret_bool (by simp [h1, h2]), hB⟩ | exact ⟨rfl, hB⟩

/-- Two blocks of the call's own, and the two blocks of the results, not written yet. -/
structure BoxI (w wr : World) (g h a b c a' b' c' : Nat) : Prop where
  r2 : New wr w.heap.size
  r3 : New wr (w.heap.size + 1)
  lo : At3 wr g a b c
  hi : At3 wr h a' b' c'
  f5 : ∀ i, wr.frozen? ⟨g, i, none⟩ = false
  f6 : ∀ i, wr.frozen? ⟨h, i, none⟩ = false
  g1 : w.heap.size + 1 < g
  h1 : w.heap.size + 1 < h
  ne : g ≠ h
  gl : g < wr.heap.size
  hl : h < wr.heap.size
  bel : Below w.heap.size w wr
theorem BoxI.go {w wr w' : World} {g h a b c a' b' c' : Nat} (x : BoxI w wr g h a b c a' b' c') (hB : Below wr.heap.size wr w') : BoxI w w' g h a b c a' b' c' :=
  ⟨x.r2.go hB, x.r3.go hB, x.lo.keep hB x.gl, x.hi.keep hB x.hl, fun i => (hB.frozen x.gl).trans (x.f5 i), fun i => (hB.frozen x.hl).trans (x.f6 i), x.g1, x.h1, x.ne, Nat.lt_of_lt_of_le x.gl hB.size, Nat.lt_of_lt_of_le x.hl hB.size, x.bel.trans (hB.mono x.bel.size)⟩
theorem cell_set_ne {w : World} {g k i j : Nat} (u : Value) (h : k ≠ g) : (w.setCell ⟨k, i, none⟩ u).cell? ⟨g, j, none⟩ = w.cell? ⟨g, j, none⟩ :=
  World.cell?_setCell_other _ _ _ _ (fun e => h (by injection e))
theorem At3.other {w : World} {g k i a b c : Nat} {u : Value} (x : At3 w g a b c) (h : k ≠ g) : At3 (w.setCell ⟨k, i, none⟩ u) g a b c :=
  ⟨(cell_set_ne u h).trans x.c0, (cell_set_ne u h).trans x.c1, (cell_set_ne u h).trans x.c2⟩
theorem New.other {w : World} {g k i : Nat} {u : Value} (x : New w g) (h : k ≠ g) : New (w.setCell ⟨k, i, none⟩ u) g :=
  ⟨x.a.other h, fun j => by rw [World.frozen?_setCell]; exact x.f j, by simpa using x.l⟩
theorem At3.put {w : World} {g a b c : Nat} (x : At3 w g a b c) (p q r : Nat) : At3 (((w.setCell ⟨g, 0, none⟩ (.float .f32 p)).setCell ⟨g, 1, none⟩ (.float .f32 q)).setCell ⟨g, 2, none⟩ (.float .f32 r)) g p q r := by
  obtain ⟨h1, h2, h3⟩ := x
  refine ⟨?_, ?_, ?_⟩
  · rw [World.cell?_setCell_other _ _ _ _ (by simp), World.cell?_setCell_other _ _ _ _ (by simp)]
    exact World.cell?_setCell_same' _ _ _ (by rw [h1]; rfl)
  · rw [World.cell?_setCell_other _ _ _ _ (by simp)]
    exact World.cell?_setCell_same' _ _ _ (by rw [World.cell?_setCell_other _ _ _ _ (by simp), h2]; rfl)
  · exact World.cell?_setCell_same' _ _ _ (by rw [World.cell?_setCell_other _ _ _ _ (by simp), World.cell?_setCell_other _ _ _ _ (by simp), h3]; rfl)
theorem BoxI.low {w wr : World} {g h a b c a' b' c' : Nat} (x : BoxI w wr g h a b c a' b' c') (p q r : Nat) : BoxI w (((wr.setCell ⟨g, 0, none⟩ (.float .f32 p)).setCell ⟨g, 1, none⟩ (.float .f32 q)).setCell ⟨g, 2, none⟩ (.float .f32 r)) g h p q r a' b' c' := by
  have e1 : g ≠ w.heap.size := by have := x.g1; omega
  have e2 : g ≠ w.heap.size + 1 := by have := x.g1; omega
  refine ⟨((x.r2.other e1).other e1).other e1, ((x.r3.other e2).other e2).other e2, x.lo.put p q r, ((x.hi.other x.ne).other x.ne).other x.ne, fun i => by simp only [World.frozen?_setCell]; exact x.f5 i, fun i => by simp only [World.frozen?_setCell]; exact x.f6 i, x.g1, x.h1, x.ne, by simpa using x.gl, by simpa using x.hl, ?_⟩
  have h0 : w.heap.size ≤ g := by have := x.g1; omega
  exact ((x.bel.setCell (p := ⟨g, 0, none⟩) h0 _).setCell (p := ⟨g, 1, none⟩) h0 _).setCell (p := ⟨g, 2, none⟩) h0 _
theorem BoxI.high {w wr : World} {g h a b c a' b' c' : Nat} (x : BoxI w wr g h a b c a' b' c') (p q r : Nat) : BoxI w (((wr.setCell ⟨h, 0, none⟩ (.float .f32 p)).setCell ⟨h, 1, none⟩ (.float .f32 q)).setCell ⟨h, 2, none⟩ (.float .f32 r)) g h a b c p q r := by
  have e1 : h ≠ w.heap.size := by have := x.h1; omega
  have e2 : h ≠ w.heap.size + 1 := by have := x.h1; omega
  have e3 : h ≠ g := fun e => x.ne e.symm
  refine ⟨((x.r2.other e1).other e1).other e1, ((x.r3.other e2).other e2).other e2, ((x.lo.other e3).other e3).other e3, x.hi.put p q r, fun i => by simp only [World.frozen?_setCell]; exact x.f5 i, fun i => by simp only [World.frozen?_setCell]; exact x.f6 i, x.g1, x.h1, x.ne, by simpa using x.gl, by simpa using x.hl, ?_⟩
  have h0 : w.heap.size ≤ h := by have := x.h1; omega
  exact ((x.bel.setCell (p := ⟨h, 0, none⟩) h0 _).setCell (p := ⟨h, 1, none⟩) h0 _).setCell (p := ⟨h, 2, none⟩) h0 _

theorem BoxI.start {w W : World} {x y z : Nat} (n2 : New W w.heap.size) (n3 : New W (w.heap.size + 1)) (hB : Below w.heap.size w W) (t : TypeId) :
    BoxI w ((W.alloc (.cells #[.float .f32 x, .float .f32 y, .float .f32 z] t)).alloc (.cells #[.float .f32 x, .float .f32 y, .float .f32 z] t)) W.heap.size (W.heap.size + 1) x y z x y z := by
  have hA : Below W.heap.size W ((W.alloc (.cells #[.float .f32 x, .float .f32 y, .float .f32 z] t)).alloc (.cells #[.float .f32 x, .float .f32 y, .float .f32 z] t)) := ((Below.refl _ _).alloc (Nat.le_refl _) _).alloc (by simp) _
  refine ⟨n2.go hA, n3.go hA, (At3.here W x y z t).keep ((Below.refl _ _).alloc (Nat.le_refl _) _) (by simp), ?_, fun i => ?_, fun i => ?_, n3.l, by have := n3.l; omega, by omega, by simp; omega, by simp, hB.trans (hA.mono hB.size)⟩
  · have h := At3.here (W.alloc (.cells #[.float .f32 x, .float .f32 y, .float .f32 z] t)) x y z t
    rwa [World.size_alloc] at h
  · simp [go_sem]
  · simp [go_sem]
theorem two_res {W : World} {p q : Nat} (n2 : New W p) (n3 : New W q) (h : p ≠ q) (a b c a' b' c' : Nat) :
    At3 ((((((W.setCell ⟨p, 0, none⟩ (.float .f32 a)).setCell ⟨p, 1, none⟩ (.float .f32 b)).setCell ⟨p, 2, none⟩ (.float .f32 c)).setCell ⟨q, 0, none⟩ (.float .f32 a')).setCell ⟨q, 1, none⟩ (.float .f32 b')).setCell ⟨q, 2, none⟩ (.float .f32 c')) p a b c ∧
      At3 ((((((W.setCell ⟨p, 0, none⟩ (.float .f32 a)).setCell ⟨p, 1, none⟩ (.float .f32 b)).setCell ⟨p, 2, none⟩ (.float .f32 c)).setCell ⟨q, 0, none⟩ (.float .f32 a')).setCell ⟨q, 1, none⟩ (.float .f32 b')).setCell ⟨q, 2, none⟩ (.float .f32 c')) q a' b' c' := by
  have h' : q ≠ p := fun e => h e.symm
  exact ⟨(((At3.set n2 a b c).other h').other h').other h', At3.set (((n3.other h).other h).other h) a' b' c'⟩
theorem two_below {w W : World} {p q : Nat} (hB : Below w.heap.size w W) (hp : w.heap.size ≤ p) (hq : w.heap.size ≤ q) (a b c a' b' c' : Value) :
    Below w.heap.size w ((((((W.setCell ⟨p, 0, none⟩ a).setCell ⟨p, 1, none⟩ b).setCell ⟨p, 2, none⟩ c).setCell ⟨q, 0, none⟩ a').setCell ⟨q, 1, none⟩ b').setCell ⟨q, 2, none⟩ c') :=
  (((((hB.setCell (p := ⟨p, 0, none⟩) hp _).setCell (p := ⟨p, 1, none⟩) hp _).setCell (p := ⟨p, 2, none⟩) hp _).setCell (p := ⟨q, 0, none⟩) hq _).setCell (p := ⟨q, 1, none⟩) hq _).setCell (p := ⟨q, 2, none⟩) hq _

/-- What both give. -/
def BoxR (xs : List (Nat × Nat × Nat)) (a b c a' b' c' : Nat) (ok : Bool) : Prop :=
  (listB xs = true ∧ ok = true ∧ a = lowT (sx xs) xs.length ∧ b = lowT (sy xs) xs.length ∧ c = lowT (sz xs) xs.length ∧ a' = highT (sx xs) xs.length ∧ b' = highT (sy xs) xs.length ∧ c' = highT (sz xs) xs.length) ∨
  (listB xs = false ∧ ok = false ∧ a = 0 ∧ b = 0 ∧ c = 0 ∧ a' = 0 ∧ b' = 0 ∧ c' = 0)

set_option maxRecDepth 100000 in
set_option maxHeartbeats 4000000 in
theorem specBox_calls (A : Option Addr) (xs : List (Nat × Nat × Nat)) (cc : Nat) (w : World) (hn : xs.length ≤ 1048576) (hA : RdS w A xs) :
    Calls Try.prog 28 #[.slice A xs.length cc] w fun e w' => ∃ a b c a' b' c' ok, e = .returned (.tuple #[.agg #[.float .f32 a, .float .f32 b, .float .f32 c], .agg #[.float .f32 a', .float .f32 b', .float .f32 c'], .bool ok]) ∧ BoxR xs a b c a' b' c' ok ∧ Below w.heap.size w w' := by
  have hw0 : Below w.heap.size w ((w.alloc (.cells #[.float .f32 0, .float .f32 0, .float .f32 0] 35)).alloc (.cells #[.float .f32 0, .float .f32 0, .float .f32 0] 35)) := by (apply bel_of; (repeat (first | apply below_dn | apply below_al)); exact below_st _)
  have HC := Frame.hid (l04List_calls A xs cc _ hn (hA.below hw0))
  have hR2 : New ((w.alloc (.cells #[.float .f32 0, .float .f32 0, .float .f32 0] 35)).alloc (.cells #[.float .f32 0, .float .f32 0, .float .f32 0] 35)) w.heap.size := (New.here w 35).go ((Below.refl _ _).alloc (Nat.le_refl _) _)
  have hR3 : New ((w.alloc (.cells #[.float .f32 0, .float .f32 0, .float .f32 0] 35)).alloc (.cells #[.float .f32 0, .float .f32 0, .float .f32 0] 35)) (w.heap.size + 1) := by
    have h := New.here (w.alloc (.cells #[.float .f32 0, .float .f32 0, .float .f32 0] 35)) 35
    rwa [World.size_alloc] at h
  have HR := Frame.hid (And.intro hR2 hR3)
  have HW := Frame.hid hw0
  clear hw0 hR2 hR3
  cases hl : listB xs
  · have HL := Frame.hid hl
    clear hl
    generalize xs.length = n at *
    go_enter Try.func28, Try.ntmps28
    go_wp2_with fail
    refine HC.out.mono ?_
    rintro e w1 ⟨rfl, hB⟩
    rw [HL.out]
    have n2 := HR.out.1.go hB
    have n3 := HR.out.2.go hB
    have a0 := n2.a.c0
    have a1 := n2.a.c1
    have a2 := n2.a.c2
    have b0 := n3.a.c0
    have b1 := n3.a.c1
    have b2 := n3.a.c2
    have nf := n2.f
    have mf := n3.f
    go_wp2_with fail
    obtain ⟨⟨e0, e1, e2⟩, ⟨e3, e4, e5⟩⟩ := two_res n2 n3 (by omega) 0 0 0 0 0 0
    refine bodyPost_ret (v := .tuple #[.agg #[.float .f32 0, .float .f32 0, .float .f32 0], .agg #[.float .f32 0, .float .f32 0, .float .f32 0], .bool false]) (by simp [results, Try.results28, go_sem, e0, e1, e2, e3, e4, e5]) rfl ⟨_, _, _, _, _, _, _, rfl, .inr ⟨HL.out, rfl, rfl, rfl, rfl, rfl, rfl, rfl⟩, ?_⟩
    exact two_below (HW.out.trans (hB.mono HW.out.size)) (Nat.le_refl _) (by omega) _ _ _ _ _ _
  · have HL := Frame.hid hl
    obtain ⟨h1, h2⟩ : 1 ≤ xs.length ∧ xs.length ≤ 256 := by unfold listB at hl; simp at hl; omega
    obtain ⟨b, off, rfl, hb, hc⟩ := hA.h (by omega)
    have HCC := Frame.hid hc
    obtain ⟨n, hxn⟩ : ∃ n, n = xs.length := ⟨_, rfl⟩
    have HX := Frame.hid hxn
    rw [← hxn] at HC h1 h2 hn ⊢
    clear hl hA hc hxn
    go_enter Try.func28, Try.ntmps28
    go_wp2_with fail
    refine HC.out.mono ?_
    rintro e w1 ⟨rfl, hB⟩
    rw [HL.out]
    have n2 := HR.out.1.go hB
    have n3 := HR.out.2.go hB
    have hBw := HW.out.trans (hB.mono HW.out.size)
    have q0 := (HCC.out 0 (by have := HX.out; omega)).keep hBw hb
    have c0 := q0.c0
    have c1 := q0.c1
    have c2 := q0.c2
    rw [Nat.zero_mul, Nat.add_zero] at c0 c1 c2
    have HN := Frame.hid (And.intro n2 n3)
    have HBW := Frame.hid hBw
    have HS1 := Frame.hid hB.size
    obtain ⟨x, hx⟩ : ∃ x, x = sx xs 0 := ⟨_, rfl⟩
    obtain ⟨y, hy⟩ : ∃ y, y = sy xs 0 := ⟨_, rfl⟩
    obtain ⟨z, hz⟩ : ∃ z, z = sz xs 0 := ⟨_, rfl⟩
    rw [← hx] at c0
    rw [← hy] at c1
    rw [← hz] at c2
    have HXYZ := Frame.hid (And.intro hx (And.intro hy hz))
    have hbl : b < w1.heap.size := Nat.lt_of_lt_of_le hb hBw.size
    clear n2 n3 hBw hB q0 hx hy hz
    go_wp2_with fail
    have hI := BoxI.start (x := x) (y := y) (z := z) HN.out.1 HN.out.2 HBW.out 35
    generalize hW2 : (w1.alloc (.cells #[.float .f32 x, .float .f32 y, .float .f32 z] 35)).alloc (.cells #[.float .f32 x, .float .f32 y, .float .f32 z] 35) = w2 at hI ⊢
    have HI := Frame.hid hI
    clear hI hW2 c0 c1 c2
    generalize hG : w1.heap.size = g at HI ⊢
    clear hG
    go_loopw [7] (fun i wr => ∃ k : Nat, k + 1 ≤ n ∧ i = .int .i64 ((k : Int) + 1) ∧ BoxI w wr g (g + 1) (lowT (sx xs) (k + 1)) (lowT (sy xs) (k + 1)) (lowT (sz xs) (k + 1)) (highT (sx xs) (k + 1)) (highT (sy xs) (k + 1)) (highT (sz xs) (k + 1))) (fun i _ => n + 1 - (intOf i).toNat)
    case atStart =>
      obtain ⟨rfl, rfl, rfl⟩ := HXYZ.out
      refine ⟨0, by omega, rfl, ?_⟩
      simp only [Nat.zero_add, lowT_one, highT_one]
      exact HI.out
    case round =>
      obtain ⟨k, hk, rfl, hI⟩ := hrel
      clear HI HXYZ HN HBW HS1
      by_cases hlt : k + 1 < n
      · have q0 := (HCC.out (k + 1) (by have := HX.out; omega)).keep hI.bel hb
        have c0 := q0.c0
        have c1 := q0.c1
        have c2 := q0.c2
        have HST : Hid (∀ f : Nat → Nat, lowT f (k + 1 + 1) = selL (lowT f (k + 1)) (f (k + 1)) ∧ highT f (k + 1 + 1) = selG (highT f (k + 1)) (f (k + 1))) := Frame.hid (fun f => ⟨rfl, rfl⟩)
        have s1 := (HST.out (sx xs)).1
        have s2 := (HST.out (sy xs)).1
        have s3 := (HST.out (sz xs)).1
        have s4 := (HST.out (sx xs)).2
        have s5 := (HST.out (sy xs)).2
        have s6 := (HST.out (sz xs)).2
        generalize lowT (sx xs) (k + 1) = a at hI s1
        generalize lowT (sy xs) (k + 1) = b1 at hI s2
        generalize lowT (sz xs) (k + 1) = c at hI s3
        generalize highT (sx xs) (k + 1) = a' at hI s4
        generalize highT (sy xs) (k + 1) = b' at hI s5
        generalize highT (sz xs) (k + 1) = c' at hI s6
        generalize sx xs (k + 1) = x at c0 s1 s4
        generalize sy xs (k + 1) = y at c1 s2 s5
        generalize sz xs (k + 1) = z at c2 s3 s6
        have HS := Frame.hid (And.intro s1 (And.intro s2 (And.intro s3 (And.intro s4 (And.intro s5 s6)))))
        have p0 : (0 : Int) ≤ (k : Int) + 1 := by omega
        have p1 : (k : Int) + 1 < (n : Int) := by omega
        have p2 : ((k : Int) + 1).toNat = k + 1 := by omega
        have p3 : ¬ ((k : Int) + 1 < 0) := by omega
        have HI := Frame.hid hI
        clear s1 s2 s3 s4 s5 s6 HST q0 hI
        go_wp2_with fail
        have hJ := HI.out.go ((Below.refl _ _).alloc (Nat.le_refl _) (.cells #[.float .f32 x, .float .f32 y, .float .f32 z] 35))
        have hP := At3.here wr x y z 35
        have hl : wr.heap.size < (wr.alloc (.cells #[.float .f32 x, .float .f32 y, .float .f32 z] 35)).heap.size := by simp
        have hgp := HI.out.gl
        have hhp := HI.out.hl
        generalize hW3 : wr.alloc (.cells #[.float .f32 x, .float .f32 y, .float .f32 z] 35) = w3 at hJ hP hl ⊢
        generalize hPP : wr.heap.size = p at hP hl hgp hhp ⊢
        have j0 := hJ.lo.c0
        have j1 := hJ.lo.c1
        have j2 := hJ.lo.c2
        have P0 := hP.c0
        have P1 := hP.c1
        have P2 := hP.c2
        have HJ := Frame.hid (hJ.go (Below.refl _ _).drew)
        have HP := Frame.hid (hP.keep (w' := w3.drew) (Below.refl w3.heap.size w3).drew hl)
        have HPL : Hid (p < w3.drew.heap.size) := Frame.hid hl
        clear hJ hP hW3 hPP HI c0 c1 c2 hl
        go_still_tail 16, (by kernel_rfl)
        still_call ((l04Low_calls _ _ _).mono fun _ _ h => ⟨h.1, h.2.symm⟩)
        repeat still_step
        still_call ((l04Low_calls _ _ _).mono fun _ _ h => ⟨h.1, h.2.symm⟩)
        repeat still_step
        still_call ((l04Low_calls _ _ _).mono fun _ _ h => ⟨h.1, h.2.symm⟩)
        repeat still_step
        refine wpStill_nil ?_
        clear j0 j1 j2 P0 P1 P2
        change wpList _ _ _ _ _ w3.drew
        generalize w3.drew = w4 at HJ HP HPL ⊢
        have j0 := HJ.out.lo.c0
        have j1 := HJ.out.lo.c1
        have j2 := HJ.out.lo.c2
        have jf := HJ.out.f5
        go_wp2_with fail
        have hJ := HJ.out.low (selL a x) (selL b1 y) (selL c z)
        have hP := HP.out.other (k := g) (i := 0) (u := .float .f32 (selL a x)) (by omega)
        have hP := hP.other (k := g) (i := 1) (u := .float .f32 (selL b1 y)) (by omega)
        have hP := hP.other (k := g) (i := 2) (u := .float .f32 (selL c z)) (by omega)
        have hl : p < (((w4.setCell ⟨g, 0, none⟩ (.float .f32 (selL a x))).setCell ⟨g, 1, none⟩ (.float .f32 (selL b1 y))).setCell ⟨g, 2, none⟩ (.float .f32 (selL c z))).heap.size := by simpa using HPL.out
        generalize hW5 : ((w4.setCell ⟨g, 0, none⟩ (.float .f32 (selL a x))).setCell ⟨g, 1, none⟩ (.float .f32 (selL b1 y))).setCell ⟨g, 2, none⟩ (.float .f32 (selL c z)) = w5 at hJ hP hl ⊢
        clear j0 j1 j2 jf hW5 HJ HP HPL
        have j0 := hJ.hi.c0
        have j1 := hJ.hi.c1
        have j2 := hJ.hi.c2
        have P0 := hP.c0
        have P1 := hP.c1
        have P2 := hP.c2
        have HJ := Frame.hid (hJ.go (Below.refl _ _).drew)
        clear hJ hP hl
        go_still_tail 16, (by kernel_rfl)
        still_call ((l04High_calls _ _ _).mono fun _ _ h => ⟨h.1, h.2.symm⟩)
        repeat still_step
        still_call ((l04High_calls _ _ _).mono fun _ _ h => ⟨h.1, h.2.symm⟩)
        repeat still_step
        still_call ((l04High_calls _ _ _).mono fun _ _ h => ⟨h.1, h.2.symm⟩)
        repeat still_step
        refine wpStill_nil ?_
        clear j0 j1 j2 P0 P1 P2
        change wpList _ _ _ _ _ w5.drew
        generalize w5.drew = w6 at HJ ⊢
        have j0 := HJ.out.hi.c0
        have j1 := HJ.out.hi.c1
        have j2 := HJ.out.hi.c2
        have jf := HJ.out.f6
        go_wp2_with fail
        go_roundw
        case rel =>
          obtain ⟨s1, s2, s3, s4, s5, s6⟩ := HS.out
          refine ⟨k + 1, by omega, by go_num, ?_⟩
          rw [s1, s2, s3, s4, s5, s6]
          exact HJ.out.high _ _ _
        case measure => simp [intOf]; omega
      · have hkn : k + 1 = n := by omega
        have HI := Frame.hid hI
        have HKN := Frame.hid hkn
        have i0 := hI.lo.c0
        have i1 := hI.lo.c1
        have i2 := hI.lo.c2
        have i3 := hI.hi.c0
        have i4 := hI.hi.c1
        have i5 := hI.hi.c2
        generalize hE : lowT (sx xs) (k + 1) = a at *
        generalize hE1 : lowT (sy xs) (k + 1) = b1 at *
        generalize hE2 : lowT (sz xs) (k + 1) = c at *
        generalize hE3 : highT (sx xs) (k + 1) = a' at *
        generalize hE4 : highT (sy xs) (k + 1) = b' at *
        generalize hE5 : highT (sz xs) (k + 1) = c' at *
        have HE := Frame.hid (And.intro hE (And.intro hE1 (And.intro hE2 (And.intro hE3 (And.intro hE4 hE5)))))
        clear hE hE1 hE2 hE3 hE4 hE5 hI hkn
        have k0 := HI.out.r2.a.c0
        have k1 := HI.out.r2.a.c1
        have k2 := HI.out.r2.a.c2
        have k3 := HI.out.r3.a.c0
        have k4 := HI.out.r3.a.c1
        have k5 := HI.out.r3.a.c2
        have kf := HI.out.r2.f
        have kg := HI.out.r3.f
        have d0 : ¬ (w.heap.size = g) := by have := HI.out.g1; omega
        have d1 : ¬ (w.heap.size = g + 1) := by have := HI.out.h1; omega
        have d2 : ¬ (w.heap.size + 1 = g) := by have := HI.out.g1; omega
        have d3 : ¬ (g = w.heap.size) := by have := HI.out.g1; omega
        have d4 : ¬ (g + 1 = w.heap.size) := by have := HI.out.h1; omega
        have d5 : ¬ (g = w.heap.size + 1) := by have := HI.out.g1; omega
        go_wp2_with fail
        go_region
        go_wp2_with fail
        obtain ⟨⟨e0, e1, e2⟩, ⟨e3, e4, e5⟩⟩ := two_res HI.out.r2 HI.out.r3 (by omega) a b1 c a' b' c'
        obtain ⟨t1, t2, t3, t4, t5, t6⟩ := HE.out
        have hkn := HKN.out
        have hx := HX.out
        rw [hkn, hx] at t1 t2 t3 t4 t5 t6
        refine bodyPost_ret (v := .tuple #[.agg #[.float .f32 a, .float .f32 b1, .float .f32 c], .agg #[.float .f32 a', .float .f32 b', .float .f32 c'], .bool true]) (by simp [results, Try.results28, go_sem, e0, e1, e2, e3, e4, e5]) rfl ⟨_, _, _, _, _, _, _, rfl, .inl ⟨HL.out, rfl, t1.symm, t2.symm, t3.symm, t4.symm, t5.symm, t6.symm⟩, ?_⟩
        exact (two_below HI.out.bel (Nat.le_refl _) (by omega) _ _ _ _ _ _).drew

end Go.Proofs.Ytbikiihcbocojaa
