/-
  graphLegAt, walked.
-/
import Derived.Test.YtbikiihcbocojabJm
import Derived.Test.YtbikiihcbocojabJp
namespace Go.Proofs.Ytbikiihcbocojab
open Go.RowKit Fl Ieee

theorem jstore_s (P : Program) (w : World) (a : Addr) (m : Mode) (A : Option Addr) (n c : Nat) : (store a (.slice A n c) m).run P w = stored P w a (.slice A n c) m := run_store P w a _ m rfl
attribute [local go_sem] jstore_s run_store_f
theorem jset3_read {w : World} {g : Nat} {u0 u1 u2 v0 v1 v2 : Value} (h0 : w.cell? ⟨g, 0, none⟩ = some u0) (h1 : w.cell? ⟨g, 1, none⟩ = some u1) (h2 : w.cell? ⟨g, 2, none⟩ = some u2) :
    (((w.setCell ⟨g, 0, none⟩ v0).setCell ⟨g, 1, none⟩ v1).setCell ⟨g, 2, none⟩ v2).cell? ⟨g, 0, none⟩ = some v0 ∧ (((w.setCell ⟨g, 0, none⟩ v0).setCell ⟨g, 1, none⟩ v1).setCell ⟨g, 2, none⟩ v2).cell? ⟨g, 1, none⟩ = some v1 ∧ (((w.setCell ⟨g, 0, none⟩ v0).setCell ⟨g, 1, none⟩ v1).setCell ⟨g, 2, none⟩ v2).cell? ⟨g, 2, none⟩ = some v2 := by
  refine ⟨?_, ?_, ?_⟩
  · rw [World.cell?_setCell_other _ _ _ _ (by simp), World.cell?_setCell_other _ _ _ _ (by simp)]
    exact World.cell?_setCell_same' _ _ _ (by rw [h0]; rfl)
  · rw [World.cell?_setCell_other _ _ _ _ (by simp)]
    exact World.cell?_setCell_same' _ _ _ (by rw [World.cell?_setCell_other _ _ _ _ (by simp), h1]; rfl)
  · exact World.cell?_setCell_same' _ _ _ (by rw [World.cell?_setCell_other _ _ _ _ (by simp), World.cell?_setCell_other _ _ _ _ (by simp), h2]; rfl)
/-- The result's block, not written yet. -/
structure Leg0 (w : World) (W : World) : Prop where
  c0 : W.cell? ⟨w.heap.size + 1, 0, none⟩ = some (.slice none 0 0)
  c1 : W.cell? ⟨w.heap.size + 1, 1, none⟩ = some (.slice none 0 0)
  c2 : W.cell? ⟨w.heap.size + 1, 2, none⟩ = some (.slice none 0 0)
  f : ∀ i, W.frozen? ⟨w.heap.size + 1, i, none⟩ = false
  l : w.heap.size + 1 < W.heap.size
theorem Leg0.go {w W W' : World} (h : Leg0 w W) (hB : Below W.heap.size W W') : Leg0 w W' :=
  ⟨(hB.cell h.l).trans h.c0, (hB.cell h.l).trans h.c1, (hB.cell h.l).trans h.c2, fun i => (hB.frozen h.l).trans (h.f i), Nat.lt_of_lt_of_le h.l hB.size⟩
theorem Leg0.here (w : World) (v : Value) (t t' : TypeId) : Leg0 w ((w.alloc (.cells #[v] t)).alloc (.cells #[.slice none 0 0, .slice none 0 0, .slice none 0 0] t')) := by
  refine ⟨?_, ?_, ?_, fun i => ?_, ?_⟩ <;> simp [go_sem]
theorem jbox_here (w : World) (v : Value) (t : TypeId) (o : Obj) : ((w.alloc (.cells #[v] t)).alloc o).cell? ⟨w.heap.size, 0, none⟩ = some v ∧ w.heap.size < ((w.alloc (.cells #[v] t)).alloc o).heap.size := by
  constructor <;> simp [go_sem]

/-- What is asked of a graph, of its numbers and of a place. -/
def legB (xs ys zs : List Nat) (t : Nat) : Bool := graphB xs ys && decide (zs.length = xs.length) && finL zs && placeB xs t
def LegNo (w : World) (e : Ending) (w' : World) : Prop := e = .returned (.tuple #[.agg #[.slice none 0 0, .slice none 0 0, .slice none 0 0], .bool false]) ∧ Below w.heap.size w w'

theorem isGraph_say {xs ys : List Nat} {A B : Option Addr} {c d : Nat} {r : Bool} (hr : graphB xs ys = r) (hn : xs.length ≤ 1048576) (hn' : ys.length ≤ 1048576) (w : World) (hA : RdF w A xs) (hB : RdF w B ys) :
    ∀ W, Below w.heap.size w W → Calls Try.prog 17 #[.slice A xs.length c, .slice B ys.length d] W fun e w' => e = .returned (.bool r) ∧ Below W.heap.size W w' := fun W hW => by
  have h := isGraph_calls A B xs ys c d W hn hn' (hA.below hW) (hB.below hW)
  rw [hr] at h
  exact h
theorem areFin_say {xs : List Nat} {A : Option Addr} {c : Nat} {r : Bool} (hr : finL xs = r) (hn : xs.length ≤ 1048576) (w : World) (hA : RdF w A xs) :
    ∀ W, Below w.heap.size w W → Calls Try.prog 54 #[.slice A xs.length c] W fun e w' => e = .returned (.bool r) ∧ ∃ m, w' = W.drewN m := fun W hW => by
  have h := areFin_calls A xs c W hn (hA.below hW)
  rw [hr] at h
  exact h

set_option maxRecDepth 100000 in
set_option maxHeartbeats 4000000 in
theorem graphLeg_a (A B D : Option Addr) (xs ys zs : List Nat) (c d e t : Nat) (w : World) (hn : xs.length ≤ 1048576) (hn' : ys.length ≤ 1048576) (hA : RdF w A xs) (hB : RdF w B ys) (hg : graphB xs ys = false) :
    Calls Try.prog 74 #[.slice A xs.length c, .slice B ys.length d, .slice D zs.length e, .float .f32 t] w (LegNo w) := by
  unfold LegNo
  have HC := Frame.hid (isGraph_say (c := c) (d := d) hg hn hn' w hA hB)
  clear hg hA hB
  generalize xs.length = N at *
  generalize ys.length = M at *
  generalize zs.length = K at *
  have hw0 : Below w.heap.size w ((w.alloc (.cells #[.float .f32 t] 25)).alloc (.cells #[.slice none 0 0, .slice none 0 0, .slice none 0 0] 89)) := by (apply jbel_of; (repeat (first | apply jbelow_dn | apply jbelow_al | (refine jbelow_sc (by first | (simp; done) | (simp; omega) | omega) ?_ _))); exact jbelow_st _)
  go_enter Try.func74, Try.ntmps74
  go_wp2_with fail
  obtain ⟨w0, hw1⟩ : ∃ w0, (w.alloc (.cells #[.float .f32 t] 25)).alloc (.cells #[.slice none 0 0, .slice none 0 0, .slice none 0 0] 89) = w0 := ⟨_, rfl⟩
  rw [hw1] at hw0 ⊢
  have HR0 : Hid (Leg0 w w0) := Frame.hid (by rw [← hw1]; exact Leg0.here _ _ _ _)
  clear hw1
  (refine region_grown (by kernel_rfl) (by kernel_rfl) ?_; (repeat (first | go_big_quiet_skip | (go_big_quiet_want; go_big_quiet_op; first | go_big_quiet_on | (apply Exists.intro; refine ⟨fun q => ?_, ?_⟩; (· (exact calls_grown (HC.out _ (hw0.trans (q.b.mono hw0.size))))); go_big_quiet_on)))); refine wpQuiet_nil ?_; rintro W1 ⟨q1, hWE⟩; have hW1 := q1.b; rw [← hWE] at hW1; clear hWE q1)
  have HR1 := Frame.hid (HR0.out.go hW1)
  have k0 := HR1.out.c0
  have k1 := HR1.out.c1
  have k2 := HR1.out.c2
  have kf := HR1.out.f
  have HB1 := Frame.hid (hw0.trans (hW1.mono hw0.size))
  clear hW1 hw0
  go_wp2_with fail
  obtain ⟨e0, e1, e2⟩ := jset3_read (w := W1) (v0 := .slice none 0 0) (v1 := .slice none 0 0) (v2 := .slice none 0 0) k0 k1 k2
  refine bodyPost_ret (v := .tuple #[.agg #[.slice none 0 0, .slice none 0 0, .slice none 0 0], .bool false]) (by simp [results, Try.results74, go_sem, e0, e1, e2]) rfl ⟨rfl, ?_⟩
  exact ((HB1.out.setCell (p := ⟨w.heap.size + 1, 0, none⟩) (by simp) _).setCell (p := ⟨w.heap.size + 1, 1, none⟩) (by simp) _).setCell (p := ⟨w.heap.size + 1, 2, none⟩) (by simp) _

set_option maxRecDepth 100000 in
set_option maxHeartbeats 4000000 in
theorem graphLeg_b (A B D : Option Addr) (xs ys zs : List Nat) (c d e t : Nat) (w : World) (hn : xs.length ≤ 1048576) (hn' : ys.length ≤ 1048576) (hA : RdF w A xs) (hB : RdF w B ys) (hg : graphB xs ys = true) (hl : zs.length ≠ xs.length) :
    Calls Try.prog 74 #[.slice A xs.length c, .slice B ys.length d, .slice D zs.length e, .float .f32 t] w (LegNo w) := by
  unfold LegNo
  have HC := Frame.hid (isGraph_say (c := c) (d := d) hg hn hn' w hA hB)
  clear hg hA hB
  generalize xs.length = N at *
  generalize ys.length = M at *
  generalize zs.length = K at *
  have hb1 : ((K : Int) == (N : Int)) = false := by rw [beq_eq_false_iff_ne]; omega
  have hb2 : ((K : Int) != (N : Int)) = true := by rw [bne_iff_ne]; omega
  clear hl
  have hw0 : Below w.heap.size w ((w.alloc (.cells #[.float .f32 t] 25)).alloc (.cells #[.slice none 0 0, .slice none 0 0, .slice none 0 0] 89)) := by (apply jbel_of; (repeat (first | apply jbelow_dn | apply jbelow_al | (refine jbelow_sc (by first | (simp; done) | (simp; omega) | omega) ?_ _))); exact jbelow_st _)
  go_enter Try.func74, Try.ntmps74
  go_wp2_with fail
  obtain ⟨w0, hw1⟩ : ∃ w0, (w.alloc (.cells #[.float .f32 t] 25)).alloc (.cells #[.slice none 0 0, .slice none 0 0, .slice none 0 0] 89) = w0 := ⟨_, rfl⟩
  rw [hw1] at hw0 ⊢
  have HR0 : Hid (Leg0 w w0) := Frame.hid (by rw [← hw1]; exact Leg0.here _ _ _ _)
  clear hw1
  (refine region_grown (by kernel_rfl) (by kernel_rfl) ?_; (repeat (first | go_big_quiet_skip | (go_big_quiet_want; go_big_quiet_op; first | go_big_quiet_on | (apply Exists.intro; refine ⟨fun q => ?_, ?_⟩; (· (exact calls_grown (HC.out _ (hw0.trans (q.b.mono hw0.size))))); go_big_quiet_on)))); refine wpQuiet_nil ?_; rintro W1 ⟨q1, hWE⟩; have hW1 := q1.b; rw [← hWE] at hW1; clear hWE q1)
  have HR1 := Frame.hid (HR0.out.go hW1)
  have k0 := HR1.out.c0
  have k1 := HR1.out.c1
  have k2 := HR1.out.c2
  have kf := HR1.out.f
  have HB1 := Frame.hid (hw0.trans (hW1.mono hw0.size))
  clear hW1 hw0
  go_wp2_with fail
  obtain ⟨e0, e1, e2⟩ := jset3_read (w := W1) (v0 := .slice none 0 0) (v1 := .slice none 0 0) (v2 := .slice none 0 0) k0 k1 k2
  refine bodyPost_ret (v := .tuple #[.agg #[.slice none 0 0, .slice none 0 0, .slice none 0 0], .bool false]) (by simp [results, Try.results74, go_sem, e0, e1, e2]) rfl ⟨rfl, ?_⟩
  exact ((HB1.out.setCell (p := ⟨w.heap.size + 1, 0, none⟩) (by simp) _).setCell (p := ⟨w.heap.size + 1, 1, none⟩) (by simp) _).setCell (p := ⟨w.heap.size + 1, 2, none⟩) (by simp) _

set_option maxRecDepth 100000 in
set_option maxHeartbeats 4000000 in
theorem graphLeg_c (A B D : Option Addr) (xs ys zs : List Nat) (c d e t : Nat) (w : World) (hn : xs.length ≤ 1048576) (hn' : ys.length ≤ 1048576) (hA : RdF w A xs) (hB : RdF w B ys) (hD : RdF w D zs) (hg : graphB xs ys = true) (hl : zs.length = xs.length) (hf : finL zs = false) :
    Calls Try.prog 74 #[.slice A xs.length c, .slice B ys.length d, .slice D zs.length e, .float .f32 t] w (LegNo w) := by
  unfold LegNo
  have HC := Frame.hid (isGraph_say (c := c) (d := d) hg hn hn' w hA hB)
  have HF := Frame.hid (areFin_say (c := e) hf (by omega) w hD)
  rw [hl] at HF ⊢
  clear hg hA hB hl hf hD
  generalize xs.length = N at *
  generalize ys.length = M at *
  have hw0 : Below w.heap.size w ((w.alloc (.cells #[.float .f32 t] 25)).alloc (.cells #[.slice none 0 0, .slice none 0 0, .slice none 0 0] 89)) := by (apply jbel_of; (repeat (first | apply jbelow_dn | apply jbelow_al | (refine jbelow_sc (by first | (simp; done) | (simp; omega) | omega) ?_ _))); exact jbelow_st _)
  go_enter Try.func74, Try.ntmps74
  go_wp2_with fail
  obtain ⟨w0, hw1⟩ : ∃ w0, (w.alloc (.cells #[.float .f32 t] 25)).alloc (.cells #[.slice none 0 0, .slice none 0 0, .slice none 0 0] 89) = w0 := ⟨_, rfl⟩
  rw [hw1] at hw0 ⊢
  have HR0 : Hid (Leg0 w w0) := Frame.hid (by rw [← hw1]; exact Leg0.here _ _ _ _)
  clear hw1
  (refine region_grown (by kernel_rfl) (by kernel_rfl) ?_; (repeat (first | go_big_quiet_skip | (go_big_quiet_want; go_big_quiet_op; first | go_big_quiet_on | (apply Exists.intro; refine ⟨fun q => ?_, ?_⟩; (· (first | exact calls_grown (HC.out _ (hw0.trans (q.b.mono hw0.size))) | exact calls_grown_drew (HF.out _ (hw0.trans (q.b.mono hw0.size))))); go_big_quiet_on)))); refine wpQuiet_nil ?_; rintro W1 ⟨q1, hWE⟩; have hW1 := q1.b; rw [← hWE] at hW1; clear hWE q1)
  have HR1 := Frame.hid (HR0.out.go hW1)
  have k0 := HR1.out.c0
  have k1 := HR1.out.c1
  have k2 := HR1.out.c2
  have kf := HR1.out.f
  have HB1 := Frame.hid (hw0.trans (hW1.mono hw0.size))
  clear hW1 hw0
  go_wp2_with fail
  obtain ⟨e0, e1, e2⟩ := jset3_read (w := W1) (v0 := .slice none 0 0) (v1 := .slice none 0 0) (v2 := .slice none 0 0) k0 k1 k2
  refine bodyPost_ret (v := .tuple #[.agg #[.slice none 0 0, .slice none 0 0, .slice none 0 0], .bool false]) (by simp [results, Try.results74, go_sem, e0, e1, e2]) rfl ⟨rfl, ?_⟩
  exact ((HB1.out.setCell (p := ⟨w.heap.size + 1, 0, none⟩) (by simp) _).setCell (p := ⟨w.heap.size + 1, 1, none⟩) (by simp) _).setCell (p := ⟨w.heap.size + 1, 2, none⟩) (by simp) _

/-- The leg that is handed out. -/
def LegYes (xs : List Nat) (t b off b' off' b2 off2 : Nat) (w : World) (e : Ending) (w' : World) : Prop :=
  ∃ k, LegI xs t k ∧ e = .returned (.tuple #[.agg #[.slice (some ⟨b, off + k, none⟩) 2 2, .slice (some ⟨b', off' + k, none⟩) 2 2, .slice (some ⟨b2, off2 + k, none⟩) 2 2], .bool true]) ∧ Below w.heap.size w w'

set_option maxRecDepth 100000 in
set_option maxHeartbeats 4000000 in
theorem graphLeg_d (A B D : Option Addr) (xs ys zs : List Nat) (d e t : Nat) (w : World) (hn : xs.length ≤ 1048576) (hn' : ys.length ≤ 1048576) (hA : RdF w A xs) (hB : RdF w B ys) (hD : RdF w D zs) (hg : graphB xs ys = true) (hl : zs.length = xs.length) (hf : finL zs = true) (hp : placeB xs t = false) :
    Calls Try.prog 74 #[.slice A xs.length xs.length, .slice B ys.length d, .slice D zs.length e, .float .f32 t] w (LegNo w) := by
  unfold LegNo
  obtain ⟨hh, -⟩ : headB xs ys = true ∧ True := by
    refine ⟨?_, trivial⟩
    cases h : headB xs ys
    · rw [graphB_head h] at hg; cases hg
    · rfl
  obtain ⟨h2, h48, -, -, -⟩ := headB_of hh
  have HC := Frame.hid (isGraph_say (c := xs.length) (d := d) hg hn hn' w hA hB)
  have HF := Frame.hid (areFin_say (c := e) hf (by omega) w hD)
  rw [hl] at HF ⊢
  obtain ⟨b, off, rfl, hb, hc⟩ := hA (by omega)
  have d0 := hc 0 (by omega)
  rw [Nat.add_zero] at d0
  obtain ⟨N, hN⟩ : ∃ N, N + 1 = xs.length := ⟨xs.length - 1, by omega⟩
  have d1 := hc N (by omega)
  have e1 : xs.length - 1 = N := by omega
  unfold placeB at hp
  rw [e1] at hp
  rw [← hN] at HC HF h2 h48 hn ⊢
  clear hg hB hl hf hD hc e1 hN hh hA
  generalize xs.getD 0 0 = x0 at d0 hp
  generalize xs.getD N 0 = x1 at d1 hp
  generalize ys.length = M at *
  have HP := Frame.hid hp
  have hp2 := hp
  clear hp
  have hw0 : Below w.heap.size w ((w.alloc (.cells #[.float .f32 t] 25)).alloc (.cells #[.slice none 0 0, .slice none 0 0, .slice none 0 0] 89)) := by (apply jbel_of; (repeat (first | apply jbelow_dn | apply jbelow_al | (refine jbelow_sc (by first | (simp; done) | (simp; omega) | omega) ?_ _))); exact jbelow_st _)
  have i1 : IntKind.i64.wrap (N : Int) = (N : Int) := by rw [IntKind.wrap_i64]; omega
  have i2 : IntKind.i64.wrap ((N : Int) + 1 - 1) = (N : Int) := by rw [IntKind.wrap_i64]; omega
  have i3 : (0 : Int) ≤ (N : Int) := by omega
  have i4 : (N : Int) < (N : Int) + 1 := by omega
  cases q1 : leqF x0 t
  · unfold leqF at q1
    have Q1 := q1
    clear q1 hp2
    go_enter Try.func74, Try.ntmps74
    go_wp2_with fail
    obtain ⟨hx7, hl7⟩ := jbox_here w (.float .f32 t) 25 (.cells #[.slice none 0 0, .slice none 0 0, .slice none 0 0] 89)
    obtain ⟨w0, hw1⟩ : ∃ w0, (w.alloc (.cells #[.float .f32 t] 25)).alloc (.cells #[.slice none 0 0, .slice none 0 0, .slice none 0 0] 89) = w0 := ⟨_, rfl⟩
    rw [hw1] at hw0 hx7 hl7 ⊢
    have HR0 : Hid (Leg0 w w0) := Frame.hid (by rw [← hw1]; exact Leg0.here _ _ _ _)
    clear hw1
    have g0 : ∀ q : Grown w0, q.W.cell? ⟨b, off, none⟩ = some (.float .f32 x0) := fun q => q.cell (Nat.lt_of_lt_of_le hb hw0.size) ((hw0.cell (p := ⟨b, off, none⟩) hb).trans d0)
    have g7 : ∀ q : Grown w0, q.W.cell? ⟨w.heap.size, 0, none⟩ = some (.float .f32 t) := fun q => q.cell hl7 hx7
    clear d0 d1 hx7 hl7
    (refine region_grown (by kernel_rfl) (by kernel_rfl) ?_; (repeat (first | go_big_quiet_skip | (go_big_quiet_want; go_big_quiet_op; first | go_big_quiet_on | (apply Exists.intro; refine ⟨fun q => ?_, ?_⟩; (· (first | exact calls_grown (HC.out _ (hw0.trans (q.b.mono hw0.size))) | exact calls_grown_drew (HF.out _ (hw0.trans (q.b.mono hw0.size))))); go_big_quiet_on)))); refine wpQuiet_nil ?_; rintro W1 ⟨q1, hWE⟩; have hW1 := q1.b; rw [← hWE] at hW1; clear hWE q1)
    clear g0 g7
    have HR1 := Frame.hid (HR0.out.go hW1)
    have k0 := HR1.out.c0
    have k1 := HR1.out.c1
    have k2 := HR1.out.c2
    have kf := HR1.out.f
    have HB1 := Frame.hid (hw0.trans (hW1.mono hw0.size))
    clear hW1 hw0
    go_wp2_with fail
    obtain ⟨e0, e1, e2⟩ := jset3_read (w := W1) (v0 := .slice none 0 0) (v1 := .slice none 0 0) (v2 := .slice none 0 0) k0 k1 k2
    refine bodyPost_ret (v := .tuple #[.agg #[.slice none 0 0, .slice none 0 0, .slice none 0 0], .bool false]) (by simp [results, Try.results74, go_sem, e0, e1, e2]) rfl ⟨rfl, ?_⟩
    exact ((HB1.out.setCell (p := ⟨w.heap.size + 1, 0, none⟩) (by simp) _).setCell (p := ⟨w.heap.size + 1, 1, none⟩) (by simp) _).setCell (p := ⟨w.heap.size + 1, 2, none⟩) (by simp) _
  · cases q2 : leqF t x1
    · unfold leqF at q1 q2
      have Q1 := q1
      have Q2 := q2
      clear q1 q2 hp2
      go_enter Try.func74, Try.ntmps74
      go_wp2_with fail
      obtain ⟨hx7, hl7⟩ := jbox_here w (.float .f32 t) 25 (.cells #[.slice none 0 0, .slice none 0 0, .slice none 0 0] 89)
      obtain ⟨w0, hw1⟩ : ∃ w0, (w.alloc (.cells #[.float .f32 t] 25)).alloc (.cells #[.slice none 0 0, .slice none 0 0, .slice none 0 0] 89) = w0 := ⟨_, rfl⟩
      rw [hw1] at hw0 hx7 hl7 ⊢
      have HR0 : Hid (Leg0 w w0) := Frame.hid (by rw [← hw1]; exact Leg0.here _ _ _ _)
      clear hw1
      have g0 : ∀ q : Grown w0, q.W.cell? ⟨b, off, none⟩ = some (.float .f32 x0) := fun q => q.cell (Nat.lt_of_lt_of_le hb hw0.size) ((hw0.cell (p := ⟨b, off, none⟩) hb).trans d0)
      have g1 : ∀ q : Grown w0, q.W.cell? ⟨b, off + N, none⟩ = some (.float .f32 x1) := fun q => q.cell (Nat.lt_of_lt_of_le hb hw0.size) ((hw0.cell (p := ⟨b, off + N, none⟩) hb).trans d1)
      have g7 : ∀ q : Grown w0, q.W.cell? ⟨w.heap.size, 0, none⟩ = some (.float .f32 t) := fun q => q.cell hl7 hx7
      clear d0 d1 hx7 hl7
      (refine region_grown (by kernel_rfl) (by kernel_rfl) ?_; (repeat (first | go_big_quiet_skip | (go_big_quiet_want; go_big_quiet_op; first | go_big_quiet_on | (apply Exists.intro; refine ⟨fun q => ?_, ?_⟩; (· (first | exact calls_grown (HC.out _ (hw0.trans (q.b.mono hw0.size))) | exact calls_grown_drew (HF.out _ (hw0.trans (q.b.mono hw0.size))))); go_big_quiet_on)))); refine wpQuiet_nil ?_; rintro W1 ⟨q1, hWE⟩; have hW1 := q1.b; rw [← hWE] at hW1; clear hWE q1)
      clear g0 g1 g7
      have HR1 := Frame.hid (HR0.out.go hW1)
      have k0 := HR1.out.c0
      have k1 := HR1.out.c1
      have k2 := HR1.out.c2
      have kf := HR1.out.f
      have HB1 := Frame.hid (hw0.trans (hW1.mono hw0.size))
      clear hW1 hw0
      go_wp2_with fail
      obtain ⟨e0, e1, e2⟩ := jset3_read (w := W1) (v0 := .slice none 0 0) (v1 := .slice none 0 0) (v2 := .slice none 0 0) k0 k1 k2
      refine bodyPost_ret (v := .tuple #[.agg #[.slice none 0 0, .slice none 0 0, .slice none 0 0], .bool false]) (by simp [results, Try.results74, go_sem, e0, e1, e2]) rfl ⟨rfl, ?_⟩
      exact ((HB1.out.setCell (p := ⟨w.heap.size + 1, 0, none⟩) (by simp) _).setCell (p := ⟨w.heap.size + 1, 1, none⟩) (by simp) _).setCell (p := ⟨w.heap.size + 1, 2, none⟩) (by simp) _
    · rw [q1, q2] at hp2; cases hp2

end Go.Proofs.Ytbikiihcbocojab
