/-
  PlanWay, the program's side.
-/
import Derived.Test.YtohbanchaggnmaaY3
namespace Go.Proofs.Ytohbanchaggnmaa
open Go.RowKit Fl Ieee Go.WideShapes Go.Deep
attribute [local go_sem] kstore_f kalloc_drewN kset_drewN unary_neg_y

def PwO (j r h c t0 d : Nat) (ok : Bool) : Prop := (planB j r h c = true ∧ leastB t0 = true ∧ ∃ x v a t, PW j r h c t0 7 x v a t ∧ NumA x d ok) ∨ ((planB j r h c && leastB t0) = false ∧ d = 0 ∧ ok = false)

theorem fin_numberY {x : Nat} (h : fin .f32 x = true) : ∃ s m p, single.read x = .number s m p := by
  unfold fin at h
  have hk : FloatKind.f32.format = single := rfl
  rw [hk] at h
  cases hd : single.read x with
  | number s m p => exact ⟨s, m, p, rfl⟩
  | infinity s => rw [hd] at h; cases h
  | nan s t => rw [hd] at h; cases h
theorem order_some {x y : Nat} (h : fin .f32 x = true) (g : fin .f32 y = true) : ∃ o, FloatKind.f32.format.order x y = some o := by
  obtain ⟨s, m, p, hx⟩ := fin_numberY h
  obtain ⟨s', m', p', hy⟩ := fin_numberY g
  exact ⟨_, by show (single.read x).order (single.read y) = _; rw [hx, hy]; rfl⟩
theorem least_of_fin {x : Nat} (h : fin .f32 x = true) : leastB x = !(ltW x 0) := by
  unfold leastB ltW
  rw [h]
  obtain ⟨o, ho⟩ : ∃ o, FloatKind.f32.format.order x 0 = some o := order_some h (by decide +kernel)
  rw [ho]
  cases o <;> rfl

/-- Four cells of a block. -/
structure At4 (W : World) (g a b c d : Nat) : Prop where
  c0 : W.cell? ⟨g, 0, none⟩ = some (.float .f32 a)
  c1 : W.cell? ⟨g, 1, none⟩ = some (.float .f32 b)
  c2 : W.cell? ⟨g, 2, none⟩ = some (.float .f32 c)
  c3 : W.cell? ⟨g, 3, none⟩ = some (.float .f32 d)
theorem At4.keep {W W' : World} {g a b c d n : Nat} (h : At4 W g a b c d) (hB : Below n W W') (hg : g < n) : At4 W' g a b c d :=
  ⟨(hB.cell (p := ⟨g, 0, none⟩) hg).trans h.c0, (hB.cell (p := ⟨g, 1, none⟩) hg).trans h.c1, (hB.cell (p := ⟨g, 2, none⟩) hg).trans h.c2, (hB.cell (p := ⟨g, 3, none⟩) hg).trans h.c3⟩
theorem At4.putOther {W : World} {g k i a b c d : Nat} {u : Value} (h : At4 W g a b c d) (hk : k ≠ g) : At4 (W.setCell ⟨k, i, none⟩ u) g a b c d := by
  refine ⟨?_, ?_, ?_, ?_⟩
  all_goals rw [World.cell?_setCell_other _ _ _ _ (by intro e; injection e with e1; exact hk e1)]
  · exact h.c0
  · exact h.c1
  · exact h.c2
  · exact h.c3
/-- Three cells of a block that may be written. -/
structure Wr3 (W : World) (g x y z : Nat) : Prop where
  c0 : W.cell? ⟨g, 0, none⟩ = some (.float .f32 x)
  c1 : W.cell? ⟨g, 1, none⟩ = some (.float .f32 y)
  c2 : W.cell? ⟨g, 2, none⟩ = some (.float .f32 z)
  f : ∀ i, W.frozen? ⟨g, i, none⟩ = false
theorem Wr3.keep {W W' : World} {g x y z n : Nat} (h : Wr3 W g x y z) (hB : Below n W W') (hg : g < n) : Wr3 W' g x y z :=
  ⟨(hB.cell (p := ⟨g, 0, none⟩) hg).trans h.c0, (hB.cell (p := ⟨g, 1, none⟩) hg).trans h.c1, (hB.cell (p := ⟨g, 2, none⟩) hg).trans h.c2, fun i => (hB.frozen (p := ⟨g, i, none⟩) hg).trans (h.f i)⟩
theorem Wr3.put {W : World} {g x y z x' y' z' : Nat} (h : Wr3 W g x y z) : Wr3 (((W.setCell ⟨g, 0, none⟩ (.float .f32 x')).setCell ⟨g, 1, none⟩ (.float .f32 y')).setCell ⟨g, 2, none⟩ (.float .f32 z')) g x' y' z' := by
  obtain ⟨e0, e1, e2⟩ := set3_readY (w := W) (v0 := .float .f32 x') (v1 := .float .f32 y') (v2 := .float .f32 z') h.c0 h.c1 h.c2
  exact ⟨e0, e1, e2, fun i => by simp [h.f i]⟩

theorem Wr3.drewN {W : World} {g x y z : Nat} (h : Wr3 W g x y z) (n : Nat) : Wr3 (W.drewN n) g x y z := ⟨h.c0, h.c1, h.c2, h.f⟩
theorem At4.drewN {W : World} {g a b c d : Nat} (h : At4 W g a b c d) (n : Nat) : At4 (W.drewN n) g a b c d := ⟨h.c0, h.c1, h.c2, h.c3⟩

/-- After k parts of a plan. -/
def WayI (j r h c t0 : Nat) (w : World) (gm : Nat) (t i : Value) (wr : World) : Prop :=
  ∃ (k : Nat) (z : Int) (x v a s : Nat), z = k ∧ k ≤ 7 ∧ i = .int .i64 z ∧ t = .float .f32 s ∧ PW j r h c t0 k x v a s ∧ Wr3 wr gm x v a ∧ At4 wr w.heap.size j r h c ∧ Below w.heap.size w wr ∧ gm < wr.heap.size

theorem array7 : Try.prog.underlying 150 = some (.array 7 148) := by kernel_rfl
theorem idxF0 (w : World) : (Instr.index 150 (.agg #[.func (.func 124) #[] #[], .func (.func 125) #[] #[], .func (.func 126) #[] #[], .func (.func 127) #[] #[], .func (.func 126) #[] #[], .func (.func 125) #[] #[], .func (.func 124) #[] #[]]) (.int .i64 0)).run Try.prog w = .ok (.func (.func 124) #[] #[]) w := by
  kernel_rfl
theorem idxF1 (w : World) : (Instr.index 150 (.agg #[.func (.func 124) #[] #[], .func (.func 125) #[] #[], .func (.func 126) #[] #[], .func (.func 127) #[] #[], .func (.func 126) #[] #[], .func (.func 125) #[] #[], .func (.func 124) #[] #[]]) (.int .i64 1)).run Try.prog w = .ok (.func (.func 125) #[] #[]) w := by
  kernel_rfl
theorem idxF2 (w : World) : (Instr.index 150 (.agg #[.func (.func 124) #[] #[], .func (.func 125) #[] #[], .func (.func 126) #[] #[], .func (.func 127) #[] #[], .func (.func 126) #[] #[], .func (.func 125) #[] #[], .func (.func 124) #[] #[]]) (.int .i64 2)).run Try.prog w = .ok (.func (.func 126) #[] #[]) w := by
  kernel_rfl
theorem idxF3 (w : World) : (Instr.index 150 (.agg #[.func (.func 124) #[] #[], .func (.func 125) #[] #[], .func (.func 126) #[] #[], .func (.func 127) #[] #[], .func (.func 126) #[] #[], .func (.func 125) #[] #[], .func (.func 124) #[] #[]]) (.int .i64 3)).run Try.prog w = .ok (.func (.func 127) #[] #[]) w := by
  kernel_rfl
theorem idxF4 (w : World) : (Instr.index 150 (.agg #[.func (.func 124) #[] #[], .func (.func 125) #[] #[], .func (.func 126) #[] #[], .func (.func 127) #[] #[], .func (.func 126) #[] #[], .func (.func 125) #[] #[], .func (.func 124) #[] #[]]) (.int .i64 4)).run Try.prog w = .ok (.func (.func 126) #[] #[]) w := by
  kernel_rfl
theorem idxF5 (w : World) : (Instr.index 150 (.agg #[.func (.func 124) #[] #[], .func (.func 125) #[] #[], .func (.func 126) #[] #[], .func (.func 127) #[] #[], .func (.func 126) #[] #[], .func (.func 125) #[] #[], .func (.func 124) #[] #[]]) (.int .i64 5)).run Try.prog w = .ok (.func (.func 125) #[] #[]) w := by
  kernel_rfl
theorem idxF6 (w : World) : (Instr.index 150 (.agg #[.func (.func 124) #[] #[], .func (.func 125) #[] #[], .func (.func 126) #[] #[], .func (.func 127) #[] #[], .func (.func 126) #[] #[], .func (.func 125) #[] #[], .func (.func 124) #[] #[]]) (.int .i64 6)).run Try.prog w = .ok (.func (.func 124) #[] #[]) w := by
  kernel_rfl
attribute [local go_sem] idxF0 idxF1 idxF2 idxF3 idxF4 idxF5 idxF6

set_option maxRecDepth 100000 in
set_option maxHeartbeats 4000000 in
theorem planWay_calls (j r h c t0 : Nat) (w : World) : Calls Try.prog 57 #[.agg #[.float .f32 j, .float .f32 r, .float .f32 h, .float .f32 c], .float .f32 t0] w fun e w' => ∃ d ok, e = .returned (.tuple #[.float .f32 d, .bool ok]) ∧ PwO j r h c t0 d ok ∧ Below w.heap.size w w' := by
  cases h1 : planB j r h c
  · go_enter Try.func57, Try.ntmps57
    go_wp2_with (first | (go_at_call 123; refine (isPlan_calls _ _ _ _ _).mono ?_; rintro e w' ⟨rfl, hB⟩; rw [h1]; have hc := rd_of hB; have hz := fz_of hB; have hs := sz_of hB; have HB := below_ch (B := w.heap.size) (a := w) (by repeat' first | exact below_st _ | assumption | apply below_dn | apply below_al | (refine below_sc ?_ ?_ _; · simp only [World.size_alloc]; omega)) hB rfl; (try have hl0 : w.heap.size < w'.heap.size := (by have := hB.size; (try simp at this); omega))))
    go_ret2
    exact ⟨_, _, rfl, .inr ⟨by rw [h1]; rfl, rfl, rfl⟩, HB.2⟩
  cases h2 : fin .f32 t0
  · go_enter Try.func57, Try.ntmps57
    go_wp2_with (first | (go_at_call 123; refine (isPlan_calls _ _ _ _ _).mono ?_; rintro e w' ⟨rfl, hB⟩; rw [h1]; have hc := rd_of hB; have hz := fz_of hB; have hs := sz_of hB; have HB := below_ch (B := w.heap.size) (a := w) (by repeat' first | exact below_st _ | assumption | apply below_dn | apply below_al | (refine below_sc ?_ ?_ _; · simp only [World.size_alloc]; omega)) hB rfl; (try have hl0 : w.heap.size < w'.heap.size := (by have := hB.size; (try simp at this); omega))) | (go_at_call 98; refine (isFinite_calls _ _).mono ?_; rintro e w' ⟨rfl, m2, rfl⟩; rw [h2]))
    go_ret2
    exact ⟨_, _, rfl, .inr ⟨by rw [h1]; unfold leastB; rw [h2]; rfl, rfl, rfl⟩, below_drewN HB.2 _⟩
  have hl : leastB t0 = !(ltW t0 0) := least_of_fin h2
  cases h3 : ltW t0 0
  · rw [h3] at hl
    have HL := Frame.hid hl
    have H1 := Frame.hid h1
    have hlt : (FloatKind.f32.format.order t0 0 == some Ordering.lt) = false := h3
    clear h3 hl
    go_enter Try.func57, Try.ntmps57
    go_wp2_with (first | (go_at_call 123; refine (isPlan_calls _ _ _ _ _).mono ?_; rintro e w' ⟨rfl, hB⟩; rw [H1.out]; have hc := rd_of hB; have hz := fz_of hB; have hs := sz_of hB; have HB := below_ch (B := w.heap.size) (a := w) (by repeat' first | exact below_st _ | assumption | apply below_dn | apply below_al | (refine below_sc ?_ ?_ _; · simp only [World.size_alloc]; omega)) hB rfl; (try have hl0 : w.heap.size < w'.heap.size := (by have := hB.size; (try simp at this); omega))) | (go_at_call 98; refine (isFinite_calls _ _).mono ?_; rintro e w' ⟨rfl, m2, rfl⟩; rw [h2]))
    have hP : At4 w' w.heap.size j r h c := by
      refine ⟨?_, ?_, ?_, ?_⟩ <;> (rw [hc _ _ (by simp)]; simp [go_sem])
    have hB0 : Below w.heap.size w w' := HB.2
    clear h1 h2 hlt hB hc hz hs HB
    obtain ⟨gm, hgm⟩ : ∃ gm, gm = w'.heap.size := ⟨_, rfl⟩
    obtain ⟨w0, hw0⟩ : ∃ w0, w0 = (w'.alloc (.cells #[.float .f32 0, .float .f32 0, .float .f32 0] 147)).drewN m2 := ⟨_, rfl⟩
    rw [← hgm, ← hw0]
    have hgl : w.heap.size < gm := by rw [hgm]; exact hl0
    have hM0 : Wr3 w0 gm 0 0 0 := by rw [hw0, hgm]; exact ⟨by simp [go_sem], by simp [go_sem], by simp [go_sem], fun i => by simp [go_sem]⟩
    have hwB : Below w'.heap.size w' w0 := by rw [hw0]; exact below_drewN ((Below.refl _ _).alloc (Nat.le_refl _) _) _
    have hP0 : At4 w0 w.heap.size j r h c := hP.keep hwB (by rw [← hgm]; exact hgl)
    have hB1 : Below w.heap.size w w0 := hB0.trans (hwB.mono (Nat.le_of_lt (by rw [← hgm]; exact hgl)))
    have hgl2 : gm < w0.heap.size := by rw [hw0, hgm]; simp
    have HST := Frame.hid (And.intro hM0 (And.intro hP0 (And.intro hB1 hgl2)))
    clear hM0 hP0 hB1 hgl2 hwB hB0 hP hw0 hgm hl0
    go_loopw [1, 24] (fun t i wr => WayI j r h c t0 w gm t i wr) (fun _ i _ => 7 - (intOf i).toNat)
    case atStart => exact ⟨0, 0, 0, 0, 0, t0, rfl, by omega, rfl, rfl, ⟨rfl, rfl, rfl, rfl⟩, HST.out⟩
    case round =>
      obtain ⟨k, z, x, v, a, t, hz, hk, rfl, rfl, hPW, hM, hP, hB, hg⟩ := hrel
      by_cases h7 : k = 7
      · subst h7
        have hz7 : z = 7 := hz
        subst hz7
        have HPW := Frame.hid hPW
        have HB := Frame.hid hB
        obtain ⟨m0, m1, m2, mf⟩ := hM
        clear hPW hB hP hz
        go_wp2_with (go_at_call 93; refine (numA_calls _ _).mono ?_; rintro e w' ⟨d, ok, rfl, hn, m, rfl⟩)
        go_ret2
        exact ⟨_, _, rfl, .inl ⟨H1.out, HL.out, _, _, _, _, HPW.out, hn⟩, below_drewN HB.out _⟩
      · have HSI := Frame.hid (fun x' v' a' t' h1 h2 => (show PW j r h c t0 (k + 1) x' v' a' t' from ⟨x, v, a, t, hPW, h1, h2⟩))
        have hk6 : k = 0 ∨ k = 1 ∨ k = 2 ∨ k = 3 ∨ k = 4 ∨ k = 5 ∨ k = 6 := by omega
        obtain ⟨p0, p1, p2, p3⟩ := hP
        have HP := Frame.hid (At4.mk p0 p1 p2 p3)
        have HM := Frame.hid hM
        have HB := Frame.hid hB
        clear hPW hk h7 hM hB HST
        rcases hk6 with rfl | rfl | rfl | rfl | rfl | rfl | rfl
        all_goals
          simp at hz
          subst hz
          go_wp2_with fail
          first
            | refine (pushW_calls _ _ _ _ _).mono ?_
            | refine (holdW_calls _ _ _ _ _).mono ?_
            | refine (pullW_calls _ _ _ _ _).mono ?_
            | refine (cruiseW_calls _ _ _ _ _).mono ?_
          rintro e w1 ⟨rfl, hB1⟩
          clear p0 p1 p2 p3
          go_wp2_with fail
          refine (lesserW_calls _ _ _).mono ?_
          rintro e w2 ⟨rfl, hw2⟩
          have hB2 : Below wr.heap.size wr w2 := by rw [← hw2]; exact hB1.trans (((Below.refl _ _).alloc (Nat.le_refl _) _).mono hB1.size)
          have hgl2 : w1.heap.size < w2.heap.size := by rw [← hw2]; simp
          first
            | have q0 : w2.cell? ⟨w1.heap.size, 0, none⟩ = some (.float .f32 r) := by rw [← hw2]; simp [go_sem]
            | have q0 : w2.cell? ⟨w1.heap.size, 0, none⟩ = some (.float .f32 h) := by rw [← hw2]; simp [go_sem]
            | have q0 : w2.cell? ⟨w1.heap.size, 0, none⟩ = some (.float .f32 c) := by rw [← hw2]; simp [go_sem]
          first
            | have q1 : w2.cell? ⟨w1.heap.size, 1, none⟩ = some (.float .f32 j) := by rw [← hw2]; simp [go_sem]
            | have q1 : w2.cell? ⟨w1.heap.size, 1, none⟩ = some (.float .f32 0) := by rw [← hw2]; simp [go_sem]
            | have q1 : w2.cell? ⟨w1.heap.size, 1, none⟩ = some (.float .f32 (Op.negFloat .f32 j)) := by rw [← hw2]; simp [go_sem]
          obtain ⟨m0, m1, m2, mf⟩ := HM.out.keep hB2 hg
          clear hB1 hw2
          go_wp2_with fail
          refine (afterW_calls _ _ _ _ _ _).mono ?_
          rintro e w3 ⟨x', v', a', rfl, hMv, hB3⟩
          have HB3 := Frame.hid (hB2.trans (hB3.mono hB2.size))
          obtain ⟨m0', m1', m2', mf'⟩ := HM.out.keep HB3.out hg
          clear hB2 hB3 q0 q1 m0 m1 m2 mf
          go_wp2_with (refine wpList_arith rfl _ _ _ _ _ rfl rfl _ _ _ rfl rfl ?_; intro r n hr hl)
          go_roundw
          case rel =>
            refine ⟨_, _, x', v', a', _, ?_, ?_, rfl, rfl, HSI.out _ _ _ _ hMv hr, ?_, ?_, ?_, ?_⟩
            · omega
            · omega
            · exact (HM.out.keep HB3.out hg).put.drewN _
            · exact ((((HP.out.keep HB3.out (Nat.lt_trans hgl hg)).putOther (Nat.ne_of_gt hgl)).putOther (Nat.ne_of_gt hgl)).putOther (Nat.ne_of_gt hgl)).drewN _
            · exact below_drewN ((((HB.out.trans (HB3.out.mono HB.out.size)).setCell (p := ⟨gm, 0, none⟩) (Nat.le_of_lt hgl) _).setCell (p := ⟨gm, 1, none⟩) (Nat.le_of_lt hgl) _).setCell (p := ⟨gm, 2, none⟩) (Nat.le_of_lt hgl) _) _
            · have := Nat.lt_of_lt_of_le hg HB3.out.size
              simpa using this
          case measure => simp [intOf]
  · rw [h3] at hl
    have hlt : (FloatKind.f32.format.order t0 0 == some Ordering.lt) = true := h3
    clear h3
    go_enter Try.func57, Try.ntmps57
    go_wp2_with (first | (go_at_call 123; refine (isPlan_calls _ _ _ _ _).mono ?_; rintro e w' ⟨rfl, hB⟩; rw [h1]; have hc := rd_of hB; have hz := fz_of hB; have hs := sz_of hB; have HB := below_ch (B := w.heap.size) (a := w) (by repeat' first | exact below_st _ | assumption | apply below_dn | apply below_al | (refine below_sc ?_ ?_ _; · simp only [World.size_alloc]; omega)) hB rfl; (try have hl0 : w.heap.size < w'.heap.size := (by have := hB.size; (try simp at this); omega))) | (go_at_call 98; refine (isFinite_calls _ _).mono ?_; rintro e w' ⟨rfl, m2, rfl⟩; rw [h2]))
    go_ret2
    exact ⟨_, _, rfl, .inr ⟨by rw [h1, hl]; rfl, rfl, rfl⟩, below_drewN HB.2 _⟩

end Go.Proofs.Ytohbanchaggnmaa
