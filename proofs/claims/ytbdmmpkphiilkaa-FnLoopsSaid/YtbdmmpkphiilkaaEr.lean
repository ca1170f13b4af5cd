/-
  The rows of a cutting, as the program makes them; the point of a plain curve at a time.
-/
import Derived.Test.YtbdmmpkphiilkaaVc
import Derived.Laws.MakeOwn
import Derived.Deep.RegionWith
import Derived.BigRegion
namespace Go.Proofs.Ytbdmmpkphiilkaa
open Go.RowKit Fl Ieee
attribute [local go_sem] run_store_c run_store_f

theorem Try.infoH : (Try.prog.info? 104).map (fun i => (i.zero, i.size, i.bytes)) = some (some (.agg #[.complex .f32 0 0, .float .f32 0]), 2, 12) := by kernel_rfl
theorem make_h (n : Nat) (hn : n ≤ 1000) (W : World) : (Instr.makeSlice 102 (.int .i64 (n : Int)) (.int .i64 (n : Int))).run Try.prog W = .ok (.slice (some ⟨W.heap.size, 0, none⟩) n n) (W.alloc (.cells (madeCells #[.complex .f32 0 0, .float .f32 0] (n * 2)) 104)) := by
  obtain ⟨i, hi, hz, hs, hb⟩ : ∃ i, Try.prog.info? 104 = some i ∧ i.zero = some (.agg #[.complex .f32 0 0, .float .f32 0]) ∧ i.size = 2 ∧ i.bytes = 12 := by
    have h := Try.infoH
    cases hi : Try.prog.info? 104 with
    | none => rw [hi] at h; cases h
    | some i =>
      rw [hi] at h
      injection h with h
      injection h with h1 h2
      injection h2 with h2 h3
      exact ⟨i, rfl, h1, h2, h3⟩
  have hr := run_make (P := Try.prog) W 102 104 i _ Try.underlying102 hi hz .i64 .i64 n n (by omega) (Int.le_refl _) (by rw [hb]; omega) (by omega)
  rw [hs] at hr
  simp only [Int.toNat_natCast] at hr
  exact hr

/-- What stands in memory while rows are made. -/
structure ER (w0 : World) (C g H : Nat) (vA vB : Value) (m : Nat) (zs : List (Nat × Nat)) (wr : World) : Prop where
  below : Below w0.heap.size w0 wr
  lo : w0.heap.size ≤ C ∧ w0.heap.size ≤ g ∧ w0.heap.size ≤ H ∧ C ≠ g ∧ g ≠ H ∧ C ≠ H
  sz : C < wr.heap.size ∧ g < wr.heap.size ∧ H < wr.heap.size
  cA : wr.cell? ⟨C, 0, none⟩ = some vA
  cB : wr.cell? ⟨C, 1, none⟩ = some vB
  row : ∀ i, i < zs.length → wr.cell? ⟨g, i * 2, none⟩ = some (.complex .f32 (zs.getD i (0, 0)).1 (zs.getD i (0, 0)).2) ∧ wr.cell? ⟨g, i * 2 + 1, none⟩ = some (.float .f32 1065353216)
  there : ∀ j, j < m * 2 → (wr.cell? ⟨g, j, none⟩).isSome = true
  froz : ∀ j, wr.frozen? ⟨g, j, none⟩ = false
  pt : ∃ a b, wr.cell? ⟨H, 0, none⟩ = some (.complex .f32 a b)
  ptf : wr.frozen? ⟨H, 0, none⟩ = false
theorem ER.kept {w0 : World} {C g H : Nat} {vA vB : Value} {m : Nat} {zs : List (Nat × Nat)} {wr w' : World} (h : ER w0 C g H vA vB m zs wr) (hb : Below wr.heap.size wr w') : ER w0 C g H vA vB m zs w' := by
  have hc : ∀ a j, a < wr.heap.size → w'.cell? ⟨a, j, none⟩ = wr.cell? ⟨a, j, none⟩ := fun a j ha => World.cell?_of_block (hb.block a ha)
  have hz : ∀ a j, a < wr.heap.size → w'.frozen? ⟨a, j, none⟩ = wr.frozen? ⟨a, j, none⟩ := fun a j ha => World.frozen?_of_block (hb.block a ha)
  have hs := hb.size
  obtain ⟨s1, s2, s3⟩ := h.sz
  refine ⟨h.below.trans (hb.mono h.below.size), h.lo, ⟨by omega, by omega, by omega⟩, ?_, ?_, ?_, ?_, ?_, ?_, ?_⟩
  · rw [hc _ _ s1]; exact h.cA
  · rw [hc _ _ s1]; exact h.cB
  · intro i hi
    rw [hc _ _ s2, hc _ _ s2]
    exact h.row i hi
  · intro j hj
    rw [hc _ _ s2]
    exact h.there j hj
  · intro j
    rw [hz _ _ s2]
    exact h.froz j
  · obtain ⟨a, b, h1⟩ := h.pt
    exact ⟨a, b, by rw [hc _ _ s3]; exact h1⟩
  · rw [hz _ _ s3]
    exact h.ptf

theorem ER.store {w0 : World} {C g H : Nat} {vA vB : Value} {m : Nat} {zs : List (Nat × Nat)} {wr : World} (h : ER w0 C g H vA vB m zs wr) (i : Nat) (hi : i < m) (x y : Nat) (zs' : List (Nat × Nat))
    (hz : ∀ j, j < zs'.length → (j = i ∧ zs'.getD j (0, 0) = (x, y)) ∨ (j ≠ i ∧ j < zs.length ∧ zs'.getD j (0, 0) = zs.getD j (0, 0))) :
    ER w0 C g H vA vB m zs' ((wr.setCell ⟨g, i * 2, none⟩ (.complex .f32 x y)).setCell ⟨g, i * 2 + 1, none⟩ (.float .f32 1065353216)) := by
  obtain ⟨l1, l2, l3, l4, l5, l6⟩ := h.lo
  have hb1 : Below w0.heap.size w0 ((wr.setCell ⟨g, i * 2, none⟩ (.complex .f32 x y)).setCell ⟨g, i * 2 + 1, none⟩ (.float .f32 1065353216)) := (h.below.setCell (p := ⟨g, i * 2, none⟩) l2 _).setCell (p := ⟨g, i * 2 + 1, none⟩) l2 _
  have hsz : ((wr.setCell ⟨g, i * 2, none⟩ (.complex .f32 x y)).setCell ⟨g, i * 2 + 1, none⟩ (.float .f32 1065353216)).heap.size = wr.heap.size := by simp
  have ho : ∀ a j, (a ≠ g ∨ (j ≠ i * 2 ∧ j ≠ i * 2 + 1)) → ((wr.setCell ⟨g, i * 2, none⟩ (.complex .f32 x y)).setCell ⟨g, i * 2 + 1, none⟩ (.float .f32 1065353216)).cell? ⟨a, j, none⟩ = wr.cell? ⟨a, j, none⟩ := fun a j ha => by
    rw [World.cell?_setCell_other _ _ _ _ (by intro e; injection e with e1 e2; omega), World.cell?_setCell_other _ _ _ _ (by intro e; injection e with e1 e2; omega)]
  have hs1 : ((wr.setCell ⟨g, i * 2, none⟩ (.complex .f32 x y)).setCell ⟨g, i * 2 + 1, none⟩ (.float .f32 1065353216)).cell? ⟨g, i * 2, none⟩ = some (.complex .f32 x y) := by
    rw [World.cell?_setCell_other _ _ _ _ (by intro e; injection e with e1 e2; omega)]
    exact World.cell?_setCell_same' _ _ _ (h.there _ (by omega))
  have hs2 : ((wr.setCell ⟨g, i * 2, none⟩ (.complex .f32 x y)).setCell ⟨g, i * 2 + 1, none⟩ (.float .f32 1065353216)).cell? ⟨g, i * 2 + 1, none⟩ = some (.float .f32 1065353216) := by
    refine World.cell?_setCell_same' _ _ _ ?_
    rw [World.cell?_setCell_other _ _ _ _ (by intro e; injection e with e1 e2; omega)]
    exact h.there _ (by omega)
  have hfz : ∀ a, ((wr.setCell ⟨g, i * 2, none⟩ (.complex .f32 x y)).setCell ⟨g, i * 2 + 1, none⟩ (.float .f32 1065353216)).frozen? a = wr.frozen? a := fun a => by simp
  refine ⟨hb1, h.lo, by rw [hsz]; exact h.sz, ?_, ?_, ?_, ?_, ?_, ?_, ?_⟩
  · rw [ho _ _ (.inl l4)]; exact h.cA
  · rw [ho _ _ (.inl l4)]; exact h.cB
  · intro j hj
    rcases hz j hj with ⟨rfl, e⟩ | ⟨hne, hj2, e⟩
    · rw [e]
      exact ⟨hs1, hs2⟩
    · rw [e, ho _ _ (.inr (by omega)), ho _ _ (.inr (by omega))]
      exact h.row j hj2
  · intro j hj
    by_cases e1 : j = i * 2
    · rw [e1, hs1]; rfl
    · by_cases e2 : j = i * 2 + 1
      · rw [e2, hs2]; rfl
      · rw [ho _ _ (.inr ⟨e1, e2⟩)]
        exact h.there j hj
  · intro j
    rw [hfz]
    exact h.froz j
  · obtain ⟨a, b, h1⟩ := h.pt
    exact ⟨a, b, by rw [ho _ _ (.inl (fun e => l5 e.symm))]; exact h1⟩
  · rw [hfz]
    exact h.ptf
theorem ER.storePt {w0 : World} {C g H : Nat} {vA vB : Value} {m : Nat} {zs : List (Nat × Nat)} {wr : World} (h : ER w0 C g H vA vB m zs wr) (x y : Nat) :
    ER w0 C g H vA vB m zs (wr.setCell ⟨H, 0, none⟩ (.complex .f32 x y)) ∧ (wr.setCell ⟨H, 0, none⟩ (.complex .f32 x y)).cell? ⟨H, 0, none⟩ = some (.complex .f32 x y) := by
  obtain ⟨l1, l2, l3, l4, l5, l6⟩ := h.lo
  obtain ⟨a, b, hp⟩ := h.pt
  have ho : ∀ a j, a ≠ H → (wr.setCell ⟨H, 0, none⟩ (.complex .f32 x y)).cell? ⟨a, j, none⟩ = wr.cell? ⟨a, j, none⟩ := fun a j ha => by
    rw [World.cell?_setCell_other _ _ _ _ (by intro e; injection e with e1 e2; omega)]
  have hs : (wr.setCell ⟨H, 0, none⟩ (.complex .f32 x y)).cell? ⟨H, 0, none⟩ = some (.complex .f32 x y) := World.cell?_setCell_same' _ _ _ (by rw [hp]; rfl)
  have hfz : ∀ a, (wr.setCell ⟨H, 0, none⟩ (.complex .f32 x y)).frozen? a = wr.frozen? a := fun a => by simp
  refine ⟨⟨h.below.setCell (p := ⟨H, 0, none⟩) l3 _, h.lo, by rw [show (wr.setCell ⟨H, 0, none⟩ (.complex .f32 x y)).heap.size = wr.heap.size by simp]; exact h.sz, ?_, ?_, ?_, ?_, ?_, ?_, ?_⟩, hs⟩
  · rw [ho _ _ l6]; exact h.cA
  · rw [ho _ _ l6]; exact h.cB
  · intro j hj
    rw [ho _ _ l5, ho _ _ l5]
    exact h.row j hj
  · intro j hj
    rw [ho _ _ l5]
    exact h.there j hj
  · intro j
    rw [hfz]
    exact h.froz j
  · exact ⟨x, y, hs⟩
  · rw [hfz]
    exact h.ptf
theorem ER.less {w0 : World} {C g H : Nat} {vA vB : Value} {m : Nat} {zs zs' : List (Nat × Nat)} {wr : World} (h : ER w0 C g H vA vB m zs wr) (hl : zs'.length ≤ zs.length) (he : ∀ j, j < zs'.length → zs'.getD j (0, 0) = zs.getD j (0, 0)) : ER w0 C g H vA vB m zs' wr :=
  ⟨h.below, h.lo, h.sz, h.cA, h.cB, fun i hi => by rw [he i hi]; exact h.row i (by omega), h.there, h.froz, h.pt, h.ptf⟩

/-- The next row of a cutting, both parts. -/
def RowP (s t : Nat) (ys zs : List (Nat × Nat)) : Prop := zs.length + 1 = ys.length ∧ ∀ i, i < zs.length → Bl s t (ys.getD i (0, 0)).1 (ys.getD (i + 1) (0, 0)).1 (zs.getD i (0, 0)).1 ∧ Bl s t (ys.getD i (0, 0)).2 (ys.getD (i + 1) (0, 0)).2 (zs.getD i (0, 0)).2
inductive CutP (s t : Nat) : List (Nat × Nat) → Nat × Nat → Prop
  | one (r : Nat × Nat) : CutP s t [r] r
  | row {ys zs : List (Nat × Nat)} {r : Nat × Nat} : RowP s t ys zs → CutP s t zs r → CutP s t ys r

theorem getD_fst (zs : List (Nat × Nat)) (i : Nat) : (zs.map Prod.fst).getD i 0 = (zs.getD i (0, 0)).1 := by
  rw [List.getD_eq_getElem?_getD, List.getD_eq_getElem?_getD, List.getElem?_map]
  cases zs[i]? <;> rfl
theorem getD_snd (zs : List (Nat × Nat)) (i : Nat) : (zs.map Prod.snd).getD i 0 = (zs.getD i (0, 0)).2 := by
  rw [List.getD_eq_getElem?_getD, List.getD_eq_getElem?_getD, List.getElem?_map]
  cases zs[i]? <;> rfl
theorem CutP.fst {s t : Nat} {ys : List (Nat × Nat)} {r : Nat × Nat} (h : CutP s t ys r) : CutQ s t (ys.map Prod.fst) r.1 := by
  induction h with
  | one r => exact .one _
  | row hr _ ih => exact .row ⟨by simpa using hr.1, fun i hi => by rw [getD_fst, getD_fst, getD_fst]; exact (hr.2 i (by simpa using hi)).1⟩ ih
theorem CutP.snd {s t : Nat} {ys : List (Nat × Nat)} {r : Nat × Nat} (h : CutP s t ys r) : CutQ s t (ys.map Prod.snd) r.2 := by
  induction h with
  | one r => exact .one _
  | row hr _ ih => exact .row ⟨by simpa using hr.1, fun i hi => by rw [getD_snd, getD_snd, getD_snd]; exact (hr.2 i (by simpa using hi)).2⟩ ih

/-- Words of numbers within 7.9 and a little. -/
def W8 (j : Nat) (x : Nat) : Prop := x < 4294967296 ∧ ∃ q, FV .f32 x q ∧ -7.9 - 0.000002 * (j : Rat) ≤ q ∧ q ≤ 7.9 + 0.000002 * (j : Rat)
theorem W8.s8 {j x : Nat} (hj : j ≤ 8) (h : W8 j x) : S8 x := by
  obtain ⟨h1, q, h2, h3, h4⟩ := h
  have hj' : (j : Rat) ≤ 8 := Rat.natCast_le_natCast.2 hj
  exact ⟨h1, q, h2, by grind, by grind⟩
def All8 (j : Nat) (zs : List (Nat × Nat)) : Prop := ∀ i, i < zs.length → W8 j (zs.getD i (0, 0)).1 ∧ W8 j (zs.getD i (0, 0)).2
theorem All8.fin {j : Nat} {zs : List (Nat × Nat)} (h : All8 j zs) : FinP zs := fun i hi => by
  obtain ⟨⟨_, q, h1, _⟩, ⟨_, q', h2, _⟩⟩ := h i hi
  exact ⟨fv_fin h1, fv_fin h2⟩
theorem w8_bl {s t a b u v r j : Nat} {τ : Rat} (hj : j ≤ 7) (hw : Wt s t τ) (ha : W8 j a) (hb : W8 j b) (h : BlT s t a b u v r) : W8 (j + 1) r := by
  obtain ⟨_, α, a1, a2, a3⟩ := ha
  obtain ⟨_, β, b1, b2, b3⟩ := hb
  have hj' : (j : Rat) ≤ 7 := Rat.natCast_le_natCast.2 hj
  have hj0 : (0 : Rat) ≤ j := Rat.natCast_nonneg
  obtain ⟨c, c1, c2, c3⟩ := bl_near hw a1 b1 (by grind) (by grind) (by grind) (by grind) h.bl
  obtain ⟨d1, d2⟩ := convex a2 a3 b2 b3 hw.t0 hw.t1
  have e : ((j + 1 : Nat) : Rat) = (j : Rat) + 1 := by rw [Rat.natCast_add]; rfl
  exact ⟨lt32 (bits_lt h.hr), c, c1, by rw [e]; grind, by rw [e]; grind⟩

/-- A row of which the first numbers are those of the next one. -/
def Mix (s t : Nat) (zs zs' : List (Nat × Nat)) (q : Nat) : Prop :=
  zs'.length = zs.length ∧ (∀ j, j < q → ∃ u v u' v', BlT s t (zs.getD j (0, 0)).1 (zs.getD (j + 1) (0, 0)).1 u v (zs'.getD j (0, 0)).1 ∧ BlT s t (zs.getD j (0, 0)).2 (zs.getD (j + 1) (0, 0)).2 u' v' (zs'.getD j (0, 0)).2) ∧
  ∀ j, q ≤ j → zs'.getD j (0, 0) = zs.getD j (0, 0)
theorem getD_setP (zs : List (Nat × Nat)) (j : Nat) (r : Nat × Nat) (i : Nat) (h : j < zs.length) : (zs.set j r).getD i (0, 0) = if i = j then r else zs.getD i (0, 0) := by
  simp only [List.getD_eq_getElem?_getD, List.getElem?_set]
  by_cases hi : j = i
  · subst hi; simp [h]
  · rw [if_neg hi, if_neg (fun e => hi e.symm)]
theorem Mix.step {s t : Nat} {zs zs' : List (Nat × Nat)} {q : Nat} (h : Mix s t zs zs' q) (hq : q < zs.length) {x y u v u' v' : Nat} (h1 : BlT s t (zs.getD q (0, 0)).1 (zs.getD (q + 1) (0, 0)).1 u v x) (h2 : BlT s t (zs.getD q (0, 0)).2 (zs.getD (q + 1) (0, 0)).2 u' v' y) : Mix s t zs (zs'.set q (x, y)) (q + 1) := by
  obtain ⟨hl, ha, hb⟩ := h
  refine ⟨by rw [List.length_set, hl], fun j hj => ?_, fun j hj => ?_⟩
  · rw [getD_setP _ _ _ _ (by omega)]
    by_cases e : j = q
    · subst e
      rw [if_pos rfl]
      exact ⟨u, v, u', v', h1, h2⟩
    · rw [if_neg e]
      exact ha j (by omega)
  · rw [getD_setP _ _ _ _ (by omega), if_neg (by omega)]
    exact hb j (by omega)
theorem getD_takeP (zs : List (Nat × Nat)) (n i : Nat) (h : i < n) : (zs.take n).getD i (0, 0) = zs.getD i (0, 0) := by
  simp only [List.getD_eq_getElem?_getD, List.getElem?_take, if_pos h]
theorem Mix.row {s t : Nat} {zs zs' : List (Nat × Nat)} {q : Nat} (h : Mix s t zs zs' q) (hq : q + 1 = zs.length) : RowP s t zs (zs'.take q) := by
  obtain ⟨hl, ha, hb⟩ := h
  have hlen : (zs'.take q).length = q := by rw [List.length_take]; omega
  refine ⟨by omega, fun i hi => ?_⟩
  rw [hlen] at hi
  rw [getD_takeP _ _ _ hi]
  obtain ⟨u, v, u', v', h1, h2⟩ := ha i hi
  exact ⟨h1.bl, h2.bl⟩
theorem Mix.all8 {s t : Nat} {τ : Rat} (hw : Wt s t τ) {zs zs' : List (Nat × Nat)} {q j : Nat} (hj : j ≤ 7) (h : Mix s t zs zs' q) (hq : q + 1 = zs.length) (h8 : All8 j zs) : All8 (j + 1) (zs'.take q) := by
  obtain ⟨hl, ha, hb⟩ := h
  have hlen : (zs'.take q).length = q := by rw [List.length_take]; omega
  intro i hi
  rw [hlen] at hi
  rw [getD_takeP _ _ _ hi]
  obtain ⟨u, v, u', v', h1, h2⟩ := ha i hi
  have k1 := h8 i (by omega)
  have k2 := h8 (i + 1) (by omega)
  exact ⟨w8_bl hj hw k1.1 k2.1 h1, w8_bl hj hw k1.2 k2.2 h2⟩

set_option maxHeartbeats 1000000 in
theorem show_calls (H g n cap x y : Nat) (hn : 0 < n) (w : World) (hc : w.cell? ⟨g, 0, none⟩ = some (.complex .f32 x y)) (a b : Nat) (hH : w.cell? ⟨H, 0, none⟩ = some (.complex .f32 a b)) (hf : w.frozen? ⟨H, 0, none⟩ = false) :
    Calls Try.prog 94 #[.slice (some ⟨g, 0, none⟩) n cap, .pointer (some ⟨H, 0, none⟩)] w fun e w' => e = .returned (.tuple #[]) ∧ w' = w.setCell ⟨H, 0, none⟩ (.complex .f32 x y) := by
  have hn' : (0 : Int) < (n : Int) := by omega
  go_enter Try.func94, Try.ntmps94
  go_wp2_with fail
  go_end0
  exact ⟨rfl, rfl⟩

theorem ER.drewN {w0 : World} {C g H : Nat} {vA vB : Value} {m : Nat} {zs : List (Nat × Nat)} {wr : World} (h : ER w0 C g H vA vB m zs wr) (n : Nat) : ER w0 C g H vA vB m zs (wr.drewN n) :=
  ⟨below_drewN h.below n, h.lo, h.sz, h.cA, h.cB, h.row, h.there, h.froz, h.pt, h.ptf⟩
def lenS : Value → Nat
  | .slice _ n _ => n
  | _ => 0

/-- The rows so far, the last of them in memory, its first point told. -/
def ErOut (w0 : World) (C g H : Nat) (vA vB : Value) (m s t : Nat) (ps : List (Nat × Nat)) (v : Value) (wr : World) : Prop :=
  ∃ (zs : List (Nat × Nat)) (j : Nat), 0 < zs.length ∧ zs.length + j = m ∧ v = .slice (some ⟨g, 0, none⟩) zs.length m ∧ All8 j zs ∧ (∀ r, CutP s t zs r → CutP s t ps r) ∧ ER w0 C g H vA vB m zs wr ∧ wr.cell? ⟨H, 0, none⟩ = some (.complex .f32 (zs.getD 0 (0, 0)).1 (zs.getD 0 (0, 0)).2)
def ErIn (w0 : World) (C g H : Nat) (vA vB : Value) (m s t : Nat) (zs : List (Nat × Nat)) (i : Value) (wr : World) : Prop :=
  ∃ (q : Nat) (zs' : List (Nat × Nat)), q + 1 ≤ zs.length ∧ i = .int .i64 q ∧ Mix s t zs zs' q ∧ ER w0 C g H vA vB m zs' wr

set_option maxRecDepth 100000 in
set_option maxHeartbeats 8000000 in
theorem eachRow_calls (w0 : World) (A B : Option Addr) (ps : List (Nat × Nat)) (c1 c2 s t : Nat) (τ : Rat) (hw : WtT s t τ) (h2 : 2 ≤ ps.length) (hn : ps.length ≤ 8) (h8 : All8 0 ps) (hA : RdC w0 A ps) (hB : RdOne w0 B ps.length) (H : Nat) (w : World) (h0 : Below w0.heap.size w0 w) (hH : w0.heap.size ≤ H) (hH2 : H < w.heap.size)
    (a b : Nat) (hc : w.cell? ⟨H, 0, none⟩ = some (.complex .f32 a b)) (hf : w.frozen? ⟨H, 0, none⟩ = false) :
    Calls Try.prog 93 #[.agg #[.slice A ps.length c1, .slice B ps.length c2], .float .f32 t, .func (.func 94) #[] #[.pointer (some ⟨H, 0, none⟩)]] w fun e w' => ∃ x y, e = .returned (.tuple #[]) ∧ CutP s t ps (x, y) ∧ x < 4294967296 ∧ y < 4294967296 ∧ w'.cell? ⟨H, 0, none⟩ = some (.complex .f32 x y) ∧ Below w0.heap.size w0 w' := by
  have hmk := make_h ps.length (by omega)
  have hst : ER w0 w.heap.size (w.heap.size + 1) H (.slice A ps.length c1) (.slice B ps.length c2) ps.length [] ((w.alloc (Obj.cells #[.slice A ps.length c1, .slice B ps.length c2] 37)).alloc (.cells (madeCells #[.complex .f32 0 0, .float .f32 0] (ps.length * 2)) 104)) := by
    have hs0 := h0.size
    refine ⟨(h0.alloc h0.size _).alloc (by simp; omega) _, ⟨by omega, by omega, hH, by omega, by omega, by omega⟩, ⟨by simp; omega, by simp, by simp; omega⟩, ?_, ?_, ?_, ?_, ?_, ?_, ?_⟩
    · rw [World.cell?_alloc_past _ _ _ (by simp), World.cell?_alloc_at _ _ _ _ rfl]; rfl
    · rw [World.cell?_alloc_past _ _ _ (by simp), World.cell?_alloc_at _ _ _ _ rfl]; rfl
    · intro i hi; simp at hi
    · intro j hj
      rw [World.cell?_alloc_at _ _ _ _ (by simp)]
      have : (madeCells #[.complex .f32 0 0, .float .f32 0] (ps.length * 2)).size = ps.length * 2 := size_madeCells _ _
      simp [this, hj]
    · intro j; exact World.frozen?_alloc_at _ _ _ _ (by simp)
    · exact ⟨a, b, by rw [World.cell?_alloc_past _ _ _ (by simp; omega), World.cell?_alloc_past _ _ _ hH2, hc]⟩
    · rw [World.frozen?_alloc_past _ _ _ (by simp; omega), World.frozen?_alloc_past _ _ _ hH2, hf]
  have HST := Frame.hid hst
  have HW := Frame.hid hw
  have H8 := Frame.hid h8
  have H0 := Frame.hid h0
  obtain ⟨C, hC⟩ : ∃ C, C = w.heap.size := ⟨_, rfl⟩
  clear hst hw h8 hc hf
  go_enter Try.func93, Try.ntmps93
  go_wp2_with fail
  go_loopw [15] (fun i wr => ∃ k : Nat, k ≤ ps.length ∧ i = .int .i64 k ∧ ER w0 w.heap.size (w.heap.size + 1) H (.slice A ps.length c1) (.slice B ps.length c2) ps.length (ps.take k) wr) (fun i _ => ps.length - (intOf i).toNat)
  case atStart => exact ⟨0, Nat.zero_le _, rfl, HST.out⟩
  case round =>
    obtain ⟨k, hk, rfl, hE⟩ := hrel
    by_cases hlt : k < ps.length
    · have hlt' : (k : Int) < (ps.length : Int) := by omega
      have e1 := hE.cA
      have e2 := hE.cB
      go_wp2_with fail
      have hh := heavyPointOf_calls A B ps c1 c2 k hlt (by omega) wr (hA.below hE.below) (hB.below hE.below)
      obtain ⟨x, hx⟩ : ∃ x, x = (ps.getD k (0, 0)).1 := ⟨_, rfl⟩
      obtain ⟨y, hy⟩ : ∃ x, x = (ps.getD k (0, 0)).2 := ⟨_, rfl⟩
      rw [← hx, ← hy] at hh
      have HX := Frame.hid hx
      have HY := Frame.hid hy
      clear hx hy
      refine hh.mono ?_
      clear hh
      rintro e w1 ⟨rfl, hb⟩
      have HE1 := Frame.hid (hE.kept hb)
      obtain ⟨v1, d1⟩ := Option.isSome_iff_exists.1 (HE1.out.there (k * 2) (by omega))
      obtain ⟨v2, d2⟩ := Option.isSome_iff_exists.1 (HE1.out.there (k * 2 + 1) (by omega))
      have d4 := HE1.out.froz
      clear e1 e2 hE hb
      go_wp2_with fail
      go_roundw
      case rel =>
        refine ⟨k + 1, by omega, by go_num, HE1.out.store k hlt x y _ (fun j hj => ?_)⟩
        rw [List.length_take] at hj
        rw [getD_takeP _ _ _ (by omega), List.length_take]
        by_cases e : j = k
        · left
          refine ⟨e, ?_⟩
          rw [e, HX.out, HY.out]
        · right
          refine ⟨e, by omega, ?_⟩
          rw [getD_takeP _ _ _ (by omega)]
      case measure => simp [intOf]; omega
    · have hkn : k = ps.length := by omega
      subst hkn
      rw [List.take_length] at hE
      have HE := Frame.hid hE
      obtain ⟨p1, p2, hp⟩ := hE.pt
      obtain ⟨x0, hx0⟩ : ∃ x, x = (ps.getD 0 (0, 0)).1 := ⟨_, rfl⟩
      obtain ⟨y0, hy0⟩ : ∃ x, x = (ps.getD 0 (0, 0)).2 := ⟨_, rfl⟩
      have hr0 := (hE.row 0 (by omega)).1
      rw [← hx0, ← hy0] at hr0
      have hpf := hE.ptf
      have HQ : Hid (ErOut w0 w.heap.size (w.heap.size + 1) H (.slice A ps.length c1) (.slice B ps.length c2) ps.length s t ps (.slice (some ⟨w.heap.size + 1, 0, none⟩) ps.length ps.length) (wr.setCell ⟨H, 0, none⟩ (.complex .f32 x0 y0))) :=
        Frame.hid ⟨ps, 0, by omega, by omega, rfl, H8.out, fun r hr => hr, (HE.out.storePt _ _).1, by rw [hx0, hy0]; exact (HE.out.storePt _ _).2⟩
      clear hE hlt hx0 hy0
      go_wp2_with fail
      refine (show_calls H _ _ _ _ _ (by omega) _ (by simpa using hr0) _ _ hp hpf).mono ?_
      rintro e w1 ⟨rfl, rfl⟩
      clear hr0 hp hpf HE
      go_wp2_with fail
      go_loopw [6] (fun v wr => ErOut w0 w.heap.size (w.heap.size + 1) H (.slice A ps.length c1) (.slice B ps.length c2) ps.length s t ps v wr) (fun v _ => lenS v)
      case atStart => exact HQ.out
      case round =>
        obtain ⟨zs, j, hz0, hzj, rfl, h8, hcut, hE, hpt⟩ := hrel
        have HZ8 := Frame.hid h8
        have HCUT := Frame.hid hcut
        have HE := Frame.hid hE
        have HPT := Frame.hid hpt
        clear h8 hcut hE hpt HQ
        by_cases hz1 : 1 < zs.length
        · have hz1' : (1 : Int) < (zs.length : Int) := by omega
          have HIN : Hid (ErIn w0 w.heap.size (w.heap.size + 1) H (.slice A ps.length c1) (.slice B ps.length c2) ps.length s t zs (.int .i64 0) wr) := Frame.hid ⟨0, zs, by omega, rfl, ⟨rfl, fun j hj => absurd hj (by omega), fun j _ => rfl⟩, HE.out⟩
          go_wp2_with fail
          go_loopw [34] (fun i wr => ErIn w0 w.heap.size (w.heap.size + 1) H (.slice A ps.length c1) (.slice B ps.length c2) ps.length s t zs i wr) (fun i _ => zs.length - (intOf i).toNat)
          case atStart => exact HIN.out
          case round =>
            obtain ⟨q, zs', hq, rfl, hM, hE⟩ := hrel
            clear HIN
            by_cases hqz : q + 1 < zs.length
            · have hqz' : (q : Int) < (zs.length : Int) - 1 := by omega
              have HM := Frame.hid hM
              have HE2 := Frame.hid hE
              clear hM hE
              go_wp2_with fail
              have hl' : zs'.length = zs.length := HM.out.1
              obtain ⟨r1, r2⟩ := HE2.out.row q (by omega)
              obtain ⟨r3, r4⟩ := HE2.out.row (q + 1) (by omega)
              rw [HM.out.2.2 q (Nat.le_refl _)] at r1
              rw [HM.out.2.2 (q + 1) (by omega)] at r3
              have k1 := HZ8.out q (by omega)
              have k2 := HZ8.out (q + 1) (by omega)
              obtain ⟨u1, v1, x1, hb1⟩ := bl_told HW.out.toWt (k1.1.s8 (by omega)) (k2.1.s8 (by omega))
              obtain ⟨u2, v2, x2, hb2⟩ := bl_told HW.out.toWt (k1.2.s8 (by omega)) (k2.2.s8 (by omega))
              have HM2 := Frame.hid (HM.out.step (by omega) hb1 hb2)
              have HBL := Frame.hid (blend_calls _ _ _ _ _ _ _ _ _ _ HW.out hb1 hb2)
              clear hb1 hb2 k1 k2
              obtain ⟨a1, ha1⟩ : ∃ x, x = (zs.getD q (0, 0)).1 := ⟨_, rfl⟩
              obtain ⟨a2, ha2⟩ : ∃ x, x = (zs.getD q (0, 0)).2 := ⟨_, rfl⟩
              obtain ⟨b1, hb1⟩ : ∃ x, x = (zs.getD (q + 1) (0, 0)).1 := ⟨_, rfl⟩
              obtain ⟨b2, hb2⟩ : ∃ x, x = (zs.getD (q + 1) (0, 0)).2 := ⟨_, rfl⟩
              rw [← ha1, ← ha2] at r1 HBL
              rw [← hb1, ← hb2] at r3 HBL
              clear ha1 ha2 hb1 hb2
              have r3' : wr.cell? ⟨w.heap.size + 1, (q + 1) * 2, none⟩ = some (.complex .f32 b1 b2) := r3
              have r4' : wr.cell? ⟨w.heap.size + 1, (q + 1) * 2 + 1, none⟩ = some (.float .f32 1065353216) := r4
              have hq1 : (q : Int) < (zs.length : Int) := by omega
              have hq2 : (q : Int) + 1 < (zs.length : Int) := by omega
              have hq4 : ¬ ((q : Int) + 1 < 0) := by omega
              have hq5 : 0 ≤ (q : Int) + 1 := by omega
              have hq6 : ((q : Int) + 1).toNat = q + 1 := by omega
              have hwr : IntKind.i64.wrap ((q : Int) + 1) = ((q + 1 : Nat) : Int) := by rw [IntKind.wrap_i64]; omega
              have hq3 : (zs.length : Int) ≤ 8 := by omega
              go_region_with (first | (go_at_call 112; refine (HBL.out _).mono ?_; rintro e w1 ⟨rfl, hb⟩; have HE3 := Frame.hid ((HE2.out.drewN 1).kept hb); obtain ⟨z1, d1⟩ := Option.isSome_iff_exists.1 (HE3.out.there (q * 2) (by omega)); obtain ⟨z2, d2⟩ := Option.isSome_iff_exists.1 (HE3.out.there (q * 2 + 1) (by omega)); have d4 := HE3.out.froz))
              all_goals
                clear r1 r2 r3 r4 r3' r4' HM hq2 hq4 hq5 hq6 hwr
                go_wp2_with fail
                go_roundw
                case rel =>
                  refine ⟨q + 1, _, by omega, by go_num, HM2.out, HE3.out.store q (by omega) x1 x2 _ (fun j hj => ?_)⟩
                  rw [List.length_set] at hj
                  rw [getD_setP _ _ _ _ (by omega)]
                  by_cases e : j = q
                  · left; exact ⟨e, if_pos e⟩
                  · right; exact ⟨e, hj, if_neg e⟩
                case measure => simp [intOf]; omega
            · have hqe : q + 1 = zs.length := by omega
              have hl' : zs'.length = zs.length := hM.1
              obtain ⟨p, hp⟩ : ∃ p, p = zs'.take q := ⟨_, rfl⟩
              have hpl : p.length = q := by rw [hp, List.length_take]; omega
              have HR := Frame.hid (show RowP s t zs p by rw [hp]; exact hM.row hqe)
              have HP8 := Frame.hid (show All8 (j + 1) p by rw [hp]; exact hM.all8 HW.out.toWt (by omega) hqe HZ8.out)
              have HE2 : Hid (ER w0 w.heap.size (w.heap.size + 1) H (.slice A ps.length c1) (.slice B ps.length c2) ps.length p wr) := Frame.hid (hE.less (by omega) (fun i hi => by rw [hp, getD_takeP _ _ _ (by omega)]))
              obtain ⟨a1, a2, hpp⟩ := HE2.out.pt
              obtain ⟨x1, hx1⟩ : ∃ x, x = (p.getD 0 (0, 0)).1 := ⟨_, rfl⟩
              obtain ⟨y1, hy1⟩ : ∃ x, x = (p.getD 0 (0, 0)).2 := ⟨_, rfl⟩
              have hr0 := (HE2.out.row 0 (by omega)).1
              rw [← hx1, ← hy1] at hr0
              have hpf := HE2.out.ptf
              have hqi : (zs.length : Int) - 1 = (q : Int) := by omega
              have HX1 := Frame.hid hx1
              have HY1 := Frame.hid hy1
              clear hM hE hqz hp hx1 hy1
              go_wp2_with fail
              refine (show_calls H _ _ _ _ _ (by omega) _ (by simpa using hr0) _ _ hpp hpf).mono ?_
              rintro e w1 ⟨rfl, rfl⟩
              clear hr0 hpp hpf
              go_wp2_with fail
              go_roundw
              case rel =>
                refine ⟨p, j + 1, by omega, by omega, by rw [hpl], HP8.out, fun r hr => HCUT.out r (.row HR.out hr), (HE2.out.storePt _ _).1, ?_⟩
                rw [← HX1.out, ← HY1.out]
                exact (HE2.out.storePt _ _).2
              case measure => simp [lenS]; omega
        · have hzz : zs.length = 1 := by omega
          have hfin : Hid (∃ x y, CutP s t ps (x, y) ∧ x < 4294967296 ∧ y < 4294967296 ∧ wr.cell? ⟨H, 0, none⟩ = some (.complex .f32 x y) ∧ Below w0.heap.size w0 wr) := by
            refine Frame.hid ⟨(zs.getD 0 (0, 0)).1, (zs.getD 0 (0, 0)).2, HCUT.out _ ?_, (HZ8.out 0 (by omega)).1.1, (HZ8.out 0 (by omega)).2.1, HPT.out, HE.out.below⟩
            match zs, hzz with
            | [z], _ => exact .one _
          have hz1' : ¬ (1 : Int) < (zs.length : Int) := by omega
          go_wp2_with fail
          go_end0
          obtain ⟨x, y, g1, g2, g3, g4, g5⟩ := hfin.out
          exact ⟨rfl, x, y, g1, g2, g3, g4, g5⟩

end Go.Proofs.Ytbdmmpkphiilkaa
