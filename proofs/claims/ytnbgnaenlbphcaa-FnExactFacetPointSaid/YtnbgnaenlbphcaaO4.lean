/-
  Nets are valid: the program's sides.
-/
import Derived.Test.YtnbgnaenlbphcaaO3
import Derived.Test.YtnbgnaenlbphcaaKg
namespace Go.Proofs.Ytnbgnaenlbphcaa
open Go.RowKit Fl Go.WideShapes Go.Deep
attribute [local go_sem] kstore_f kalloc_drewN kset_drewN hstore_i hstore_s

set_option maxRecDepth 100000 in
theorem cloneI_calls (b off c n : Nat) (xs : List Int) (hx : n = xs.length) (h1 : 1 ≤ n) (hn : n ≤ 100000) (w : World) (hA : RdJ w (some ⟨b, off, none⟩) xs) :
    Calls Try.prog 142 #[.slice (some ⟨b, off, none⟩) n c] w fun e w' => ∃ v, e = .returned v ∧ OwnI w' w.heap.size v xs ∧ Below w.heap.size w w' := by
  obtain ⟨i0, hi, hz0, hz1, hz2⟩ := info_parts infoI64
  have hnews : ∀ j u, (xs.map (Value.int .i64))[j]? = some u → (w.alloc (.cells #[] 2)).cell? ((⟨b, off, none⟩ : Addr).add j) = some u := by
    intro j u hj
    obtain ⟨b', o', e, hl, hc⟩ := hA (by omega)
    injection e with e
    injection e with e1 e2
    subst e1
    subst e2
    rw [add_plain, World.cell?_alloc_past _ _ _ hl]
    have hjl : j < xs.length := by have := (List.getElem?_eq_some_iff.1 hj).1; simpa using this
    rw [hc j hjl]
    rw [List.getElem?_map, List.getElem?_eq_getElem hjl] at hj
    rw [List.getD_eq_getElem?_getD, List.getElem?_eq_getElem hjl]
    exact hj
  have HN := Frame.hid hnews
  have HX := Frame.hid hx
  have hlen : (xs.map (Value.int .i64)).length = n * 1 := by simp [hx]
  have HL := Frame.hid hlen
  have hone : ∀ u ∈ xs.map (Value.int .i64), u.oneCell' = true := by
    intro u hu
    obtain ⟨z, _, rfl⟩ := List.mem_map.1 hu
    rfl
  have HO1 := Frame.hid hone
  have hnil : ∀ W, (binOp .eql 92 (.slice (some ⟨b, off, none⟩) n c) (.slice none 0 0)).run Try.prog W = .ok (.bool false) W := by
    intro W
    simp [binOp, go_sem, run_equal_slice_nil (P := Try.prog) W 92 2 (some ⟨b, off, none⟩) n c Try.underlying92]
  clear hA hnews hx hlen hone
  go_enter Try.func142, Try.ntmps142
  go_wp2_with (at_builtin; refine wpList_append_own _ rfl _ _ 92 rfl w.heap.size 2 i0 (.int .i64 0) 1 8 Try.underlying92 hi hz0 hz1 hz2 rfl (by decide) _ _ _ rfl (none_litI w) ⟨b, off, none⟩ n _ (xs.map (Value.int .i64)) rfl HL.out HN.out HO1.out (by show 0 + n ≤ maxLen; unfold maxLen; omega) (by show (0 + n) * 8 ≤ _; omega) (by simp) ?_; intro v' w3 hown' hgrow3 hnil3)
  have hgrow4 : (w.alloc (.cells #[] 2)).grownBy w3 (some w.heap.size) := hgrow3
  have HB : Hid (Below w.heap.size w w3) := Frame.hid (Below.grown ((Below.refl _ w).alloc (Nat.le_refl _) _) hgrow4 (by simp) (fun k hk => by injection hk with hk; omega))
  have HO : Hid (OwnI w3 w.heap.size v' xs) := Frame.hid (by unfold OwnI; rw [← HX.out]; have h := hown'; simp only [List.length_nil, Nat.zero_add, List.map_nil, List.nil_append] at h; exact h)
  clear hown' hgrow3 hgrow4 hnil3
  go_wp2_with fail
  go_ret
  exact ⟨_, rfl, HO.out, HB.out⟩

theorem ownI_someC {w : World} {B : Nat} {v : Value} {ys : List Int} (h : OwnI w B v ys) (h0 : 0 < ys.length) : ∃ g cap, v = .slice (some ⟨g, 0, none⟩) ys.length cap ∧ B ≤ g ∧ g < w.heap.size ∧ ys.length ≤ cap := by
  rcases h.2 with ⟨_, e⟩ | ⟨g, cap, cur, hv, hb, hg, hc, _⟩
  · omega
  · exact ⟨g, cap, hv, hb, (Array.getElem?_eq_some_iff.1 hg).1, hc⟩

/-- A slice of sides that a facet gives. -/
def SdsIs (w : World) (f : List Int) (e : Ending) (w' : World) : Prop := ∃ g, e = .returned (.slice (some ⟨g, 0, none⟩) f.length f.length) ∧ (∀ j, j < f.length → w'.cell? ⟨g, j * 2, none⟩ = some (.int .i64 (f.getD j 0)) ∧ w'.cell? ⟨g, j * 2 + 1, none⟩ = some (.int .i64 (f.getD ((j + 1) % f.length) 0))) ∧ g < w'.heap.size ∧ w.heap.size ≤ g ∧ Below w.heap.size w w'
theorem infoSide : (Try.prog.info? 107).map (fun i => (i.zero, i.size, i.bytes)) = some (some (.agg #[.int .i64 0, .int .i64 0]), 2, 16) := by kernel_rfl

/-- The sides filled so far. -/
structure FilN (g n : Nat) (w0 : World) (f : List Int) (k : Nat) (wr : World) : Prop where
  r : ∃ cs : Array Value, wr.heap[g]? = some (.cells cs 107 (0, 0)) ∧ cs.size = n * 2 ∧ ∀ j, j < k → cs[j * 2]? = some (.int .i64 (f.getD j 0)) ∧ cs[j * 2 + 1]? = some (.int .i64 (f.getD ((j + 1) % n) 0))
  l : Below g w0 wr
theorem FilN.step {g n k : Nat} {w0 wr : World} {f : List Int} {x y : Int} (h : FilN g n w0 f k wr) (hk : k < n) (hx : x = f.getD k 0) (hy : y = f.getD ((k + 1) % n) 0) : FilN g n w0 f (k + 1) ((wr.setCell ⟨g, k * 2, none⟩ (.int .i64 x)).setCell ⟨g, k * 2 + 1, none⟩ (.int .i64 y)) := by
  obtain ⟨cs, h1, h2, h3⟩ := h.r
  refine ⟨⟨(cs.setIfInBounds (k * 2) (.int .i64 x)).setIfInBounds (k * 2 + 1) (.int .i64 y), heap_setB _ (heap_setB _ h1), by simpa using h2, fun j hj => ?_⟩, (h.l.setCell (p := ⟨g, _, none⟩) (Nat.le_refl _) _).setCell (p := ⟨g, _, none⟩) (Nat.le_refl _) _⟩
  by_cases e : j = k
  · subst e
    constructor
    · rw [Array.getElem?_setIfInBounds_ne (by omega), Array.getElem?_setIfInBounds_self_of_lt (by omega), hx]
    · rw [Array.getElem?_setIfInBounds_self_of_lt (by simp; omega), hy]
  · obtain ⟨a, b⟩ := h3 j (by omega)
    constructor
    · rw [Array.getElem?_setIfInBounds_ne (by omega), Array.getElem?_setIfInBounds_ne (by omega)]; exact a
    · rw [Array.getElem?_setIfInBounds_ne (by omega), Array.getElem?_setIfInBounds_ne (by omega)]; exact b
theorem FilN.here {g n k : Nat} {w0 wr : World} {f : List Int} (h : FilN g n w0 f k wr) (hk : k < n) : (∃ u, wr.cell? ⟨g, k * 2, none⟩ = some u) ∧ (∃ u, wr.cell? ⟨g, k * 2 + 1, none⟩ = some u) ∧ (∀ i, wr.frozen? ⟨g, i, none⟩ = false) ∧ g < wr.heap.size := by
  obtain ⟨cs, h1, h2, h3⟩ := h.r
  refine ⟨⟨cs[k * 2]'(by omega), ?_⟩, ⟨cs[k * 2 + 1]'(by omega), ?_⟩, fun i => frozen_rowJ h1, (Array.getElem?_eq_some_iff.1 h1).1⟩
  · rw [cell_of_row wr g _ cs _ (0, 0) h1, Array.getElem?_eq_getElem]
  · rw [cell_of_row wr g _ cs _ (0, 0) h1, Array.getElem?_eq_getElem]

set_option maxRecDepth 100000 in
set_option maxHeartbeats 4000000 in
theorem neighboursI_calls (b off c n : Nat) (f : List Int) (hx : n = f.length) (h3 : 3 ≤ n) (hn : n ≤ 8) (w : World) (hA : RdJ w (some ⟨b, off, none⟩) f) :
    Calls Try.prog 131 #[.slice (some ⟨b, off, none⟩) n c, .bool true] w (SdsIs w f) := by
  obtain ⟨i0, hi, hz0, hz1, hz2⟩ := info_parts infoI64
  obtain ⟨j0, hj, hy0, hy1, hy2⟩ := info_parts infoSide
  have HC := Frame.hid (cloneI_calls b off c n f hx (by omega) (by omega) w hA)
  obtain ⟨b', o', e, hb, hc⟩ := hA (by omega)
  injection e with e
  injection e with e1 e2
  subst e1
  subst e2
  have HR := Frame.hid hA
  have HX := Frame.hid hx
  have C0 := Frame.hid (hc 0 (by omega))
  have HB1 := Frame.hid hb
  obtain ⟨x0, hx0⟩ : ∃ x0, x0 = f.getD 0 0 := ⟨_, rfl⟩
  rw [← hx0] at C0
  have HX0 := Frame.hid hx0
  clear hA hx hc hx0
  go_enter Try.func131, Try.ntmps131
  go_wp2_with (first
    | (go_at_call 142; refine HC.out.mono ?_; rintro e w' ⟨v, rfl, hO, hB⟩; have HO := Frame.hid hO; have HB := Frame.hid hB; have c0 := (hB.cell (p := ⟨b, off + 0, none⟩) HB1.out).trans C0.out; rw [Nat.add_zero] at c0; have hO1 := hO; unfold OwnI at hO1; rw [← HX.out] at hO1; have hsz := hB.size; clear hO hB)
    | (at_builtin; refine wpList_append_own _ rfl _ _ 92 rfl w.heap.size 2 i0 (.int .i64 0) 1 8 Try.underlying92 hi hz0 hz1 hz2 rfl (by decide) _ _ _ rfl (hO1.alloc _) ⟨_, 0, none⟩ 1 1 [.int .i64 x0] rfl rfl (cell_one_new _ _ _) (fun x hx => by simp at hx; subst hx; rfl) (by unfold maxLen; omega) (by omega) (by simp; omega) ?_; intro v4 w4 hown4 hgrow4 hnil4; have hO5 : OwnI w4 w.heap.size v4 (f ++ [x0]) := OwnI.app HX.out hown4; obtain ⟨N1, hN1⟩ : ∃ N1, N1 = n + 1 := ⟨_, rfl⟩; have hlen : (f ++ [x0]).length = N1 := (by rw [List.length_append, ← HX.out, hN1]; rfl); obtain ⟨g4, cap4, hv4, hg4, hl4, hc4⟩ := ownI_someC hO5 (by simp); rw [hlen] at hv4 hc4; subst hv4; have HN1 := Frame.hid hN1; have HO5 := Frame.hid hO5; have HLEN := Frame.hid hlen; have HB4 : Hid (Below w.heap.size w w4) := Below.grown (HB.out.alloc HB.out.size _) hgrow4 (by have := HB.out.size; simp; omega) (fun k hk => (World.ownsRow.lt HO.out k hk).1); have hw1 : IntKind.i64.wrap ((N1 : Int) - 1) = (n : Int) := (by rw [IntKind.wrap_i64]; omega); have hsz4 := HB4.out.size; clear hown4 hgrow4 hnil4 hO5 hlen hN1 hO1 c0 hsz)
    | (at_make; refine wpList_make_full _ rfl _ _ 104 rfl w.heap.size 107 j0 (.agg #[.int .i64 0, .int .i64 0]) 2 Try.underlying104 hj hy0 hy1 _ _ _ _ n rfl rfl rfl rfl (by rw [hy2]; omega) (by unfold maxLen; omega) hsz4 ?_; intro w5 hown5 hgrow5))
  obtain ⟨g6, hg6⟩ : ∃ g6, g6 = w4.heap.size := ⟨_, rfl⟩
  rw [← hg6] at hown5 hl4 ⊢
  have hblk : ∃ cs : Array Value, w5.heap[g6]? = some (.cells cs 107 (0, 0)) ∧ cs.size = n * 2 := by
    rcases hown5.2 with ⟨h0, _⟩ | ⟨g', cap, cur, hv, _, hh, _, _, hsz, _⟩
    · cases h0
    · cases hv
      exact ⟨cur, hh, hsz⟩
  have HF0 : Hid (FilN g6 n w4 f 0 w5) := by
    obtain ⟨cs, h1, h2⟩ := hblk
    exact ⟨⟨cs, h1, h2, fun j hj => absurd hj (by omega)⟩, by rw [hg6]; exact (Below.refl _ _).grown hgrow5 (Nat.le_refl _) (by simp)⟩
  have HG6 := Frame.hid hg6
  clear hown5 hgrow5 hblk hg6 hw1 hsz4 hi hz0 hz1 hz2 hj hy0 hy1 hy2 HC HB HO
  go_loopw [23] (fun iv wr => ∃ i : Nat, i ≤ n ∧ iv = .int .i64 i ∧ FilN g6 n w4 f i wr) (fun iv _ => n - (intOf iv).toNat)
  case atStart => exact ⟨0, Nat.zero_le _, rfl, HF0.out⟩
  case round =>
    obtain ⟨i, hi, rfl, hF⟩ := hrel
    have HF := Frame.hid hF
    by_cases hlt : i < n
    · obtain ⟨⟨u1, hu1⟩, ⟨u2, hu2⟩, hfz, hgl⟩ := hF.here hlt
      have hf1 := hfz (i * 2)
      have hf2 := hfz (i * 2 + 1)
      obtain ⟨x, hx⟩ : ∃ x, x = f.getD i 0 := ⟨_, rfl⟩
      obtain ⟨y, hy⟩ : ∃ y, y = f.getD ((i + 1) % n) 0 := ⟨_, rfl⟩
      have c1 : wr.cell? ⟨g4, i, none⟩ = some (.int .i64 x) := by
        rw [hF.l.cell (p := ⟨g4, i, none⟩) hl4, HO5.out.cell HLEN.out.symm (by rw [HLEN.out, HN1.out]; omega), hx]
        rw [List.getD_eq_getElem?_getD, List.getElem?_append_left (by have := HX.out; omega), ← List.getD_eq_getElem?_getD]
      have c2 : wr.cell? ⟨g4, i + 1, none⟩ = some (.int .i64 y) := by
        rw [hF.l.cell (p := ⟨g4, i + 1, none⟩) hl4, HO5.out.cell HLEN.out.symm (by rw [HLEN.out, HN1.out]; omega), hy]
        by_cases e : i + 1 < n
        · rw [Nat.mod_eq_of_lt e, List.getD_eq_getElem?_getD, List.getElem?_append_left (by have := HX.out; omega), ← List.getD_eq_getElem?_getD]
        · have e2 : i + 1 = f.length := by have := HX.out; omega
          have e3 : (i + 1) % n = 0 := by rw [e2, ← HX.out, Nat.mod_self]
          rw [e3, ← HX0.out, e2, List.getD_eq_getElem?_getD, List.getElem?_append_right (Nat.le_refl _), Nat.sub_self]
          rfl
      have p0 : (0 : Int) ≤ (i : Int) := by omega
      have p1 : (i : Int) + 2 ≤ (cap4 : Int) := by have := HN1.out; omega
      have p2 : (i : Int) ≤ (i : Int) + 2 := by omega
      have HXX := Frame.hid hx
      have HYY := Frame.hid hy
      have hat : ∀ W, (Instr.arrayAt 107 (.slice (some ⟨g4, i, none⟩) 2 (cap4 - i))).run Try.prog W = .ok (.pointer (some ⟨g4, i, none⟩)) W := by
        intro W
        simp [Instr.arrayAt, go_sem]
      clear hfz hx hy hF
      go_wp2
      exact ⟨⟨i + 1, by omega, by go_num, HF.out.step hlt HXX.out HYY.out⟩, by simp [intOf]; omega⟩
    · have hin : i = n := by omega
      have HIN := Frame.hid hin
      clear hF hin
      go_wp2
      go_ret
      have hF := HF.out
      rw [HIN.out] at hF
      obtain ⟨cs, h1, h2, h3⟩ := hF.r
      have hx := HX.out
      refine ⟨g6, by rw [← hx]; rfl, fun j hj => ?_, (Array.getElem?_eq_some_iff.1 h1).1, by rw [HG6.out]; exact HB4.out.size, HB4.out.trans (hF.l.mono (by rw [HG6.out]; exact HB4.out.size))⟩
      obtain ⟨a, b'⟩ := h3 j (by omega)
      constructor
      · rw [cell_of_row wr g6 _ cs _ (0, 0) h1]; exact a
      · rw [cell_of_row wr g6 _ cs _ (0, 0) h1, ← hx]; exact b'

set_option maxRecDepth 100000 in
theorem sides_calls (b off c n : Nat) (f : List Int) (hx : n = f.length) (h3 : 3 ≤ n) (hn : n ≤ 8) (w : World) (hA : RdJ w (some ⟨b, off, none⟩) f) :
    Calls Try.prog 76 #[.agg #[.slice (some ⟨b, off, none⟩) n c]] w (SdsIs w f) := by
  have hB := (Below.refl w.heap.size w).alloc (Nat.le_refl _) (.cells #[.slice (some ⟨b, off, none⟩) n c] 94)
  have HC := Frame.hid (neighboursI_calls b off c n f hx h3 hn _ (hA.below hB))
  have HB := Frame.hid hB
  clear hA hB hx
  go_enter Try.func76, Try.ntmps76
  go_wp2_with (go_at_call 131; refine HC.out.mono ?_; rintro e w' ⟨g, rfl, h1, h2, h3, h4⟩; have H1 := Frame.hid h1; have H4 := Frame.hid h4; clear h1 h4)
  go_ret
  exact ⟨g, rfl, H1.out, h2, Nat.le_trans HB.out.size h3, HB.out.trans (H4.out.mono HB.out.size)⟩

end Go.Proofs.Ytnbgnaenlbphcaa
