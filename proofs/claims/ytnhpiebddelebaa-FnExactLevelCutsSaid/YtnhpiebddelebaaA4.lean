/-
  The area of tiles: the program's side.
-/
import Derived.Test.YtnhpiebddelebaaA3
import Derived.Deep.AppendLies
import Derived.Laws.OwnMore
namespace Go.Proofs.Ytnhpiebddelebaa
open Go.RowKit Fl Go.WideShapes Go.Deep
attribute [local go_sem] kstore_f kalloc_drewN kset_drewN hstore_i hstore_s

theorem flat9 {α : Type} (f : α → List Value) (hf : ∀ x, (f x).length = 9) : ∀ (l : List α) (t i : Nat) (_ : i < 9) (ht : t < l.length), (l.flatMap f)[t * 9 + i]? = (f l[t])[i]?
  | [], _, _, _, ht => by simp at ht
  | x :: l, 0, i, hi, _ => by
    rw [List.flatMap_cons, List.getElem?_append_left (by rw [hf]; omega)]
    simp
  | x :: l, t + 1, i, hi, ht => by
    rw [List.flatMap_cons, List.getElem?_append_right (by rw [hf]; omega), hf, show (t + 1) * 9 + i - 9 = t * 9 + i by omega, flat9 f hf l t i hi (by simpa using ht)]
    simp
theorem triAll_at (xs : List (Nat × Nat × Nat)) (m k T t i : Nat) (hi : i < 9) (ht : t < T) : (triAll xs m k (List.finRange T))[t * 9 + i]? = (triCells xs (crn m k (3 * t)) (crn m k (3 * t + 1)) (crn m k (3 * t + 2)))[i]? := by
  unfold triAll
  rw [flat9 _ (fun _ => rfl) _ t i hi (by simpa using ht)]
  simp

/-- The area of one triangle of tiles. -/
def TriS (xs : List (Nat × Nat × Nat)) (m k t r : Nat) (ok : Bool) : Prop := TriR (sx xs (crn m k (3 * t))) (sy xs (crn m k (3 * t))) (sz xs (crn m k (3 * t))) (sx xs (crn m k (3 * t + 1))) (sy xs (crn m k (3 * t + 1))) (sz xs (crn m k (3 * t + 1))) (sx xs (crn m k (3 * t + 2))) (sy xs (crn m k (3 * t + 2))) (sz xs (crn m k (3 * t + 2))) r ok
/-- The sum of the areas of the triangles so far. -/
def SumA (xs : List (Nat × Nat × Nat)) (m k : Nat) : Nat → Nat → Prop
  | 0, s => s = 0
  | t + 1, s => ∃ u r, SumA xs m k t u ∧ TriS xs m k t r true ∧ FOp .add .f32 u r s
theorem SumA.same {xs : List (Nat × Nat × Nat)} {m k : Nat} : ∀ {t s s' : Nat}, SumA xs m k t s → SumA xs m k t s' → FSame .f32 s s'
  | 0, _, _, h, g => by rw [show _ = _ from h, show _ = _ from g]; exact FSame.refl _ _
  | _ + 1, _, _, ⟨_, _, h1, h2, h3⟩, ⟨_, _, g1, g2, g3⟩ => FOp.same (SumA.same h1 g1) ((TriR.same h2 g2).2 rfl) h3 g3
theorem SumA.all {xs : List (Nat × Nat × Nat)} {m k : Nat} : ∀ {t s : Nat}, SumA xs m k t s → ∀ j, j < t → ∃ r, TriS xs m k j r true
  | 0, _, _, j, hj => by omega
  | t + 1, _, ⟨_, r, h1, h2, _⟩, j, hj => by
    rcases (by omega : j < t ∨ j = t) with h | rfl
    · exact SumA.all h1 j h
    · exact ⟨r, h2⟩
def AoS (xs : List (Nat × Nat × Nat)) (m k T r : Nat) (ok : Bool) : Prop := (∃ s, SumA xs m k T s ∧ NumR s r ok) ∨ (∃ t u, t < T ∧ TriS xs m k t u false ∧ r = 0 ∧ ok = false)
theorem AoS.same {xs : List (Nat × Nat × Nat)} {m k T r R : Nat} {ok OK : Bool} (h : AoS xs m k T r ok) (g : AoS xs m k T R OK) : FSame .f32 r R ∧ ok = OK := by
  rcases h with ⟨s, hs, hn⟩ | ⟨t, u, ht, hu, rfl, rfl⟩ <;> rcases g with ⟨S, gs, gn⟩ | ⟨T', U, gt, gu, rfl, rfl⟩
  · exact NumR.same (hs.same gs) hn gn
  · obtain ⟨z, hz⟩ := hs.all _ gt
    cases (TriR.same hz gu).1
  · obtain ⟨z, hz⟩ := gs.all _ ht
    cases (TriR.same hz hu).1
  · exact ⟨FSame.refl _ _, rfl⟩
/-- Whether there are as many spots as tiles have corners, all of them finite. -/
def tlB (xs : List (Nat × Nat × Nat)) (m k : Int) : Bool := sizesB m k && decide ((xs.length : Int) = (m + 1) * (k + 1)) && finS xs
theorem tlB_yes {xs : List (Nat × Nat × Nat)} {m k : Int} (h : tlB xs m k = true) : ∃ a b : Nat, m = a ∧ k = b ∧ (1 ≤ a ∧ a ≤ 12) ∧ (1 ≤ b ∧ b ≤ 12) ∧ xs.length = (a + 1) * (b + 1) ∧ finS xs = true ∧ (triI a b).length = 3 * (2 * (a * b)) ∧ 0 < 2 * (a * b) := by
  unfold tlB at h
  simp only [Bool.and_eq_true, decide_eq_true_eq] at h
  obtain ⟨⟨h1, h2⟩, h3⟩ := h
  obtain ⟨a, b, rfl, rfl, ha, hb⟩ := sizesB_nat h1
  refine ⟨a, b, rfl, rfl, ha, hb, by exact_mod_cast h2, h3, ?_, ?_⟩
  · rw [triI_len, Nat.mul_assoc]; omega
  · have := Nat.mul_pos (show 0 < a by omega) (show 0 < b by omega); omega
def AoO (xs : List (Nat × Nat × Nat)) (m k : Int) (r : Nat) (ok : Bool) : Prop := (tlB xs m k = false ∧ r = 0 ∧ ok = false) ∨ (∃ a b : Nat, m = a ∧ k = b ∧ tlB xs m k = true ∧ AoS xs a b (2 * (a * b)) r ok)
theorem AoO.same {xs : List (Nat × Nat × Nat)} {m k : Int} {r R : Nat} {ok OK : Bool} (h : AoO xs m k r ok) (g : AoO xs m k R OK) : FSame .f32 r R ∧ ok = OK := by
  rcases h with ⟨h, rfl, rfl⟩ | ⟨a, b, ha, hb, h, hs⟩ <;> rcases g with ⟨g, rfl, rfl⟩ | ⟨c, d, hc, hd, g, gs⟩
  · exact ⟨FSame.refl _ _, rfl⟩
  · rw [h] at g; cases g
  · rw [h] at g; cases g
  · obtain rfl : a = c := by omega
    obtain rfl : b = d := by omega
    exact hs.same gs

set_option maxRecDepth 100000 in
set_option maxHeartbeats 4000000 in
theorem trianglesOfTiles_no (A : Option Addr) (xs : List (Nat × Nat × Nat)) (n c : Nat) (hxn : n = xs.length) (hn : n ≤ 1048576) (m k : Int) (hno : tlB xs m k = false) (w : World) (hr : RdS w A xs) :
    Calls Try.prog 70 #[.slice A n c, .int .i64 m, .int .i64 k] w fun e w' => e = .returned (.tuple #[.slice none 0 0, .bool false]) ∧ Below w.heap.size w w' := by
  have HAS := Frame.hid (fun W (hW : Below w.heap.size w W) => by have h := areSpots_calls A xs c W (by omega) (hr.below hW); rw [← hxn] at h; exact h)
  have HNO := Frame.hid hno
  have HX := Frame.hid hxn
  clear hr hno hxn
  cases hs : sizesB m k
  · have HS := Frame.hid hs
    clear hs
    go_enter Try.func70, Try.ntmps70
    go_wp2_with fail
    refine (trianglesOf_calls m k _).mono ?_
    rintro e w1 (⟨a, b, -, -, -, v, -, h, -⟩ | ⟨-, rfl, rfl⟩)
    · rw [HS.out] at h; cases h
    · go_wp2_with fail
      go_ret2
      exact ⟨rfl, by (apply bel_of; (repeat (first | apply below_dn | apply below_al)); exact below_st _)⟩
  · obtain ⟨a, b, rfl, rfl, ha, hb⟩ := sizesB_nat hs
    have HS := Frame.hid hs
    clear hs
    obtain ⟨P, hP⟩ : ∃ P, P = (a + 1) * (b + 1) := ⟨_, rfl⟩
    have hP2 : P ≤ 169 := by rw [hP]; exact Nat.le_trans (Nat.mul_le_mul (show a + 1 ≤ 13 by omega) (show b + 1 ≤ 13 by omega)) (by decide)
    have hmul : IntKind.i64.wrap (((a : Int) + 1) * ((b : Int) + 1)) = (P : Int) := by
      have : ((a : Int) + 1) * ((b : Int) + 1) = (P : Int) := by rw [hP]; push_cast; rfl
      rw [this, IntKind.wrap_i64]; omega
    have HP := Frame.hid hP
    clear hP
    by_cases hnp : n = P
    · subst hnp
      have HF : Hid (finS xs = false) := by
        have h := HNO.out
        unfold tlB at h
        rw [HS.out, decide_eq_true (by rw [← HX.out, HP.out]; push_cast; rfl)] at h
        exact (by simpa using h : finS xs = false)
      go_enter Try.func70, Try.ntmps70
      go_wp2_with fail
      refine (trianglesOf_ok a b ha hb _).mono ?_
      rintro e w1 ⟨v1, rfl, hO1, hB1⟩
      have hw0 : Below w.heap.size w w1 := ((Below.refl _ _).alloc (Nat.le_refl _) _).trans (hB1.mono (by simp))
      have hb0 : Boxed w1 w.heap.size 26 (.slice A n c) := (hB1.block w.heap.size (by simp)).trans (Boxed.new w _ _)
      have hq0 := hb0.cell
      have HW0 := Frame.hid hw0
      clear hO1 hw0 hb0 hB1
      go_wp2_with (go_at_call 81; refine (HAS.out _ HW0.out).mono ?_; rintro e w2 ⟨rfl, hB2⟩; rw [HF.out])
      go_ret2
      exact ⟨rfl, HW0.out.trans (hB2.mono HW0.out.size)⟩
    · have hnp' : ¬ (n : Int) = (P : Int) := by omega
      go_enter Try.func70, Try.ntmps70
      go_wp2_with fail
      refine (trianglesOf_ok a b ha hb _).mono ?_
      rintro e w1 ⟨v1, rfl, hO1, hB1⟩
      have hw0 : Below w.heap.size w w1 := ((Below.refl _ _).alloc (Nat.le_refl _) _).trans (hB1.mono (by simp))
      have hb0 : Boxed w1 w.heap.size 26 (.slice A n c) := (hB1.block w.heap.size (by simp)).trans (Boxed.new w _ _)
      have hq0 := hb0.cell
      have HW0 := Frame.hid hw0
      clear hO1 hw0 hb0 hB1
      go_wp2_with fail
      go_ret2
      exact ⟨rfl, HW0.out⟩

set_option maxRecDepth 100000 in
set_option maxHeartbeats 4000000 in
theorem areaOfTiles_calls (A : Option Addr) (xs : List (Nat × Nat × Nat)) (n c : Nat) (hxn : n = xs.length) (hn : n ≤ 1048576) (m k : Int) (w : World) (hr : RdS w A xs) :
    Calls Try.prog 32 #[.slice A n c, .int .i64 m, .int .i64 k] w fun e w' => ∃ r ok, e = .returned (.tuple #[.float .f32 r, .bool ok]) ∧ AoO xs m k r ok ∧ Below w.heap.size w w' := by
  cases hno : tlB xs m k
  · have HNO := Frame.hid (trianglesOfTiles_no A xs n c hxn hn m k hno w hr)
    clear hr hxn
    go_enter Try.func32, Try.ntmps32
    go_wp2_with fail
    refine HNO.out.mono ?_
    rintro e w1 ⟨rfl, hB1⟩
    go_wp2_with fail
    go_ret2
    exact ⟨_, _, rfl, .inl ⟨hno, rfl, rfl⟩, hB1⟩
  · obtain ⟨a, b, rfl, rfl, ha, hb, hlen, hf, hT, hT0⟩ := tlB_yes hno
    have HNO := Frame.hid hno
    obtain ⟨T, hTT⟩ : ∃ T, T = 2 * (a * b) := ⟨_, rfl⟩
    rw [← hTT] at hT hT0
    have HTT := Frame.hid hTT
    have hTs : T ≤ 288 := by have := triI_small ha.2 hb.2; omega
    obtain ⟨bs, of, rfl, -, -⟩ := hr.h (by rw [hlen]; exact Nat.mul_pos (by omega) (by omega))
    have HC := Frame.hid (trianglesOfTiles_yes bs of xs n c hxn a b ha hb (hxn.trans hlen) hf w hr T hT)
    clear hr hxn hlen hf hT hno hTT
    go_enter Try.func32, Try.ntmps32
    go_wp2_with fail
    refine HC.out.mono ?_
    rintro e w1 ⟨v, rfl, hO, hB1⟩
    obtain ⟨g, cap, rfl, -, hg⟩ := hO.form hT0
    have hcell : ∀ t i, t < T → i < 9 → w1.cell? ⟨g, t * 9 + i, none⟩ = (triCells xs (crn a b (3 * t)) (crn a b (3 * t + 1)) (crn a b (3 * t + 2)))[i]? := fun t i ht hi => (hO.cellAt _ (by omega)).trans (triAll_at xs a b T t i hi ht)
    obtain ⟨off, hoff⟩ : ∃ off, off = 0 := ⟨_, rfl⟩
    have HCELL : Hid (∀ t, t < T → ∀ i, i < 9 → w1.cell? ⟨g, off + t * 9 + i, none⟩ = (triCells xs (crn a b (3 * t)) (crn a b (3 * t + 1)) (crn a b (3 * t + 2)))[i]?) := by
      subst hoff
      intro t ht i hi
      rw [Nat.zero_add]
      exact hcell t i ht hi
    have HG := Frame.hid hg
    have HB1 := Frame.hid hB1
    rw [show (⟨g, 0, none⟩ : Addr) = ⟨g, off, none⟩ by rw [hoff]]
    clear hcell hoff hO hB1 hg
    go_wp2_with fail
    go_loopw [10, 26] (fun sv kv wr => ∃ t s : Nat, t ≤ T ∧ kv = .int .i64 t ∧ sv = .float .f32 s ∧ SumA xs a b t s ∧ Below w1.heap.size w1 wr) (fun _ kv _ => T - (intOf kv).toNat)
    case atStart => exact ⟨0, 0, Nat.zero_le _, rfl, rfl, rfl, Below.refl _ _⟩
    case round =>
      obtain ⟨t, s, ht, rfl, rfl, hS, hB⟩ := hrel
      have HS := Frame.hid hS
      have HB := Frame.hid hB
      clear hS
      by_cases hlt : t < T
      · have hcell : ∀ i, i < 9 → wr.cell? ⟨g, off + t * 9 + i, none⟩ = (triCells xs (crn a b (3 * t)) (crn a b (3 * t + 1)) (crn a b (3 * t + 2)))[i]? := fun i hi => (hB.cell HG.out).trans (HCELL.out t hlt i hi)
        unfold triCells at hcell
        obtain ⟨X0, hX0⟩ : ∃ u, u = sx xs (crn a b (3 * t)) := ⟨_, rfl⟩
        obtain ⟨Y0, hY0⟩ : ∃ u, u = sy xs (crn a b (3 * t)) := ⟨_, rfl⟩
        obtain ⟨Z0, hZ0⟩ : ∃ u, u = sz xs (crn a b (3 * t)) := ⟨_, rfl⟩
        obtain ⟨X1, hX1⟩ : ∃ u, u = sx xs (crn a b (3 * t + 1)) := ⟨_, rfl⟩
        obtain ⟨Y1, hY1⟩ : ∃ u, u = sy xs (crn a b (3 * t + 1)) := ⟨_, rfl⟩
        obtain ⟨Z1, hZ1⟩ : ∃ u, u = sz xs (crn a b (3 * t + 1)) := ⟨_, rfl⟩
        obtain ⟨X2, hX2⟩ : ∃ u, u = sx xs (crn a b (3 * t + 2)) := ⟨_, rfl⟩
        obtain ⟨Y2, hY2⟩ : ∃ u, u = sy xs (crn a b (3 * t + 2)) := ⟨_, rfl⟩
        obtain ⟨Z2, hZ2⟩ : ∃ u, u = sz xs (crn a b (3 * t + 2)) := ⟨_, rfl⟩
        have c0 : wr.cell? ⟨g, off + t * 9, none⟩ = some (.float .f32 X0) := (hcell 0 (by omega)).trans (by rw [← hX0]; rfl)
        have c1 : wr.cell? ⟨g, off + t * 9 + 1, none⟩ = some (.float .f32 Y0) := (hcell 1 (by omega)).trans (by rw [← hY0]; rfl)
        have c2 : wr.cell? ⟨g, off + t * 9 + 2, none⟩ = some (.float .f32 Z0) := (hcell 2 (by omega)).trans (by rw [← hZ0]; rfl)
        have c3 : wr.cell? ⟨g, off + t * 9 + 3, none⟩ = some (.float .f32 X1) := (hcell 3 (by omega)).trans (by rw [← hX1]; rfl)
        have c4 : wr.cell? ⟨g, off + t * 9 + 4, none⟩ = some (.float .f32 Y1) := (hcell 4 (by omega)).trans (by rw [← hY1]; rfl)
        have c5 : wr.cell? ⟨g, off + t * 9 + 5, none⟩ = some (.float .f32 Z1) := (hcell 5 (by omega)).trans (by rw [← hZ1]; rfl)
        have c6 : wr.cell? ⟨g, off + t * 9 + 6, none⟩ = some (.float .f32 X2) := (hcell 6 (by omega)).trans (by rw [← hX2]; rfl)
        have c7 : wr.cell? ⟨g, off + t * 9 + 7, none⟩ = some (.float .f32 Y2) := (hcell 7 (by omega)).trans (by rw [← hY2]; rfl)
        have c8 : wr.cell? ⟨g, off + t * 9 + 8, none⟩ = some (.float .f32 Z2) := (hcell 8 (by omega)).trans (by rw [← hZ2]; rfl)
        have hgw : g < wr.heap.size := Nat.lt_of_lt_of_le HG.out hB.size
        have HXYZ := Frame.hid (And.intro hX0 (And.intro hY0 (And.intro hZ0 (And.intro hX1 (And.intro hY1 (And.intro hZ1 (And.intro hX2 (And.intro hY2 hZ2))))))))
        clear hcell hB hX0 hY0 hZ0 hX1 hY1 hZ1 hX2 hY2 hZ2
        go_wp2_with fail
        refine (area_calls _ _ _ _ _ _ _ _ _ _).mono ?_
        rintro e w2 ⟨ar, ok, rfl, hT2, hB2⟩
        have HT2 : Hid (TriS xs a b t ar ok) := by obtain ⟨rfl, rfl, rfl, rfl, rfl, rfl, rfl, rfl, rfl⟩ := HXYZ.out; exact hT2
        have HBT : Hid (Below wr.heap.size wr w2) := (below_ch (below_al _ (below_st _)) hB2 rfl).2
        clear hT2 hB2 HXYZ c0 c1 c2 c3 c4 c5 c6 c7 c8
        cases ok
        · go_wp2_with fail
          go_ret2
          exact ⟨_, _, rfl, .inr ⟨a, b, rfl, rfl, HNO.out,   .inr ⟨t, ar, by rw [← HTT.out]; exact hlt, HT2.out, rfl, rfl⟩⟩, HB1.out.trans ((HB.out.trans (HBT.out.mono HB.out.size)).mono HB1.out.size)⟩
        · go_wp2_with (refine wpList_arith rfl _ _ _ _ _ rfl rfl _ _ _ rfl rfl ?_; intro r n hr hl)
          go_roundw
          case rel => exact ⟨t + 1, r, by omega, by go_num, rfl, ⟨_, _, HS.out, HT2.out, hr⟩, HB.out.trans ((below_drewN HBT.out _).mono HB.out.size)⟩
          case measure => simp [intOf]; omega
      · obtain rfl : t = T := by omega
        clear hB
        go_wp2_with (go_at_call 72; refine (numO_calls _ _).mono ?_; rintro e w' ⟨r, ok, rfl, hN, nn, rfl⟩)
        go_ret2
        exact ⟨_, _, rfl, .inr ⟨a, b, rfl, rfl, HNO.out, .inl ⟨s, by rw [← HTT.out]; exact HS.out, hN⟩⟩, HB1.out.trans ((below_drewN HB.out _).mono HB1.out.size)⟩

end Go.Proofs.Ytnhpiebddelebaa
