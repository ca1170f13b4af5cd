/-
  SameSheet, walked on both sides.
-/
import Derived.Test.YtnbgnaenlbphcaaKh
import Derived.Test.YtnbgnaenlbphcaaKc
import Derived.Deep.RegionHeld3
import Derived.Deep.QuietTactic
import Derived.BigQuiet
namespace Go.Proofs.Ytnbgnaenlbphcaa
open Go.RowKit Fl Go.WideShapes Go.Deep
attribute [local go_sem] kstore_f kalloc_drewN kset_drewN hstore_i hstore_s

/-- Two spots are the same. -/
def same3 (x y z x' y' z' : Nat) : Bool := bitsV x == bitsV x' && (bitsV y == bitsV y' && bitsV z == bitsV z')
def sameAt (xs ys : List (Nat × Nat × Nat)) (j : Nat) : Bool := same3 (sx xs j) (sy xs j) (sz xs j) (sx ys j) (sy ys j) (sz ys j)
/-- Two lists of spots are the same. -/
def eqL (xs ys : List (Nat × Nat × Nat)) : Bool := decide (xs.length = ys.length) && (List.range xs.length).all (sameAt xs ys)
theorem eqL_all {xs ys : List (Nat × Nat × Nat)} (hl : xs.length = ys.length) (h : ∀ j, j < xs.length → sameAt xs ys j = true) : eqL xs ys = true := by
  unfold eqL
  rw [decide_eq_true hl, Bool.true_and, List.all_eq_true]
  exact fun j hj => h j (List.mem_range.1 hj)
theorem eqL_bad {xs ys : List (Nat × Nat × Nat)} {j : Nat} (hj : j < xs.length) (h : sameAt xs ys j = false) : eqL xs ys = false := by
  cases he : eqL xs ys
  · rfl
  · unfold eqL at he
    rw [Bool.and_eq_true, List.all_eq_true] at he
    have := he.2 j (List.mem_range.2 hj)
    rw [h] at this
    cases this
theorem eqL_len {xs ys : List (Nat × Nat × Nat)} (hl : xs.length ≠ ys.length) : eqL xs ys = false := by
  unfold eqL
  rw [decide_eq_false hl]
  rfl

set_option maxRecDepth 100000 in
set_option maxHeartbeats 4000000 in
theorem equalFunc_calls (A A' : Option Addr) (xs ys : List (Nat × Nat × Nat)) (c c' n n' : Nat) (hx : n = xs.length) (hy : n' = ys.length) (hfx : Fit xs) (hfy : Fit ys) (w : World) (hn : n ≤ 1048576) (hn' : n' ≤ 1048576) (hA : RdS w A xs) (hB : RdS w A' ys) :
    Calls Try.prog 70 #[.slice A n c, .slice A' n' c', .func (.func 71) #[] #[]] w fun e w' => e = .returned (.bool (eqL xs ys)) ∧ Below w.heap.size w w' := by
  have HX := Frame.hid hx
  have HY := Frame.hid hy
  have HA := Frame.hid hA
  have HA' := Frame.hid hB
  have HFX := Frame.hid hfx
  have HFY := Frame.hid hfy
  clear hx hy hA hB hfx hfy
  by_cases hl : n = n'
  · subst hl
    go_enter Try.func70, Try.ntmps70
    go_wp2
    go_loopw [17] (fun i wr => ∃ k : Nat, k ≤ n ∧ i = .int .i64 k ∧ (∀ j, j < k → sameAt xs ys j = true) ∧ Below w.heap.size w wr) (fun i _ => n - (intOf i).toNat)
    case atStart => exact ⟨0, Nat.zero_le _, rfl, fun j hj => absurd hj (by omega), Below.refl _ _⟩
    case round =>
      obtain ⟨k, hk, rfl, hF, hB⟩ := hrel
      by_cases hlt : k < n
      · obtain ⟨b, off, rfl, hb, hc⟩ := HA.out.h (by have := HX.out; omega)
        obtain ⟨b', off', rfl, hb', hc'⟩ := HA'.out.h (by have := HY.out; omega)
        have h3 := (hc k (by have := HX.out; omega)).keep hB hb
        have g3 := (hc' k (by have := HY.out; omega)).keep hB hb'
        have fx := HFX.out k (by have := HX.out; omega)
        have fy := HFY.out k (by have := HY.out; omega)
        have c0 := h3.c0
        have c1 := h3.c1
        have c2 := h3.c2
        have d0 := g3.c0
        have d1 := g3.c1
        have d2 := g3.c2
        have hbs : b' < wr.heap.size := Nat.lt_of_lt_of_le hb' hB.size
        have hse : sameAt xs ys k = same3 (sx xs k) (sy xs k) (sz xs k) (sx ys k) (sy ys k) (sz ys k) := rfl
        generalize sx xs k = x at *
        generalize sy xs k = y at *
        generalize sz xs k = z at *
        generalize sx ys k = x' at *
        generalize sy ys k = y' at *
        generalize sz ys k = z' at *
        have HCS := Frame.hid (fun W => sameSpot_calls x y z x' y' z' (by omega) (by omega) (by omega) (by omega) (by omega) (by omega) W)
        have HSE := Frame.hid hse
        have HF := Frame.hid hF
        have HB := Frame.hid hB
        clear hc hc' h3 g3 hF hB HA HA' hse fx fy hb hb'
        go_wp2_with fail
        refine (HCS.out _).mono ?_
        rintro e w1 ⟨rfl, hB1⟩
        have HB1 := Frame.hid (below_ch (below_al _ (below_al _ ⟨HB.out.size, HB.out⟩)) hB1 rfl).2
        clear hB1 c0 c1 c2 d0 d1 d2
        have hq : (bitsV x == bitsV x' && (bitsV y == bitsV y' && bitsV z == bitsV z')) = same3 x y z x' y' z' := rfl
        rw [hq]
        cases hs : same3 x y z x' y' z'
        · have HS := Frame.hid hs
          go_wp2_with fail
          go_ret
          exact ⟨ret_bool (by rw [eqL_bad (xs := xs) (ys := ys) (j := k) (by have := HX.out; omega) (by rw [HSE.out]; exact HS.out)]), HB1.out⟩
        · have HS := Frame.hid hs
          go_wp2_with fail
          go_roundw
          case rel =>
            refine ⟨k + 1, by omega, by go_num, fun j hj => ?_, HB1.out⟩
            by_cases he : j = k
            · subst he; rw [HSE.out]; exact HS.out
            · exact HF.out j (by omega)
          case measure => simp [intOf]; omega
      · have hkn : k = n := by omega
        subst hkn
        have HE := Frame.hid (eqL_all (xs := xs) (ys := ys) (by have := HX.out; have := HY.out; omega) (fun j hj => hF j (by have := HX.out; omega)))
        have HB := Frame.hid hB
        clear hF hB
        go_wp2
        go_ret
        exact ⟨ret_bool HE.out.symm, HB.out⟩
  · have HE := Frame.hid (eqL_len (xs := xs) (ys := ys) (by have := HX.out; have := HY.out; omega))
    go_enter Try.func70, Try.ntmps70
    go_wp2
    go_ret
    exact ⟨ret_bool HE.out.symm, Below.refl _ _⟩

/-- Two sheets are the same. -/
def sameSh (a b a' b' : Int) (xs ys : List (Nat × Nat × Nat)) : Bool := (a == a') && (b == b') && eqL xs ys

theorem SK_of8 {n : Nat} {wc W : World} {p0 p1 p2 p3 p4 p5 p6 p7 : Addr} {v0 v1 v2 v3 v4 v5 v6 v7 : Value} (h : W.cell? p0 = some v0 ∧ W.cell? p1 = some v1 ∧ W.cell? p2 = some v2 ∧ W.cell? p3 = some v3 ∧ W.cell? p4 = some v4 ∧ W.cell? p5 = some v5 ∧ W.cell? p6 = some v6 ∧ W.cell? p7 = some v7 ∧ n ≤ W.heap.size ∧ SK n wc [(p0, v0), (p1, v1), (p2, v2), (p3, v3), (p4, v4), (p5, v5), (p6, v6), (p7, v7)] W) : SK n wc [(p0, v0), (p1, v1), (p2, v2), (p3, v3), (p4, v4), (p5, v5), (p6, v6), (p7, v7)] W := h.2.2.2.2.2.2.2.2.2
theorem SK_all8 {n : Nat} {wc W : World} {p0 p1 p2 p3 p4 p5 p6 p7 : Addr} {v0 v1 v2 v3 v4 v5 v6 v7 : Value} (h : SK n wc [(p0, v0), (p1, v1), (p2, v2), (p3, v3), (p4, v4), (p5, v5), (p6, v6), (p7, v7)] W) : W.cell? p0 = some v0 ∧ W.cell? p1 = some v1 ∧ W.cell? p2 = some v2 ∧ W.cell? p3 = some v3 ∧ W.cell? p4 = some v4 ∧ W.cell? p5 = some v5 ∧ W.cell? p6 = some v6 ∧ W.cell? p7 = some v7 ∧ n ≤ W.heap.size ∧ SK n wc [(p0, v0), (p1, v1), (p2, v2), (p3, v3), (p4, v4), (p5, v5), (p6, v6), (p7, v7)] W :=
  ⟨h.c (p0, v0) (by simp), h.c (p1, v1) (by simp), h.c (p2, v2) (by simp), h.c (p3, v3) (by simp), h.c (p4, v4) (by simp), h.c (p5, v5) (by simp), h.c (p6, v6) (by simp), h.c (p7, v7) (by simp), h.s, h⟩

set_option maxRecDepth 100000 in
set_option maxHeartbeats 1000000 in
theorem szSheetL_calls (a b : Int) (A : Option Addr) (n c L : Nat) (hL : L ≤ 1048576) (hn : n ≤ 9223372036854775807) (w : World) : Calls Try.prog 15 #[.agg #[.int .i64 a, .int .i64 b, .slice A n c], .int .i64 (L : Int)] w fun e w' => e = .returned (.int .i64 (if L < n then -1 else (L : Int) - (n : Int))) ∧ Below w.heap.size w w' := by
  have hc : ∀ W, Calls Try.prog 47 #[.slice A n c, .int .i64 (L : Int)] W fun e w' => e = .returned (.int .i64 (if L < n then -1 else (L : Int) - (n : Int))) ∧ W = w' := by
    intro W
    by_cases h : L < n
    · rw [if_pos h]
      go_enter Try.func47, Try.ntmps47
      go_wp2
      go_ret
      exact ⟨rfl, rfl⟩
    · rw [if_neg h]
      go_enter Try.func47, Try.ntmps47
      go_wp2
      go_ret
      exact ⟨rfl, rfl⟩
  have HC := Frame.hid hc
  clear hc
  by_cases h : L < n
  · rw [if_pos h]
    go_enter Try.func15, Try.ntmps15
    go_wp2_with (go_at_call 47; refine (HC.out _).mono ?_; rintro e w' ⟨rfl, rfl⟩; rw [if_pos h])
    go_ret
    exact ⟨rfl, by (apply bel_of; (repeat (first | apply below_dn | apply below_al)); exact below_st _)⟩
  · rw [if_neg h]
    go_enter Try.func15, Try.ntmps15
    go_wp2_with (go_at_call 47; refine (HC.out _).mono ?_; rintro e w' ⟨rfl, rfl⟩; rw [if_neg h])
    go_ret
    exact ⟨rfl, by (apply bel_of; (repeat (first | apply below_dn | apply below_al)); exact below_st _)⟩

end Go.Proofs.Ytnbgnaenlbphcaa
