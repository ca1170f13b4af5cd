/-
  SameSheet, walked on both sides.
-/
import Derived.Test.YtoldefcajampcaaKh
import Derived.Test.YtoldefcajampcaaKc
import Derived.Deep.RegionHeld3
import Derived.Deep.QuietTactic
import Derived.BigQuiet
namespace Go.Proofs.Ytoldefcajampcaa
open Go.RowKit Fl Go.WideShapes Go.Deep
attribute [local go_sem] kstore_f kalloc_drewN kset_drewN hstore_i hstore_s

/-- Two spots are the same. -/
def same3 (x y z x' y' z' : Nat) : Bool := bitsV x == bitsV x' && (bitsV y == bitsV y' && bitsV z == bitsV z')
def sameAt (xs ys : List (Nat × Nat × Nat)) (j : Nat) : Bool := same3 (sx xs j) (sy xs j) (sz xs j) (sx ys j) (sy ys j) (sz ys j)
/-- Two lists of spots are the same. -/
def eqL (xs ys : List (Nat × Nat × Nat)) : Bool := decide (xs.length = ys.length) && (List.range xs.length).all (sameAt xs ys)
theorem eqL_all {xs ys : List (Nat × Nat × Nat)} (hl : xs.length = ys.length) (h : ∀ j, j < xs.length → sameAt xs ys j = true) : eqL xs ys = true := by
  unfold eqL
  rw [decide_eq_true hl, Bool.true_and, List.all_eq_true]
  exact fun j hj => h j (List.mem_range.1 hj)
theorem eqL_bad {xs ys : List (Nat × Nat × Nat)} {j : Nat} (hj : j < xs.length) (h : sameAt xs ys j = false) : eqL xs ys = false := by
  cases he : eqL xs ys
  · rfl
  · unfold eqL at he
    rw [Bool.and_eq_true, List.all_eq_true] at he
    have := he.2 j (List.mem_range.2 hj)
    rw [h] at this
    cases this
theorem eqL_len {xs ys : List (Nat × Nat × Nat)} (hl : xs.length ≠ ys.length) : eqL xs ys = false := by
  unfold eqL
  rw [decide_eq_false hl]
  rfl

set_option maxRecDepth 100000 in
set_option maxHeartbeats 4000000 in
theorem equalFunc_calls (A A' : Option Addr) (xs ys : List (Nat × Nat × Nat)) (c c' n n' : Nat) (hx : n = xs.length) (hy : n' = ys.length) (hfx : Fit xs) (hfy : Fit ys) (w : World) (hn : n ≤ 1048576) (hn' : n' ≤ 1048576) (hA : RdS w A xs) (hB : RdS w A' ys) :
    Calls Try.prog 66 #[.slice A n c, .slice A' n' c', .func (.func 19) #[] #[]] w fun e w' => e = .returned (.bool (eqL xs ys)) ∧ Below w.heap.size w w' := by
  have HX := Frame.hid hx
  have HY := Frame.hid hy
  have HA := Frame.hid hA
  have HA' := Frame.hid hB
  have HFX := Frame.hid hfx
  have HFY := Frame.hid hfy
  clear hx hy hA hB hfx hfy
  by_cases hl : n = n'
  · subst hl
    go_enter Try.func66, Try.ntmps66
    go_wp2
    go_loopw [17] (fun i wr => ∃ k : Nat, k ≤ n ∧ i = .int .i64 k ∧ (∀ j, j < k → sameAt xs ys j = true) ∧ Below w.heap.size w wr) (fun i _ => n - (intOf i).toNat)
    case atStart => exact ⟨0, Nat.zero_le _, rfl, fun j hj => absurd hj (by omega), Below.refl _ _⟩
    case round =>
      obtain ⟨k, hk, rfl, hF, hB⟩ := hrel
      by_cases hlt : k < n
      · obtain ⟨b, off, rfl, hb, hc⟩ := HA.out.h (by have := HX.out; omega)
        obtain ⟨b', off', rfl, hb', hc'⟩ := HA'.out.h (by have := HY.out; omega)
        have h3 := (hc k (by have := HX.out; omega)).keep hB hb
        have g3 := (hc' k (by have := HY.out; omega)).keep hB hb'
        have fx := HFX.out k (by have := HX.out; omega)
        have fy := HFY.out k (by have := HY.out; omega)
        have c0 := h3.c0
        have c1 := h3.c1
        have c2 := h3.c2
        have d0 := g3.c0
        have d1 := g3.c1
        have d2 := g3.c2
        have hbs : b' < wr.heap.size := Nat.lt_of_lt_of_le hb' hB.size
        have hse : sameAt xs ys k = same3 (sx xs k) (sy xs k) (sz xs k) (sx ys k) (sy ys k) (sz ys k) := rfl
        generalize sx xs k = x at *
        generalize sy xs k = y at *
        generalize sz xs k = z at *
        generalize sx ys k = x' at *
        generalize sy ys k = y' at *
        generalize sz ys k = z' at *
        have HCS := Frame.hid (fun W => sameSpot_calls x y z x' y' z' (by omega) (by omega) (by omega) (by omega) (by omega) (by omega) W)
        have HSE := Frame.hid hse
        have HF := Frame.hid hF
        have HB := Frame.hid hB
        clear hc hc' h3 g3 hF hB HA HA' hse fx fy hb hb'
        go_wp2_with fail
        refine (HCS.out _).mono ?_
        rintro e w1 ⟨rfl, hB1⟩
        have HB1 := Frame.hid (below_ch (below_al _ (below_al _ ⟨HB.out.size, HB.out⟩)) hB1 rfl).2
        clear hB1 c0 c1 c2 d0 d1 d2
        have hq : (bitsV x == bitsV x' && (bitsV y == bitsV y' && bitsV z == bitsV z')) = same3 x y z x' y' z' := rfl
        rw [hq]
        cases hs : same3 x y z x' y' z'
        · have HS := Frame.hid hs
          go_wp2_with fail
          go_ret
          exact ⟨ret_bool (by rw [eqL_bad (xs := xs) (ys := ys) (j := k) (by have := HX.out; omega) (by rw [HSE.out]; exact HS.out)]), HB1.out⟩
        · have HS := Frame.hid hs
          go_wp2_with fail
          go_roundw
          case rel =>
            refine ⟨k + 1, by omega, by go_num, fun j hj => ?_, HB1.out⟩
            by_cases he : j = k
            · subst he; rw [HSE.out]; exact HS.out
            · exact HF.out j (by omega)
          case measure => simp [intOf]; omega
      · have hkn : k = n := by omega
        subst hkn
        have HE := Frame.hid (eqL_all (xs := xs) (ys := ys) (by have := HX.out; have := HY.out; omega) (fun j hj => hF j (by have := HX.out; omega)))
        have HB := Frame.hid hB
        clear hF hB
        go_wp2
        go_ret
        exact ⟨ret_bool HE.out.symm, HB.out⟩
  · have HE := Frame.hid (eqL_len (xs := xs) (ys := ys) (by have := HX.out; have := HY.out; omega))
    go_enter Try.func66, Try.ntmps66
    go_wp2
    go_ret
    exact ⟨ret_bool HE.out.symm, Below.refl _ _⟩

/-- Two sheets are the same. -/
def sameSh (a b a' b' : Int) (xs ys : List (Nat × Nat × Nat)) : Bool := (a == a') && (b == b') && eqL xs ys

set_option maxRecDepth 100000 in
set_option maxHeartbeats 4000000 in
theorem sameSheet_calls (A A' : Option Addr) (xs ys : List (Nat × Nat × Nat)) (a b a' b' : Int) (c c' n n' : Nat) (hx : n = xs.length) (hy : n' = ys.length) (hfx : Fit xs) (hfy : Fit ys) (w : World) (hn : n ≤ 1048576) (hn' : n' ≤ 1048576) (hA : RdS w A xs) (hB : RdS w A' ys) :
    Calls Try.prog 32 #[.agg #[.int .i64 a, .int .i64 b, .slice A n c], .agg #[.int .i64 a', .int .i64 b', .slice A' n' c']] w fun e w' => e = .returned (.bool (sameSh a b a' b' xs ys)) ∧ Below w.heap.size w w' := by
  have HC := Frame.hid (fun W (hW : Below w.heap.size w W) => equalFunc_calls A A' xs ys c c' n n' hx hy hfx hfy W hn hn' (hA.below hW) (hB.below hW))
  clear hA hB hfx hfy hx hy
  by_cases h1 : a = a'
  · by_cases h2 : b = b'
    · subst h1 h2
      have e : sameSh a b a b xs ys = eqL xs ys := by unfold sameSh; simp
      rw [e]
      clear e
      go_enter Try.func32, Try.ntmps32
      go_wp2_with (go_at_call 66; refine (HC.out _ (by (apply bel_of; (repeat (first | apply below_dn | apply below_al)); exact below_st _))).mono ?_; rintro e w' ⟨rfl, hB⟩)
      go_ret
      exact ⟨rfl, (below_ch (below_al _ (below_al _ (below_st _))) hB rfl).2⟩
    · subst h1
      have e : sameSh a b a b' xs ys = false := by unfold sameSh; simp [h2]
      rw [e]
      clear e
      go_enter Try.func32, Try.ntmps32
      go_wp2
      go_ret
      exact ⟨rfl, by (apply bel_of; (repeat (first | apply below_dn | apply below_al)); exact below_st _)⟩
  · have e : sameSh a b a' b' xs ys = false := by unfold sameSh; simp [h1]
    rw [e]
    clear e
    go_enter Try.func32, Try.ntmps32
    go_wp2
    go_ret
    exact ⟨rfl, by (apply bel_of; (repeat (first | apply below_dn | apply below_al)); exact below_st _)⟩

theorem SK_of8 {n : Nat} {wc W : World} {p0 p1 p2 p3 p4 p5 p6 p7 : Addr} {v0 v1 v2 v3 v4 v5 v6 v7 : Value} (h : W.cell? p0 = some v0 ∧ W.cell? p1 = some v1 ∧ W.cell? p2 = some v2 ∧ W.cell? p3 = some v3 ∧ W.cell? p4 = some v4 ∧ W.cell? p5 = some v5 ∧ W.cell? p6 = some v6 ∧ W.cell? p7 = some v7 ∧ n ≤ W.heap.size ∧ SK n wc [(p0, v0), (p1, v1), (p2, v2), (p3, v3), (p4, v4), (p5, v5), (p6, v6), (p7, v7)] W) : SK n wc [(p0, v0), (p1, v1), (p2, v2), (p3, v3), (p4, v4), (p5, v5), (p6, v6), (p7, v7)] W := h.2.2.2.2.2.2.2.2.2
theorem SK_all8 {n : Nat} {wc W : World} {p0 p1 p2 p3 p4 p5 p6 p7 : Addr} {v0 v1 v2 v3 v4 v5 v6 v7 : Value} (h : SK n wc [(p0, v0), (p1, v1), (p2, v2), (p3, v3), (p4, v4), (p5, v5), (p6, v6), (p7, v7)] W) : W.cell? p0 = some v0 ∧ W.cell? p1 = some v1 ∧ W.cell? p2 = some v2 ∧ W.cell? p3 = some v3 ∧ W.cell? p4 = some v4 ∧ W.cell? p5 = some v5 ∧ W.cell? p6 = some v6 ∧ W.cell? p7 = some v7 ∧ n ≤ W.heap.size ∧ SK n wc [(p0, v0), (p1, v1), (p2, v2), (p3, v3), (p4, v4), (p5, v5), (p6, v6), (p7, v7)] W :=
  ⟨h.c (p0, v0) (by simp), h.c (p1, v1) (by simp), h.c (p2, v2) (by simp), h.c (p3, v3) (by simp), h.c (p4, v4) (by simp), h.c (p5, v5) (by simp), h.c (p6, v6) (by simp), h.c (p7, v7) (by simp), h.s, h⟩

set_option maxRecDepth 100000 in
set_option maxHeartbeats 4000000 in
theorem l04Same_calls (g g' : Nat) (A A' : Option Addr) (xs ys : List (Nat × Nat × Nat)) (a b a' b' : Int) (c c' n n' : Nat) (hx : n = xs.length) (hy : n' = ys.length) (hfx : Fit xs) (hfy : Fit ys) (w : World) (hn : n ≤ 1048576) (hn' : n' ≤ 1048576) (hG : Sh3 w g a b (.slice A n c)) (hG' : Sh3 w g' a' b' (.slice A' n' c')) (hA : RdS w A xs) (hB : RdS w A' ys) :
    Calls Try.prog 65 #[.pointer (some ⟨g, 0, none⟩), .pointer (some ⟨g', 0, none⟩)] w fun e w' => e = .returned (.bool (sameSh a b a' b' xs ys)) ∧ Below w.heap.size w w' := by
  have k0 := hG.c0
  have k1 := hG.c1
  have k2 := hG.c2
  have j0 := hG'.c0
  have j1 := hG'.c1
  have j2 := hG'.c2
  have HX := Frame.hid hx
  have HY := Frame.hid hy
  have HA := Frame.hid hA
  have HA' := Frame.hid hB
  have HFX := Frame.hid hfx
  have HFY := Frame.hid hfy
  have HG := Frame.hid hG
  have HG' := Frame.hid hG'
  clear hx hy hA hB hfx hfy hG hG'
  by_cases h1 : a = a'
  · subst h1
    by_cases h2 : b = b'
    · subst h2
      have HE := Frame.hid (by unfold sameSh; simp : sameSh a b a b xs ys = eqL xs ys)
      by_cases h3 : n = n'
      · subst h3
        rw [HE.out]
        go_enter Try.func65, Try.ntmps65
        go_wp2
        go_quiet (fail)
        go_wp2
        clear k0 k1 k2 j0 j1 j2
        go_loopw [5] (fun i wr => ∃ k : Nat, k ≤ n ∧ i = .int .i64 k ∧ (∀ j, j < k → sameAt xs ys j = true) ∧ Below w.heap.size w wr) (fun i _ => n - (intOf i).toNat)
        case atStart => exact ⟨0, Nat.zero_le _, rfl, fun j hj => absurd hj (by omega), below_drewN (Below.refl _ _) _⟩
        case round =>
          obtain ⟨k, hk, rfl, hF, hB⟩ := hrel
          have k2 := (HG.out.below hB).c2
          have j2 := (HG'.out.below hB).c2
          have gl := (HG.out.below hB).l
          have gl' := (HG'.out.below hB).l
          by_cases hlt : k < n
          · obtain ⟨b1, off, rfl, hb, hc⟩ := HA.out.h (by have := HX.out; omega)
            obtain ⟨b2, off', rfl, hb', hc'⟩ := HA'.out.h (by have := HY.out; omega)
            have h3 := (hc k (by have := HX.out; omega)).keep hB hb
            have g3 := (hc' k (by have := HY.out; omega)).keep hB hb'
            have fx := HFX.out k (by have := HX.out; omega)
            have fy := HFY.out k (by have := HY.out; omega)
            have c0 := h3.c0
            have c1 := h3.c1
            have c2 := h3.c2
            have d0 := g3.c0
            have d1 := g3.c1
            have d2 := g3.c2
            have hbs : b1 < wr.heap.size := Nat.lt_of_lt_of_le hb hB.size
            have hbs' : b2 < wr.heap.size := Nat.lt_of_lt_of_le hb' hB.size
            have hse : sameAt xs ys k = same3 (sx xs k) (sy xs k) (sz xs k) (sx ys k) (sy ys k) (sz ys k) := rfl
            generalize sx xs k = x at *
            generalize sy xs k = y at *
            generalize sz xs k = z at *
            generalize sx ys k = x' at *
            generalize sy ys k = y' at *
            generalize sz ys k = z' at *
            have hcs : ∀ W, Calls Try.prog 52 #[.agg #[.float .f32 x, .float .f32 y, .float .f32 z], .agg #[.float .f32 x', .float .f32 y', .float .f32 z']] W fun e w' => e = .returned (.bool (same3 x y z x' y' z')) ∧ Below W.heap.size W w' := fun W => l04SameSpot_calls x y z x' y' z' (by omega) (by omega) (by omega) (by omega) (by omega) (by omega) W
            have HCS := Frame.hid hcs
            clear hcs
            have HSE := Frame.hid hse
            have HF := Frame.hid hF
            have HB := Frame.hid hB
            have hST : SK wr.heap.size wr [((⟨g, 2, none⟩ : Addr), (.slice (some ⟨b1, off, none⟩) n c : Value)), ((⟨g', 2, none⟩ : Addr), (.slice (some ⟨b2, off', none⟩) n c' : Value)), ((⟨b1, off + k * 3, none⟩ : Addr), (.float .f32 x : Value)), ((⟨b1, off + k * 3 + 1, none⟩ : Addr), (.float .f32 y : Value)), ((⟨b1, off + k * 3 + 2, none⟩ : Addr), (.float .f32 z : Value)), ((⟨b2, off' + k * 3, none⟩ : Addr), (.float .f32 x' : Value)), ((⟨b2, off' + k * 3 + 1, none⟩ : Addr), (.float .f32 y' : Value)), ((⟨b2, off' + k * 3 + 2, none⟩ : Addr), (.float .f32 z' : Value))] wr := SK.start (Nat.le_refl _) (by intro p hp; simp at hp; rcases hp with rfl | rfl | rfl | rfl | rfl | rfl | rfl | rfl <;> assumption) (by intro p hp; simp at hp; rcases hp with rfl | rfl | rfl | rfl | rfl | rfl | rfl | rfl <;> assumption)
            have p0 : (0 : Int) ≤ (k : Int) := by omega
            have p1 : (k : Int) < (n : Int) := by omega
            clear hc hc' h3 g3 hF hB HA HA' hse fx fy hb hb' gl gl' hbs hbs' HG HG'
            go_wp2
            go_region_held3 (fun W => W.cell? ⟨g, 2, none⟩ = some (.slice (some ⟨b1, off, none⟩) n c) ∧ W.cell? ⟨g', 2, none⟩ = some (.slice (some ⟨b2, off', none⟩) n c') ∧ W.cell? ⟨b1, off + k * 3, none⟩ = some (.float .f32 x) ∧ W.cell? ⟨b1, off + k * 3 + 1, none⟩ = some (.float .f32 y) ∧ W.cell? ⟨b1, off + k * 3 + 2, none⟩ = some (.float .f32 z) ∧ W.cell? ⟨b2, off' + k * 3, none⟩ = some (.float .f32 x') ∧ W.cell? ⟨b2, off' + k * 3 + 1, none⟩ = some (.float .f32 y') ∧ W.cell? ⟨b2, off' + k * 3 + 2, none⟩ = some (.float .f32 z') ∧ wr.heap.size ≤ W.heap.size ∧ SK wr.heap.size wr [((⟨g, 2, none⟩ : Addr), (.slice (some ⟨b1, off, none⟩) n c : Value)), ((⟨g', 2, none⟩ : Addr), (.slice (some ⟨b2, off', none⟩) n c' : Value)), ((⟨b1, off + k * 3, none⟩ : Addr), (.float .f32 x : Value)), ((⟨b1, off + k * 3 + 1, none⟩ : Addr), (.float .f32 y : Value)), ((⟨b1, off + k * 3 + 2, none⟩ : Addr), (.float .f32 z : Value)), ((⟨b2, off' + k * 3, none⟩ : Addr), (.float .f32 x' : Value)), ((⟨b2, off' + k * 3 + 1, none⟩ : Addr), (.float .f32 y' : Value)), ((⟨b2, off' + k * 3 + 2, none⟩ : Addr), (.float .f32 z' : Value))] W) ((refine SK_all8 ?_; (repeat' first | with_reducible assumption | exact SK_of8 (by with_reducible assumption) | exact hST | apply SK.drew | apply SK.drewN | apply SK.alloc | (refine SK.call ?_ (by with_reducible assumption)) | (refine SK.set ?_ _ _ _ (by omega)))))
              (first | (go_at_call 52; refine (HCS.out _).mono ?_; rintro e w' ⟨rfl, hB⟩))
            have hSK : SK wr.heap.size wr [((⟨g, 2, none⟩ : Addr), (.slice (some ⟨b1, off, none⟩) n c : Value)), ((⟨g', 2, none⟩ : Addr), (.slice (some ⟨b2, off', none⟩) n c' : Value)), ((⟨b1, off + k * 3, none⟩ : Addr), (.float .f32 x : Value)), ((⟨b1, off + k * 3 + 1, none⟩ : Addr), (.float .f32 y : Value)), ((⟨b1, off + k * 3 + 2, none⟩ : Addr), (.float .f32 z : Value)), ((⟨b2, off' + k * 3, none⟩ : Addr), (.float .f32 x' : Value)), ((⟨b2, off' + k * 3 + 1, none⟩ : Addr), (.float .f32 y' : Value)), ((⟨b2, off' + k * 3 + 2, none⟩ : Addr), (.float .f32 z' : Value))] _ := SK_of8 (by with_reducible assumption)
            have HB1 := Frame.hid (HB.out.trans (hSK.m.mono HB.out.size))
            clear hSK hST c0 c1 c2 d0 d1 d2 k2 j2
            cases hs : same3 x y z x' y' z'
            · have HS := Frame.hid hs
              go_wp2
              go_ret
              exact ⟨ret_bool (by rw [eqL_bad (xs := xs) (ys := ys) (j := k) (by have := HX.out; omega) (by rw [HSE.out]; exact HS.out)]), HB1.out⟩
            · have HS := Frame.hid hs
              go_wp2
              go_roundw
              case rel =>
                refine ⟨k + 1, by omega, by go_num, fun j hj => ?_, HB1.out⟩
                by_cases he : j = k
                · subst he; rw [HSE.out]; exact HS.out
                · exact HF.out j (by omega)
              case measure => simp [intOf]; omega
          · have hkn : k = n := by omega
            subst hkn
            have HE := Frame.hid (eqL_all (xs := xs) (ys := ys) (by have := HX.out; have := HY.out; omega) (fun j hj => hF j (by have := HX.out; omega)))
            have HB := Frame.hid hB
            clear hF hB gl gl'
            go_wp2
            go_ret
            exact ⟨ret_bool HE.out.symm, HB.out⟩
      · have HL := Frame.hid (eqL_len (xs := xs) (ys := ys) (by have := HX.out; have := HY.out; omega))
        have hb : ((n : Int) == (n' : Int)) = false := by rw [beq_eq_false_iff_ne]; omega
        have hb2 : ((n : Int) != (n' : Int)) = true := by rw [bne_iff_ne]; omega
        go_enter Try.func65, Try.ntmps65
        go_wp2
        go_quiet (fail)
        go_wp2
        go_ret
        exact ⟨ret_bool (by rw [HE.out, HL.out]), below_drewN (Below.refl _ _) _⟩
    · have HE := Frame.hid (by unfold sameSh; simp [h2] : sameSh a b a b' xs ys = false)
      have hb : (b == b') = false := by simpa using h2
      have hb2 : (b != b') = true := by simpa using h2
      go_enter Try.func65, Try.ntmps65
      go_wp2
      go_quiet (fail)
      go_wp2
      go_ret
      exact ⟨ret_bool HE.out.symm, below_drewN (Below.refl _ _) _⟩
  · have HE := Frame.hid (by unfold sameSh; simp [h1] : sameSh a b a' b' xs ys = false)
    have hb : (a == a') = false := by simpa using h1
    have hb2 : (a != a') = true := by simpa using h1
    go_enter Try.func65, Try.ntmps65
    go_wp2
    go_quiet (fail)
    go_wp2
    go_ret
    exact ⟨ret_bool HE.out.symm, below_drewN (Below.refl _ _) _⟩

set_option maxRecDepth 100000 in
set_option maxHeartbeats 2000000 in
theorem specSameSheet_calls (A A' : Option Addr) (xs ys : List (Nat × Nat × Nat)) (a b a' b' : Int) (c c' n n' : Nat) (hx : n = xs.length) (hy : n' = ys.length) (hfx : Fit xs) (hfy : Fit ys) (w : World) (hn : n ≤ 1048576) (hn' : n' ≤ 1048576) (hA : RdS w A xs) (hB : RdS w A' ys) :
    Calls Try.prog 31 #[.agg #[.int .i64 a, .int .i64 b, .slice A n c], .agg #[.int .i64 a', .int .i64 b', .slice A' n' c']] w fun e w' => e = .returned (.bool (sameSh a b a' b' xs ys)) ∧ Below w.heap.size w w' := by
  have hw : Below w.heap.size w ((w.alloc (.cells #[.int .i64 a, .int .i64 b, .slice A n c] 44)).alloc (.cells #[.int .i64 a', .int .i64 b', .slice A' n' c'] 44)) := by (apply bel_of; (repeat (first | apply below_dn | apply below_al)); exact below_st _)
  have hG' := Sh3.here (w.alloc (.cells #[.int .i64 a, .int .i64 b, .slice A n c] 44)) a' b' (.slice A' n' c') 44
  have hG := (Sh3.here w a b (.slice A n c) 44).below ((Below.refl _ _).alloc (Nat.le_refl _) (.cells #[.int .i64 a', .int .i64 b', .slice A' n' c'] 44))
  have e1 : (w.alloc (.cells #[.int .i64 a, .int .i64 b, .slice A n c] 44)).heap.size = w.heap.size + 1 := by simp
  rw [e1] at hG'
  have HC := Frame.hid (l04Same_calls w.heap.size (w.heap.size + 1) A A' xs ys a b a' b' c c' n n' hx hy hfx hfy _ hn hn' hG hG' (hA.below hw) (hB.below hw))
  clear hA hB hfx hfy hx hy hw hG hG' e1
  go_enter Try.func31, Try.ntmps31
  go_wp2_with (go_at_call 65; refine HC.out.mono ?_; rintro e w' ⟨rfl, hB⟩)
  go_ret
  exact ⟨rfl, (below_ch (below_al _ (below_al _ (below_st _))) hB rfl).2⟩

set_option maxRecDepth 100000 in
set_option maxHeartbeats 1000000 in
theorem szSheetL_calls (a b : Int) (A : Option Addr) (n c L : Nat) (hL : L ≤ 1048576) (hn : n ≤ 9223372036854775807) (w : World) : Calls Try.prog 26 #[.agg #[.int .i64 a, .int .i64 b, .slice A n c], .int .i64 (L : Int)] w fun e w' => e = .returned (.int .i64 (if L < n then -1 else (L : Int) - (n : Int))) ∧ Below w.heap.size w w' := by
  have hc : ∀ W, Calls Try.prog 43 #[.slice A n c, .int .i64 (L : Int)] W fun e w' => e = .returned (.int .i64 (if L < n then -1 else (L : Int) - (n : Int))) ∧ W = w' := by
    intro W
    by_cases h : L < n
    · rw [if_pos h]
      go_enter Try.func43, Try.ntmps43
      go_wp2
      go_ret
      exact ⟨rfl, rfl⟩
    · rw [if_neg h]
      go_enter Try.func43, Try.ntmps43
      go_wp2
      go_ret
      exact ⟨rfl, rfl⟩
  have HC := Frame.hid hc
  clear hc
  by_cases h : L < n
  · rw [if_pos h]
    go_enter Try.func26, Try.ntmps26
    go_wp2_with (go_at_call 43; refine (HC.out _).mono ?_; rintro e w' ⟨rfl, rfl⟩; rw [if_pos h])
    go_ret
    exact ⟨rfl, by (apply bel_of; (repeat (first | apply below_dn | apply below_al)); exact below_st _)⟩
  · rw [if_neg h]
    go_enter Try.func26, Try.ntmps26
    go_wp2_with (go_at_call 43; refine (HC.out _).mono ?_; rintro e w' ⟨rfl, rfl⟩; rw [if_neg h])
    go_ret
    exact ⟨rfl, by (apply bel_of; (repeat (first | apply below_dn | apply below_al)); exact below_st _)⟩

set_option maxRecDepth 100000 in
set_option maxHeartbeats 4000000 in
theorem fnExactSameSheet_walk (a b : Int) (A : Option Addr) (xs : List (Nat × Nat × Nat)) (c : Nat) (hl : xs.length ≤ maxLen) (a' b' : Int) (A' : Option Addr) (ys : List (Nat × Nat × Nat)) (c' : Nat) (hl' : ys.length ≤ maxLen) (hfx : Fit xs) (hfy : Fit ys) (w : World) (hr : RdS w A xs) (hr' : RdS w A' ys) : Calls Try.prog 8 #[.agg #[.int .i64 a, .int .i64 b, .slice A xs.length c], .agg #[.int .i64 a', .int .i64 b', .slice A' ys.length c']] w fun e w' => e = .returned (.bool true) ∧ Below w.heap.size w w' := by
  obtain ⟨n, hxn⟩ : ∃ n, n = xs.length := ⟨_, rfl⟩
  obtain ⟨n', hyn⟩ : ∃ n', n' = ys.length := ⟨_, rfl⟩
  rw [← hxn] at hl ⊢
  rw [← hyn] at hl' ⊢
  have HX := Frame.hid hxn
  have HY := Frame.hid hyn
  have HM := Frame.hid (by unfold maxLen at hl; omega : n ≤ 9223372036854775807)
  have HM' := Frame.hid (by unfold maxLen at hl'; omega : n' ≤ 9223372036854775807)
  have HFX := Frame.hid hfx
  have HFY := Frame.hid hfy
  have HR := Frame.hid (fun W (hW : Below w.heap.size w W) => hr.below hW)
  have HR' := Frame.hid (fun W (hW : Below w.heap.size w W) => hr'.below hW)
  have hS0 := (Sh3.here w a b (.slice A n c) 39).below ((Below.refl _ _).alloc (Nat.le_refl _) (.cells #[.int .i64 a', .int .i64 b', .slice A' n' c'] 39))
  have hT0 := Sh3.here (w.alloc (.cells #[.int .i64 a, .int .i64 b, .slice A n c] 39)) a' b' (.slice A' n' c') 39
  have e1 : (w.alloc (.cells #[.int .i64 a, .int .i64 b, .slice A n c] 39)).heap.size = w.heap.size + 1 := by simp
  rw [e1] at hT0
  have HS0 := Frame.hid hS0
  have HT0 := Frame.hid hT0
  clear hxn hyn hl hl' hfx hfy hr hr' hS0 hT0 e1
  go_enter Try.func8, Try.ntmps8
  go_wp2_with fail
  refine (szSheetL_calls a b A n c 1048576 (by omega) HM.out _).mono ?_
  rintro e w1 ⟨rfl, hB1⟩
  have HS1 := Frame.hid (HS0.out.below hB1)
  have HT1 := Frame.hid (HT0.out.below hB1)
  have HB1 := Frame.hid (below_ch (below_al _ (below_al _ (below_st _))) hB1 rfl).2
  clear hB1
  by_cases hbig : 1048576 < n
  · rw [if_pos hbig]
    go_wp2_with fail
    go_ret
    exact ⟨rfl, HB1.out⟩
  · rw [if_neg hbig]
    have HN := Frame.hid (by omega : n ≤ 1048576)
    have k0 := HS1.out.c0
    have k1 := HS1.out.c1
    have k2 := HS1.out.c2
    have j0 := HT1.out.c0
    have j1 := HT1.out.c1
    have j2 := HT1.out.c2
    obtain ⟨L, hL⟩ : ∃ L : Nat, ((1048576 : Nat) : Int) - (n : Int) = (L : Int) ∧ L ≤ 1048576 := ⟨1048576 - n, by omega, by omega⟩
    rw [hL.1]
    go_wp2_with fail
    refine (szSheetL_calls a' b' A' n' c' L hL.2 HM'.out _).mono ?_
    rintro e w2 ⟨rfl, hB2⟩
    have HS2 := Frame.hid (HS1.out.below hB2)
    have HT2 := Frame.hid (HT1.out.below hB2)
    have HB2 := Frame.hid (HB1.out.trans (hB2.mono HB1.out.size))
    clear hB2 k0 k1 k2 j0 j1 j2
    by_cases hbig2 : L < n'
    · rw [if_pos hbig2]
      go_wp2_with fail
      go_ret
      exact ⟨rfl, HB2.out⟩
    · rw [if_neg hbig2]
      have HN' := Frame.hid (by omega : n' ≤ 1048576)
      obtain ⟨M, hM⟩ : ∃ M : Nat, (L : Int) - (n' : Int) = (M : Int) := ⟨L - n', by omega⟩
      rw [hM]
      have k0 := HS2.out.c0
      have k1 := HS2.out.c1
      have k2 := HS2.out.c2
      have j0 := HT2.out.c0
      have j1 := HT2.out.c1
      have j2 := HT2.out.c2
      have q1 := HS2.out.l
      have q2 := HT2.out.l
      have hST : SK w2.heap.size w2 [((⟨w.heap.size, 0, none⟩ : Addr), (.int .i64 a : Value)), ((⟨w.heap.size, 1, none⟩ : Addr), (.int .i64 b : Value)), ((⟨w.heap.size, 2, none⟩ : Addr), (.slice A n c : Value)), ((⟨w.heap.size + 1, 0, none⟩ : Addr), (.int .i64 a' : Value)), ((⟨w.heap.size + 1, 1, none⟩ : Addr), (.int .i64 b' : Value)), ((⟨w.heap.size + 1, 2, none⟩ : Addr), (.slice A' n' c' : Value))] w2 := SK.start (Nat.le_refl _) (by intro p hp; simp at hp; rcases hp with rfl | rfl | rfl | rfl | rfl | rfl <;> assumption) (by intro p hp; simp at hp; rcases hp with rfl | rfl | rfl | rfl | rfl | rfl <;> assumption)
      clear q1 q2 k0 k1 k2 j0 j1 j2
      go_wp2_with fail
      go_region_held3 (fun W => W.cell? ⟨w.heap.size, 0, none⟩ = some (.int .i64 a) ∧ W.cell? ⟨w.heap.size, 1, none⟩ = some (.int .i64 b) ∧ W.cell? ⟨w.heap.size, 2, none⟩ = some (.slice A n c) ∧ W.cell? ⟨w.heap.size + 1, 0, none⟩ = some (.int .i64 a') ∧ W.cell? ⟨w.heap.size + 1, 1, none⟩ = some (.int .i64 b') ∧ W.cell? ⟨w.heap.size + 1, 2, none⟩ = some (.slice A' n' c') ∧ w2.heap.size ≤ W.heap.size ∧ SK w2.heap.size w2 [((⟨w.heap.size, 0, none⟩ : Addr), (.int .i64 a : Value)), ((⟨w.heap.size, 1, none⟩ : Addr), (.int .i64 b : Value)), ((⟨w.heap.size, 2, none⟩ : Addr), (.slice A n c : Value)), ((⟨w.heap.size + 1, 0, none⟩ : Addr), (.int .i64 a' : Value)), ((⟨w.heap.size + 1, 1, none⟩ : Addr), (.int .i64 b' : Value)), ((⟨w.heap.size + 1, 2, none⟩ : Addr), (.slice A' n' c' : Value))] W) ((refine SK_all6 ?_; (repeat' first | with_reducible assumption | exact SK_of6 (by with_reducible assumption) | exact hST | apply SK.drew | apply SK.drewN | apply SK.alloc | (refine SK.call ?_ (by with_reducible assumption)) | (refine SK.set ?_ _ _ _ (by omega)))))
        (first
          | (go_at_call_of 28 (Value.slice A n c); refine (toSheet_calls A xs c n HX.out a b _ HN.out (HR.out _ HB2.out.drew)).mono ?_; rintro e w3 ⟨g1, rfl, hR1, hB, hg1⟩)
          | (go_at_call_of 28 (Value.slice A' n' c'); refine (toSheet_calls A' ys c' n' HY.out a' b' _ HN'.out (HR'.out _ ((HB2.out.drew.trans ((by with_reducible assumption : Below w2.drew.heap.size w2.drew _).mono HB2.out.size))))).mono ?_; rintro e w3' ⟨g2, rfl, hR2, hB, hg2⟩; have hR1' := hR1.below hB)
          | (go_at_call 31; refine (specSameSheet_calls _ _ xs ys a b a' b' _ _ n n' HX.out HY.out HFX.out HFY.out _ HN.out HN'.out hR1' hR2).mono ?_; rintro e w3'' ⟨rfl, hB⟩))
      have hSK : SK w2.heap.size w2 [((⟨w.heap.size, 0, none⟩ : Addr), (.int .i64 a : Value)), ((⟨w.heap.size, 1, none⟩ : Addr), (.int .i64 b : Value)), ((⟨w.heap.size, 2, none⟩ : Addr), (.slice A n c : Value)), ((⟨w.heap.size + 1, 0, none⟩ : Addr), (.int .i64 a' : Value)), ((⟨w.heap.size + 1, 1, none⟩ : Addr), (.int .i64 b' : Value)), ((⟨w.heap.size + 1, 2, none⟩ : Addr), (.slice A' n' c' : Value))] _ := SK_of6 (by with_reducible assumption)
      have HS3 := Frame.hid (HS2.out.below hSK.m)
      have HT3 := Frame.hid (HT2.out.below hSK.m)
      have HB3 := Frame.hid (HB2.out.trans (hSK.m.mono HB2.out.size))
      have k0 := HS3.out.c0
      have k1 := HS3.out.c1
      have k2 := HS3.out.c2
      clear hSK hST
      go_wp2_with fail
      refine (toSheet_calls A xs c n HX.out a b _ HN.out (HR.out _ HB3.out)).mono ?_
      rintro e w4 ⟨g4, rfl, hR4, hB4, hg4⟩
      have HT4 := Frame.hid (HT3.out.below hB4)
      have HS4 := Frame.hid (HS3.out.below hB4)
      have HB4 := Frame.hid (HB3.out.trans (hB4.mono HB3.out.size))
      have j0 := HT4.out.c0
      have j1 := HT4.out.c1
      have j2 := HT4.out.c2
      have jl : w.heap.size + 1 < w4.heap.size := HT4.out.l
      have HQ4 := Frame.hid hR4
      clear hB4 k0 k1 k2 hR4
      go_wp2_with fail
      refine (toSheet_calls A' ys c' n' HY.out a' b' _ HN'.out (HR'.out _ (HB4.out.alloc HB4.out.size _))).mono ?_
      rintro e w5 ⟨g5, rfl, hR5, hB5, hg5⟩
      have HX5 := Frame.hid ((Sh3.here w4 a b (.slice (some ⟨g4, 0, none⟩) n n) 44).below hB5)
      have HQ5 := Frame.hid ((HQ4.out.below ((Below.refl _ _).alloc (Nat.le_refl _) (.cells #[.int .i64 a, .int .i64 b, .slice (some ⟨g4, 0, none⟩) n n] 44))).below hB5)
      have HT5 := Frame.hid ((HT4.out.below ((Below.refl _ _).alloc (Nat.le_refl _) (.cells #[.int .i64 a, .int .i64 b, .slice (some ⟨g4, 0, none⟩) n n] 44))).below hB5)
      have HS5 := Frame.hid ((HS4.out.below ((Below.refl _ _).alloc (Nat.le_refl _) (.cells #[.int .i64 a, .int .i64 b, .slice (some ⟨g4, 0, none⟩) n n] 44))).below hB5)
      have HB5 := Frame.hid (below_ch (below_al _ ⟨HB4.out.size, HB4.out⟩) hB5 rfl).2
      have HZ5 := Frame.hid hR5
      have k0 := HX5.out.c0
      have k1 := HX5.out.c1
      have k2 := HX5.out.c2
      have kl := HX5.out.l
      clear hB5 j0 j1 j2 jl hR5
      go_wp2_with fail
      have ha5 : Below w5.heap.size w5 (w5.alloc (.cells #[.int .i64 a', .int .i64 b', .slice (some ⟨g5, 0, none⟩) n' n'] 44)) := (Below.refl _ _).alloc (Nat.le_refl _) _
      refine (sameSheet_calls _ _ xs ys a b a' b' _ _ n n' HX.out HY.out HFX.out HFY.out _ HN.out HN'.out (HQ5.out.below ha5) (HZ5.out.below ha5)).mono ?_
      rintro e w6 ⟨rfl, hB6⟩
      have HX6 := Frame.hid ((HX5.out.below ha5).below hB6)
      have HY6 := Frame.hid ((Sh3.here w5 a' b' (.slice (some ⟨g5, 0, none⟩) n' n') 44).below hB6)
      have HQ6 := Frame.hid ((HQ5.out.below ha5).below hB6)
      have HZ6 := Frame.hid ((HZ5.out.below ha5).below hB6)
      have HS6 := Frame.hid ((HS5.out.below ha5).below hB6)
      have HT6 := Frame.hid ((HT5.out.below ha5).below hB6)
      have HB6 := Frame.hid (below_ch (below_al _ ⟨HB5.out.size, HB5.out⟩) hB6 rfl).2
      clear hB6 k0 k1 k2 kl ha5
      have k0 := HX6.out.c0
      have k1 := HX6.out.c1
      have k2 := HX6.out.c2
      have j0 := HS6.out.c0
      have j1 := HS6.out.c1
      have j2 := HS6.out.c2
      have q1 := HX6.out.l
      have q2 := HS6.out.l
      have hST : SK w6.heap.size w6 [((⟨w4.heap.size, 0, none⟩ : Addr), (.int .i64 a : Value)), ((⟨w4.heap.size, 1, none⟩ : Addr), (.int .i64 b : Value)), ((⟨w4.heap.size, 2, none⟩ : Addr), (.slice (some ⟨g4, 0, none⟩) n n : Value)), ((⟨w.heap.size, 0, none⟩ : Addr), (.int .i64 a : Value)), ((⟨w.heap.size, 1, none⟩ : Addr), (.int .i64 b : Value)), ((⟨w.heap.size, 2, none⟩ : Addr), (.slice A n c : Value))] w6 := SK.start (Nat.le_refl _) (by intro p hp; simp at hp; rcases hp with rfl | rfl | rfl | rfl | rfl | rfl <;> assumption) (by intro p hp; simp at hp; rcases hp with rfl | rfl | rfl | rfl | rfl | rfl <;> assumption)
      clear q1 q2 k0 k1 k2 j0 j1 j2
      go_wp2_with fail
      go_region_held3 (fun W => W.cell? ⟨w4.heap.size, 0, none⟩ = some (.int .i64 a) ∧ W.cell? ⟨w4.heap.size, 1, none⟩ = some (.int .i64 b) ∧ W.cell? ⟨w4.heap.size, 2, none⟩ = some (.slice (some ⟨g4, 0, none⟩) n n) ∧ W.cell? ⟨w.heap.size, 0, none⟩ = some (.int .i64 a) ∧ W.cell? ⟨w.heap.size, 1, none⟩ = some (.int .i64 b) ∧ W.cell? ⟨w.heap.size, 2, none⟩ = some (.slice A n c) ∧ w6.heap.size ≤ W.heap.size ∧ SK w6.heap.size w6 [((⟨w4.heap.size, 0, none⟩ : Addr), (.int .i64 a : Value)), ((⟨w4.heap.size, 1, none⟩ : Addr), (.int .i64 b : Value)), ((⟨w4.heap.size, 2, none⟩ : Addr), (.slice (some ⟨g4, 0, none⟩) n n : Value)), ((⟨w.heap.size, 0, none⟩ : Addr), (.int .i64 a : Value)), ((⟨w.heap.size, 1, none⟩ : Addr), (.int .i64 b : Value)), ((⟨w.heap.size, 2, none⟩ : Addr), (.slice A n c : Value))] W) ((refine SK_all6 ?_; (repeat' first | with_reducible assumption | exact SK_of6 (by with_reducible assumption) | exact hST | apply SK.drew | apply SK.drewN | apply SK.alloc | (refine SK.call ?_ (by with_reducible assumption)) | (refine SK.set ?_ _ _ _ (by omega)))))
        (first
          | (go_at_call 28; refine (toSheet_calls A xs c n HX.out a b _ HN.out (HR.out _ HB6.out.drew)).mono ?_; rintro e w7 ⟨g7, rfl, hR7, hB, hg7⟩)
          | (go_at_call 30; refine (eqSheet_calls _ _ xs xs a b _ _ n HX.out _ HN.out ((HQ6.out.below (Below.refl _ _).drew).below (by with_reducible assumption)) hR7 (LS.refl _)).mono ?_; rintro e w7' ⟨rfl, hB⟩))
      have hSK7 : SK w6.heap.size w6 [((⟨w4.heap.size, 0, none⟩ : Addr), (.int .i64 a : Value)), ((⟨w4.heap.size, 1, none⟩ : Addr), (.int .i64 b : Value)), ((⟨w4.heap.size, 2, none⟩ : Addr), (.slice (some ⟨g4, 0, none⟩) n n : Value)), ((⟨w.heap.size, 0, none⟩ : Addr), (.int .i64 a : Value)), ((⟨w.heap.size, 1, none⟩ : Addr), (.int .i64 b : Value)), ((⟨w.heap.size, 2, none⟩ : Addr), (.slice A n c : Value))] _ := SK_of6 (by with_reducible assumption)
      have HY7 := Frame.hid (HY6.out.below hSK7.m)
      have HT7 := Frame.hid (HT6.out.below hSK7.m)
      have HZ7 := Frame.hid (HZ6.out.below hSK7.m)
      have HB7 := Frame.hid (HB6.out.trans (hSK7.m.mono HB6.out.size))
      have k0 := HY7.out.c0
      have k1 := HY7.out.c1
      have k2 := HY7.out.c2
      have j0 := HT7.out.c0
      have j1 := HT7.out.c1
      have j2 := HT7.out.c2
      have q1 := HY7.out.l
      have q2 := HT7.out.l
      clear hSK7 hST
      have hST : SK w7'.heap.size w7' [((⟨w5.heap.size, 0, none⟩ : Addr), (.int .i64 a' : Value)), ((⟨w5.heap.size, 1, none⟩ : Addr), (.int .i64 b' : Value)), ((⟨w5.heap.size, 2, none⟩ : Addr), (.slice (some ⟨g5, 0, none⟩) n' n' : Value)), ((⟨w.heap.size + 1, 0, none⟩ : Addr), (.int .i64 a' : Value)), ((⟨w.heap.size + 1, 1, none⟩ : Addr), (.int .i64 b' : Value)), ((⟨w.heap.size + 1, 2, none⟩ : Addr), (.slice A' n' c' : Value))] w7' := SK.start (Nat.le_refl _) (by intro p hp; simp at hp; rcases hp with rfl | rfl | rfl | rfl | rfl | rfl <;> assumption) (by intro p hp; simp at hp; rcases hp with rfl | rfl | rfl | rfl | rfl | rfl <;> assumption)
      clear q1 q2 k0 k1 k2 j0 j1 j2
      go_wp2_with fail
      go_region_held3 (fun W => W.cell? ⟨w5.heap.size, 0, none⟩ = some (.int .i64 a') ∧ W.cell? ⟨w5.heap.size, 1, none⟩ = some (.int .i64 b') ∧ W.cell? ⟨w5.heap.size, 2, none⟩ = some (.slice (some ⟨g5, 0, none⟩) n' n') ∧ W.cell? ⟨w.heap.size + 1, 0, none⟩ = some (.int .i64 a') ∧ W.cell? ⟨w.heap.size + 1, 1, none⟩ = some (.int .i64 b') ∧ W.cell? ⟨w.heap.size + 1, 2, none⟩ = some (.slice A' n' c') ∧ w7'.heap.size ≤ W.heap.size ∧ SK w7'.heap.size w7' [((⟨w5.heap.size, 0, none⟩ : Addr), (.int .i64 a' : Value)), ((⟨w5.heap.size, 1, none⟩ : Addr), (.int .i64 b' : Value)), ((⟨w5.heap.size, 2, none⟩ : Addr), (.slice (some ⟨g5, 0, none⟩) n' n' : Value)), ((⟨w.heap.size + 1, 0, none⟩ : Addr), (.int .i64 a' : Value)), ((⟨w.heap.size + 1, 1, none⟩ : Addr), (.int .i64 b' : Value)), ((⟨w.heap.size + 1, 2, none⟩ : Addr), (.slice A' n' c' : Value))] W) ((refine SK_all6 ?_; (repeat' first | with_reducible assumption | exact SK_of6 (by with_reducible assumption) | exact hST | apply SK.drew | apply SK.drewN | apply SK.alloc | (refine SK.call ?_ (by with_reducible assumption)) | (refine SK.set ?_ _ _ _ (by omega)))))
        (first
          | (go_at_call 28; refine (toSheet_calls A' ys c' n' HY.out a' b' _ HN'.out (HR'.out _ HB7.out.drew)).mono ?_; rintro e w8 ⟨g8, rfl, hR8, hB, hg8⟩)
          | (go_at_call 30; refine (eqSheet_calls _ _ ys ys a' b' _ _ n' HY.out _ HN'.out ((HZ7.out.below (Below.refl _ _).drew).below (by with_reducible assumption)) hR8 (LS.refl _)).mono ?_; rintro e w8' ⟨rfl, hB⟩))
      have hSK8 : SK w7'.heap.size w7' [((⟨w5.heap.size, 0, none⟩ : Addr), (.int .i64 a' : Value)), ((⟨w5.heap.size, 1, none⟩ : Addr), (.int .i64 b' : Value)), ((⟨w5.heap.size, 2, none⟩ : Addr), (.slice (some ⟨g5, 0, none⟩) n' n' : Value)), ((⟨w.heap.size + 1, 0, none⟩ : Addr), (.int .i64 a' : Value)), ((⟨w.heap.size + 1, 1, none⟩ : Addr), (.int .i64 b' : Value)), ((⟨w.heap.size + 1, 2, none⟩ : Addr), (.slice A' n' c' : Value))] _ := SK_of6 (by with_reducible assumption)
      have HB8 := Frame.hid (HB7.out.trans (hSK8.m.mono HB7.out.size))
      clear hSK8 hST
      go_wp2_with fail
      go_ret
      exact ⟨rfl, HB8.out⟩

end Go.Proofs.Ytoldefcajampcaa
