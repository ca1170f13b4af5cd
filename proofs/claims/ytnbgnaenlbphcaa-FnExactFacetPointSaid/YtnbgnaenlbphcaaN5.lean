/-
  Nets are the same: both sides.
-/
import Derived.Test.YtnbgnaenlbphcaaN4
import Derived.Test.YtnbgnaenlbphcaaKw
namespace Go.Proofs.Ytnbgnaenlbphcaa
open Go.RowKit Fl Go.WideShapes Go.Deep
attribute [local go_sem] kstore_f kalloc_drewN kset_drewN hstore_i hstore_s

theorem ints_eq {xs ys : List Int} (hl : xs.length = ys.length) (h : ∀ j, j < xs.length → xs.getD j 0 = ys.getD j 0) : xs = ys := by
  refine List.ext_getElem hl fun j h1 h2 => ?_
  have := h j h1
  rw [List.getD_eq_getElem?_getD, List.getD_eq_getElem?_getD, List.getElem?_eq_getElem h1, List.getElem?_eq_getElem h2] at this
  exact this
theorem facets_eq {xs ys : List (List Int)} (hl : xs.length = ys.length) (h : ∀ j, j < xs.length → crn xs j = crn ys j) : xs = ys := by
  refine List.ext_getElem hl fun j h1 h2 => ?_
  have := h j h1
  unfold crn at this
  rw [List.getD_eq_getElem?_getD, List.getD_eq_getElem?_getD, List.getElem?_eq_getElem h1, List.getElem?_eq_getElem h2] at this
  exact this

set_option maxRecDepth 100000 in
set_option maxHeartbeats 2000000 in
theorem equalInts_calls (A B : Option Addr) (xs ys : List Int) (n n' c c' : Nat) (hx : n = xs.length) (hy : n' = ys.length) (hn : n ≤ 1048576) (hn' : n' ≤ 1048576) (w : World) (hA : RdJ w A xs) (hB : RdJ w B ys) :
    Calls Try.prog 69 #[.slice A n c, .slice B n' c'] w fun e w' => e = .returned (.bool (decide (xs = ys))) ∧ Below w.heap.size w w' := by
  have HX := Frame.hid hx
  have HY := Frame.hid hy
  have HA := Frame.hid hA
  have HB := Frame.hid hB
  clear hx hy hA hB
  by_cases hl : n = n'
  · subst hl
    go_enter Try.func69, Try.ntmps69
    go_wp2
    go_loopw [13] (fun i wr => ∃ k : Nat, k ≤ n ∧ i = .int .i64 k ∧ (∀ j, j < k → xs.getD j 0 = ys.getD j 0) ∧ ∃ m, wr = w.drewN m) (fun i _ => n - (intOf i).toNat)
    case atStart => exact ⟨0, Nat.zero_le _, rfl, fun j hj => absurd hj (by omega), 0, rfl⟩
    case round =>
      obtain ⟨k, hk, rfl, hF, m, rfl⟩ := hrel
      have HF := Frame.hid hF
      clear hF
      by_cases hlt : k < n
      · obtain ⟨b, off, rfl, hb, hc⟩ := HA.out (by have := HX.out; omega)
        obtain ⟨b', off', rfl, hb', hc'⟩ := HB.out (by have := HY.out; omega)
        have hc1 := hc k (by have := HX.out; omega)
        have hc2 := hc' k (by have := HY.out; omega)
        obtain ⟨x, hx⟩ : ∃ x, x = xs.getD k 0 := ⟨_, rfl⟩
        obtain ⟨y, hy⟩ : ∃ y, y = ys.getD k 0 := ⟨_, rfl⟩
        rw [← hx] at hc1
        rw [← hy] at hc2
        have HXY := Frame.hid (And.intro hx hy)
        clear hc hc' HA HB hx hy
        by_cases hxy : x = y
        · subst hxy
          go_wp2
          go_region
          all_goals
            go_wp2
            go_roundw
            case rel =>
              refine ⟨k + 1, by omega, by go_num, fun j hj => ?_, _, rfl⟩
              rcases Nat.lt_or_ge j k with h1 | h1
              · exact HF.out j h1
              · obtain rfl : j = k := by omega
                rw [← HXY.out.1, ← HXY.out.2]
            case measure => simp [intOf]; omega
        · have hb1 : (x != y) = true := by simpa using hxy
          have hb2 : (x == y) = false := by simpa using hxy
          have HNE := Frame.hid hxy
          go_wp2
          go_region
          all_goals
            go_wp2
            go_ret
            refine ⟨ret_bool (by symm; rw [decide_eq_false_iff_not]; intro e; apply HNE.out; rw [HXY.out.1, HXY.out.2, e]), ?_⟩
            exact below_drewN (Below.refl _ _) _
      · have hkn : k = n := by omega
        subst hkn
        have HE := Frame.hid (ints_eq (xs := xs) (ys := ys) (by rw [← HX.out, ← HY.out]) (fun j hj => HF.out j (by rw [HX.out]; exact hj)))
        go_wp2
        go_ret
        exact ⟨ret_bool (by rw [decide_eq_true HE.out]), below_drewN (Below.refl _ _) _⟩
  · have HE := Frame.hid (show decide (xs = ys) = false by rw [decide_eq_false_iff_not]; intro e; apply hl; rw [HX.out, HY.out, e])
    have hb : ((n : Int) == (n' : Int)) = false := by rw [beq_eq_false_iff_ne]; omega
    have hb2 : ((n : Int) != (n' : Int)) = true := by rw [bne_iff_ne]; omega
    go_enter Try.func69, Try.ntmps69
    go_wp2
    go_ret
    exact ⟨ret_bool HE.out.symm, Below.refl _ _⟩

set_option maxRecDepth 100000 in
set_option maxHeartbeats 2000000 in
theorem sameFacet_calls (A B : Option Addr) (xs ys : List Int) (n n' c c' : Nat) (hx : n = xs.length) (hy : n' = ys.length) (hn : n ≤ 1048576) (hn' : n' ≤ 1048576) (w : World) (hA : RdJ w A xs) (hB : RdJ w B ys) :
    Calls Try.prog 68 #[.agg #[.slice A n c], .agg #[.slice B n' c']] w fun e w' => e = .returned (.bool (decide (xs = ys))) ∧ Below w.heap.size w w' := by
  have HC := Frame.hid (fun W (hW : Below w.heap.size w W) => equalInts_calls A B xs ys n n' c c' hx hy hn hn' W (hA.below hW) (hB.below hW))
  clear hA hB hx hy
  go_enter Try.func68, Try.ntmps68
  go_wp2_with (go_at_call 69; refine (HC.out _ (by (apply bel_of; (repeat (first | apply below_dn | apply below_al)); exact below_st _))).mono ?_; rintro e w' ⟨rfl, hB⟩)
  go_ret
  exact ⟨rfl, (below_ch (below_al _ (below_al _ (below_st _))) hB rfl).2⟩

set_option maxRecDepth 100000 in
set_option maxHeartbeats 4000000 in
theorem equalFacets_calls (A B : Option Addr) (fs gs : List (List Int)) (m m' c c' : Nat) (hm : m = fs.length) (hm' : m' = gs.length) (hml : m ≤ 1048576) (hml' : m' ≤ 1048576) (hfl : ∀ k, k < m → (crn fs k).length ≤ 1048576) (hgl : ∀ k, k < m' → (crn gs k).length ≤ 1048576) (w : World) (hA : RdF w A fs) (hB : RdF w B gs) :
    Calls Try.prog 72 #[.slice A m c, .slice B m' c', .func (.func 68) #[] #[]] w fun e w' => e = .returned (.bool (decide (fs = gs))) ∧ Below w.heap.size w w' := by
  have HX := Frame.hid hm
  have HY := Frame.hid hm'
  have HA := Frame.hid hA
  have HA' := Frame.hid hB
  have HFX := Frame.hid hfl
  have HFY := Frame.hid hgl
  clear hm hm' hA hB hfl hgl
  by_cases hl : m = m'
  · subst hl
    go_enter Try.func72, Try.ntmps72
    go_wp2
    go_loopw [17] (fun i wr => ∃ k : Nat, k ≤ m ∧ i = .int .i64 k ∧ (∀ j, j < k → crn fs j = crn gs j) ∧ Below w.heap.size w wr) (fun i _ => m - (intOf i).toNat)
    case atStart => exact ⟨0, Nat.zero_le _, rfl, fun j hj => absurd hj (by omega), Below.refl _ _⟩
    case round =>
      obtain ⟨k, hk, rfl, hF, hB⟩ := hrel
      have HF := Frame.hid hF
      have HB := Frame.hid hB
      clear hF hB
      by_cases hlt : k < m
      · obtain ⟨b, off, rfl, hb, hc⟩ := HA.out.h (by have := HX.out; omega)
        obtain ⟨b', off', rfl, hb', hc'⟩ := HA'.out.h (by have := HY.out; omega)
        obtain ⟨Ak, ck, c0, hr⟩ := hc k (by have := HX.out; omega)
        obtain ⟨Bk, dk, d0, hr'⟩ := hc' k (by have := HY.out; omega)
        obtain ⟨p, hp⟩ : ∃ p, p = (crn fs k).length := ⟨_, rfl⟩
        obtain ⟨q, hq⟩ : ∃ q, q = (crn gs k).length := ⟨_, rfl⟩
        rw [← hp] at c0
        rw [← hq] at d0
        have c1 := (HB.out.cell (p := ⟨b, off + k, none⟩) hb).trans c0
        have d1 := (HB.out.cell (p := ⟨b', off' + k, none⟩) hb').trans d0
        have hbs : b' < wr.heap.size := Nat.lt_of_lt_of_le hb' HB.out.size
        have HCS := Frame.hid (fun W (h : Below w.heap.size w W) => sameFacet_calls Ak Bk (crn fs k) (crn gs k) p q ck dk hp hq (by rw [hp]; exact HFX.out k hlt) (by rw [hq]; exact HFY.out k hlt) W (hr.below h) (hr'.below h))
        clear hc hc' c0 d0 hr hr' hp hq hb hb' HA HA'
        go_wp2_with fail
        refine (HCS.out _ (bel_of (below_al _ (below_al _ ⟨HB.out.size, HB.out⟩)))).mono ?_
        rintro e w1 ⟨rfl, hB1⟩
        have HB1 := Frame.hid (below_ch (below_al _ (below_al _ ⟨HB.out.size, HB.out⟩)) hB1 rfl).2
        clear hB1 c1 d1
        cases hs : decide (crn fs k = crn gs k)
        · have HS := Frame.hid (of_decide_eq_false hs)
          go_wp2_with fail
          go_ret
          exact ⟨ret_bool (by symm; rw [decide_eq_false_iff_not]; intro e; exact HS.out (by rw [e])), HB1.out⟩
        · have HS := Frame.hid (of_decide_eq_true hs)
          go_wp2_with fail
          go_roundw
          case rel =>
            refine ⟨k + 1, by omega, by go_num, fun j hj => ?_, HB1.out⟩
            by_cases he : j = k
            · subst he; exact HS.out
            · exact HF.out j (by omega)
          case measure => simp [intOf]; omega
      · have hkn : k = m := by omega
        subst hkn
        have HE := Frame.hid (facets_eq (xs := fs) (ys := gs) (by rw [← HX.out, ← HY.out]) (fun j hj => HF.out j (by rw [HX.out]; exact hj)))
        go_wp2
        go_ret
        exact ⟨ret_bool (by rw [decide_eq_true HE.out]), HB.out⟩
  · have HE := Frame.hid (show decide (fs = gs) = false by rw [decide_eq_false_iff_not]; intro e; apply hl; rw [HX.out, HY.out, e])
    have hb : ((m : Int) == (m' : Int)) = false := by rw [beq_eq_false_iff_ne]; omega
    have hb2 : ((m : Int) != (m' : Int)) = true := by rw [bne_iff_ne]; omega
    go_enter Try.func72, Try.ntmps72
    go_wp2
    go_ret
    exact ⟨ret_bool HE.out.symm, Below.refl _ _⟩

/-- Two nets are the same. -/
def sameNt (xs ys : List (Nat × Nat × Nat)) (fs gs : List (List Int)) : Bool := eqL xs ys && decide (fs = gs)

set_option maxRecDepth 100000 in
set_option maxHeartbeats 4000000 in
theorem sameNet_calls (A B A' B' : Option Addr) (xs ys : List (Nat × Nat × Nat)) (fs gs : List (List Int)) (n m n' m' c d c' d' : Nat) (hx : n = xs.length) (hy : n' = ys.length) (hn : n ≤ 1048576) (hn' : n' ≤ 1048576) (hfx : Fit xs) (hfy : Fit ys) (hm : m = fs.length) (hm' : m' = gs.length) (hml : m ≤ 1048576) (hml' : m' ≤ 1048576) (hfl : ∀ k, k < m → (crn fs k).length ≤ 1048576) (hgl : ∀ k, k < m' → (crn gs k).length ≤ 1048576) (w : World) (hA : RdS w A xs) (hB : RdF w B fs) (hA' : RdS w A' ys) (hB' : RdF w B' gs) :
    Calls Try.prog 25 #[.agg #[.slice A n c, .slice B m d], .agg #[.slice A' n' c', .slice B' m' d']] w fun e w' => e = .returned (.bool (sameNt xs ys fs gs)) ∧ Below w.heap.size w w' := by
  have HC := Frame.hid (fun W (hW : Below w.heap.size w W) => equalFunc_calls A A' xs ys c c' n n' hx hy hfx hfy W hn hn' (hA.below hW) (hA'.below hW))
  have HF := Frame.hid (fun W (hW : Below w.heap.size w W) => equalFacets_calls B B' fs gs m m' d d' hm hm' hml hml' hfl hgl W (hB.below hW) (hB'.below hW))
  clear hx hy hfx hfy hm hm' hfl hgl hA hB hA' hB'
  have hb2 : Below w.heap.size w ((w.alloc (.cells #[.slice A n c, .slice B m d] 43)).alloc (.cells #[.slice A' n' c', .slice B' m' d'] 43)) := (below_al _ (below_al _ (below_st _))).2
  unfold sameNt
  go_enter Try.func25, Try.ntmps25
  go_wp2_with fail
  refine (HC.out _ hb2).mono ?_
  rintro e w1 ⟨rfl, hB1⟩
  have p0 : w1.cell? ⟨w.heap.size, 1, none⟩ = some (.slice B m d) := (hB1.cell (p := ⟨w.heap.size, 1, none⟩) (by simp only [World.size_alloc]; omega)).trans (by simp [go_sem])
  have p1 : w1.cell? ⟨w.heap.size + 1, 1, none⟩ = some (.slice B' m' d') := (hB1.cell (p := ⟨w.heap.size + 1, 1, none⟩) (by simp only [World.size_alloc]; omega)).trans (by simp [go_sem])
  have HB1 := Frame.hid (hb2.trans (hB1.mono hb2.size))
  clear hB1 hb2
  cases hq : eqL xs ys
  · go_wp2_with fail
    go_ret
    exact ⟨ret_bool (by rw [hq]; rfl), HB1.out⟩
  · go_wp2_with fail
    refine (HF.out _ HB1.out).mono ?_
    rintro e w2 ⟨rfl, hB2⟩
    have HB2 := Frame.hid (HB1.out.trans (hB2.mono HB1.out.size))
    clear hB2 p0 p1
    go_wp2_with fail
    go_ret
    exact ⟨ret_bool (by rw [hq]; simp), HB2.out⟩

/-- A net lies at the head of block g. -/
structure Nt2 (w : World) (g : Nat) (s f : Value) : Prop where
  c0 : w.cell? ⟨g, 0, none⟩ = some s
  c1 : w.cell? ⟨g, 1, none⟩ = some f
  l : g < w.heap.size
theorem Nt2.below {w w' : World} {g : Nat} {s f : Value} (h : Nt2 w g s f) (hB : Below w.heap.size w w') : Nt2 w' g s f := ⟨(hB.cell h.l).trans h.c0, (hB.cell h.l).trans h.c1, Nat.lt_of_lt_of_le h.l hB.size⟩
theorem Nt2.here (w : World) (s f : Value) (t : TypeId) : Nt2 (w.alloc (.cells #[s, f] t)) w.heap.size s f := ⟨by simp [go_sem], by simp [go_sem], by simp⟩

set_option maxRecDepth 100000 in
set_option maxHeartbeats 8000000 in
theorem l06Same_calls (g g' : Nat) (A B A' B' : Option Addr) (xs ys : List (Nat × Nat × Nat)) (fs gs : List (List Int)) (n m n' m' c d c' d' : Nat) (hx : n = xs.length) (hy : n' = ys.length) (hn : n ≤ 1048576) (hn' : n' ≤ 1048576) (hfx : Fit xs) (hfy : Fit ys) (hm : m = fs.length) (hm' : m' = gs.length) (hml : m ≤ 1048576) (hml' : m' ≤ 1048576) (hfl : ∀ k, k < m → (crn fs k).length ≤ 1048576) (hgl : ∀ k, k < m' → (crn gs k).length ≤ 1048576) (w : World) (hG : Nt2 w g (.slice A n c) (.slice B m d)) (hG' : Nt2 w g' (.slice A' n' c') (.slice B' m' d')) (hA : RdS w A xs) (hB : RdF w B fs) (hA' : RdS w A' ys) (hB' : RdF w B' gs) :
    Calls Try.prog 66 #[.pointer (some ⟨g, 0, none⟩), .pointer (some ⟨g', 0, none⟩)] w fun e w' => e = .returned (.bool (sameNt xs ys fs gs)) ∧ Below w.heap.size w w' := by
  have k0 := hG.c0
  have k1 := hG.c1
  have j0 := hG'.c0
  have j1 := hG'.c1
  have HX := Frame.hid hx
  have HY := Frame.hid hy
  have HM := Frame.hid hm
  have HM' := Frame.hid hm'
  have HA := Frame.hid hA
  have HA' := Frame.hid hA'
  have HF := Frame.hid hB
  have HF' := Frame.hid hB'
  have HFX := Frame.hid hfx
  have HFY := Frame.hid hfy
  have HFL := Frame.hid hfl
  have HGL := Frame.hid hgl
  have HG := Frame.hid hG
  have HG' := Frame.hid hG'
  clear hx hy hm hm' hA hB hA' hB' hfx hfy hfl hgl hG hG'
  by_cases h1 : n = n'
  · subst h1
    by_cases h2 : m = m'
    · subst h2
      go_enter Try.func66, Try.ntmps66
      go_wp2
      go_quiet (fail)
      go_wp2
      clear k0 k1 j0 j1
      go_loopw [5] (fun i wr => ∃ k : Nat, k ≤ n ∧ i = .int .i64 k ∧ (∀ j, j < k → sameAt xs ys j = true) ∧ Below w.heap.size w wr) (fun i _ => n - (intOf i).toNat)
      case atStart => exact ⟨0, Nat.zero_le _, rfl, fun j hj => absurd hj (by omega), below_drewN (Below.refl _ _) _⟩
      case round =>
        obtain ⟨k, hk, rfl, hF, hB⟩ := hrel
        have k2 := (HG.out.below hB).c0
        have j2 := (HG'.out.below hB).c0
        have gl := (HG.out.below hB).l
        have gl' := (HG'.out.below hB).l
        by_cases hlt : k < n
        · obtain ⟨b1, off, rfl, hb, hc⟩ := HA.out.h (by have := HX.out; omega)
          obtain ⟨b2, off', rfl, hb', hc'⟩ := HA'.out.h (by have := HY.out; omega)
          have h3 := (hc k (by have := HX.out; omega)).keep hB hb
          have g3 := (hc' k (by have := HY.out; omega)).keep hB hb'
          have fx := HFX.out k (by have := HX.out; omega)
          have fy := HFY.out k (by have := HY.out; omega)
          have c0 := h3.c0
          have c1 := h3.c1
          have c2 := h3.c2
          have d0 := g3.c0
          have d1 := g3.c1
          have d2 := g3.c2
          have hbs : b1 < wr.heap.size := Nat.lt_of_lt_of_le hb hB.size
          have hbs' : b2 < wr.heap.size := Nat.lt_of_lt_of_le hb' hB.size
          have hse : sameAt xs ys k = same3 (sx xs k) (sy xs k) (sz xs k) (sx ys k) (sy ys k) (sz ys k) := rfl
          generalize sx xs k = x at *
          generalize sy xs k = y at *
          generalize sz xs k = z at *
          generalize sx ys k = x' at *
          generalize sy ys k = y' at *
          generalize sz ys k = z' at *
          have hcs : ∀ W, Calls Try.prog 123 #[.agg #[.float .f32 x, .float .f32 y, .float .f32 z], .agg #[.float .f32 x', .float .f32 y', .float .f32 z']] W fun e w' => e = .returned (.bool (same3 x y z x' y' z')) ∧ Below W.heap.size W w' := fun W => l04SameSpot_calls x y z x' y' z' (by omega) (by omega) (by omega) (by omega) (by omega) (by omega) W
          have HCS := Frame.hid hcs
          clear hcs
          have HSE := Frame.hid hse
          have HFF := Frame.hid hF
          have HB := Frame.hid hB
          have hST : SK wr.heap.size wr [((⟨g, 0, none⟩ : Addr), (.slice (some ⟨b1, off, none⟩) n c : Value)), ((⟨g', 0, none⟩ : Addr), (.slice (some ⟨b2, off', none⟩) n c' : Value)), ((⟨b1, off + k * 3, none⟩ : Addr), (.float .f32 x : Value)), ((⟨b1, off + k * 3 + 1, none⟩ : Addr), (.float .f32 y : Value)), ((⟨b1, off + k * 3 + 2, none⟩ : Addr), (.float .f32 z : Value)), ((⟨b2, off' + k * 3, none⟩ : Addr), (.float .f32 x' : Value)), ((⟨b2, off' + k * 3 + 1, none⟩ : Addr), (.float .f32 y' : Value)), ((⟨b2, off' + k * 3 + 2, none⟩ : Addr), (.float .f32 z' : Value))] wr := SK.start (Nat.le_refl _) (by intro p hp; simp at hp; rcases hp with rfl | rfl | rfl | rfl | rfl | rfl | rfl | rfl <;> assumption) (by intro p hp; simp at hp; rcases hp with rfl | rfl | rfl | rfl | rfl | rfl | rfl | rfl <;> assumption)
          have p0 : (0 : Int) ≤ (k : Int) := by omega
          have p1 : (k : Int) < (n : Int) := by omega
          clear hc hc' h3 g3 hF hB HA HA' hse fx fy hb hb' gl gl' hbs hbs' HG HG'
          go_wp2
          go_region_held3 (fun W => W.cell? ⟨g, 0, none⟩ = some (.slice (some ⟨b1, off, none⟩) n c) ∧ W.cell? ⟨g', 0, none⟩ = some (.slice (some ⟨b2, off', none⟩) n c') ∧ W.cell? ⟨b1, off + k * 3, none⟩ = some (.float .f32 x) ∧ W.cell? ⟨b1, off + k * 3 + 1, none⟩ = some (.float .f32 y) ∧ W.cell? ⟨b1, off + k * 3 + 2, none⟩ = some (.float .f32 z) ∧ W.cell? ⟨b2, off' + k * 3, none⟩ = some (.float .f32 x') ∧ W.cell? ⟨b2, off' + k * 3 + 1, none⟩ = some (.float .f32 y') ∧ W.cell? ⟨b2, off' + k * 3 + 2, none⟩ = some (.float .f32 z') ∧ wr.heap.size ≤ W.heap.size ∧ SK wr.heap.size wr [((⟨g, 0, none⟩ : Addr), (.slice (some ⟨b1, off, none⟩) n c : Value)), ((⟨g', 0, none⟩ : Addr), (.slice (some ⟨b2, off', none⟩) n c' : Value)), ((⟨b1, off + k * 3, none⟩ : Addr), (.float .f32 x : Value)), ((⟨b1, off + k * 3 + 1, none⟩ : Addr), (.float .f32 y : Value)), ((⟨b1, off + k * 3 + 2, none⟩ : Addr), (.float .f32 z : Value)), ((⟨b2, off' + k * 3, none⟩ : Addr), (.float .f32 x' : Value)), ((⟨b2, off' + k * 3 + 1, none⟩ : Addr), (.float .f32 y' : Value)), ((⟨b2, off' + k * 3 + 2, none⟩ : Addr), (.float .f32 z' : Value))] W) ((refine SK_all8 ?_; (repeat' first | with_reducible assumption | exact SK_of8 (by with_reducible assumption) | exact hST | apply SK.drew | apply SK.drewN | apply SK.alloc | (refine SK.call ?_ (by with_reducible assumption)) | (refine SK.set ?_ _ _ _ (by omega)))))
              (first | (go_at_call 123; refine (HCS.out _).mono ?_; rintro e w' ⟨rfl, hB⟩))
          have hSK : SK wr.heap.size wr [((⟨g, 0, none⟩ : Addr), (.slice (some ⟨b1, off, none⟩) n c : Value)), ((⟨g', 0, none⟩ : Addr), (.slice (some ⟨b2, off', none⟩) n c' : Value)), ((⟨b1, off + k * 3, none⟩ : Addr), (.float .f32 x : Value)), ((⟨b1, off + k * 3 + 1, none⟩ : Addr), (.float .f32 y : Value)), ((⟨b1, off + k * 3 + 2, none⟩ : Addr), (.float .f32 z : Value)), ((⟨b2, off' + k * 3, none⟩ : Addr), (.float .f32 x' : Value)), ((⟨b2, off' + k * 3 + 1, none⟩ : Addr), (.float .f32 y' : Value)), ((⟨b2, off' + k * 3 + 2, none⟩ : Addr), (.float .f32 z' : Value))] _ := SK_of8 (by with_reducible assumption)
          have HB1 := Frame.hid (HB.out.trans (hSK.m.mono HB.out.size))
          clear hSK hST c0 c1 c2 d0 d1 d2 k2 j2
          cases hs : same3 x y z x' y' z'
          · have HS := Frame.hid hs
            go_wp2
            go_ret
            exact ⟨ret_bool (by unfold sameNt; rw [eqL_bad (xs := xs) (ys := ys) (j := k) (by have := HX.out; omega) (by rw [HSE.out]; exact HS.out)]; rfl), HB1.out⟩
          · have HS := Frame.hid hs
            go_wp2
            go_roundw
            case rel =>
              refine ⟨k + 1, by omega, by go_num, fun j hj => ?_, HB1.out⟩
              by_cases he : j = k
              · subst he; rw [HSE.out]; exact HS.out
              · exact HFF.out j (by omega)
            case measure => simp [intOf]; omega
        · have hkn : k = n := by omega
          subst hkn
          have HE := Frame.hid (eqL_all (xs := xs) (ys := ys) (by have := HX.out; have := HY.out; omega) (fun j hj => hF j (by have := HX.out; omega)))
          have HB := Frame.hid hB
          clear hF hB gl'
          go_wp2
          clear k2 j2 gl
          go_loopw [6] (fun i wr => ∃ k : Nat, k ≤ m ∧ i = .int .i64 k ∧ (∀ j, j < k → crn fs j = crn gs j) ∧ Below w.heap.size w wr) (fun i _ => m - (intOf i).toNat)
          case atStart => exact ⟨0, Nat.zero_le _, rfl, fun j hj => absurd hj (by omega), HB.out⟩
          case round =>
            obtain ⟨k', hk', rfl, hF, hB⟩ := hrel
            have k2 := (HG.out.below hB).c1
            have j2 := (HG'.out.below hB).c1
            have HFF := Frame.hid hF
            have HB2 := Frame.hid hB
            clear hF hB
            by_cases hlt : k' < m
            · obtain ⟨b1, off, rfl, hb, hc⟩ := HF.out.h (by have := HM.out; omega)
              obtain ⟨b2, off', rfl, hb', hc'⟩ := HF'.out.h (by have := HM'.out; omega)
              obtain ⟨Ak, ck, c0, hr⟩ := hc k' (by have := HM.out; omega)
              obtain ⟨Bk, dk, d0, hr'⟩ := hc' k' (by have := HM'.out; omega)
              obtain ⟨p, hp⟩ : ∃ p, p = (crn fs k').length := ⟨_, rfl⟩
              obtain ⟨q, hq⟩ : ∃ q, q = (crn gs k').length := ⟨_, rfl⟩
              rw [← hp] at c0
              rw [← hq] at d0
              have c1 := (HB2.out.cell (p := ⟨b1, off + k', none⟩) hb).trans c0
              have d1 := (HB2.out.cell (p := ⟨b2, off' + k', none⟩) hb').trans d0
              have HPQ := Frame.hid (And.intro hp hq)
              have HRA := Frame.hid (hr.below HB2.out)
              have HRB := Frame.hid (hr'.below HB2.out)
              have hpl : p ≤ 1048576 := by rw [hp]; exact HFL.out k' hlt
              have hql : q ≤ 1048576 := by rw [hq]; exact HGL.out k' hlt
              clear hc hc' c0 d0 hr hr' hp hq hb hb'
              by_cases hpq : p = q
              · subst hpq
                go_wp2
                obtain ⟨wo, hwo⟩ : ∃ wo, wo = wr := ⟨_, rfl⟩
                subst hwo
                go_loopw [9] (fun i wr => ∃ j : Nat, j ≤ p ∧ i = .int .i64 j ∧ (∀ l, l < j → (crn fs k').getD l 0 = (crn gs k').getD l 0) ∧ ∃ m, wr = wo.drewN m) (fun i _ => p - (intOf i).toNat)
                case atStart => exact ⟨0, Nat.zero_le _, rfl, fun j hj => absurd hj (by omega), 0, rfl⟩
                case round =>
                  obtain ⟨j, hj, rfl, hL, mm, rfl⟩ := hrel
                  have HL := Frame.hid hL
                  clear hL
                  by_cases hlt2 : j < p
                  · obtain ⟨b3, o3, rfl, hb3, hc3⟩ := HRA.out (by have := HPQ.out.1; omega)
                    obtain ⟨b4, o4, rfl, hb4, hc4⟩ := HRB.out (by have := HPQ.out.2; omega)
                    have e1 := hc3 j (by have := HPQ.out.1; omega)
                    have e2 := hc4 j (by have := HPQ.out.2; omega)
                    obtain ⟨x, hx⟩ : ∃ x, x = (crn fs k').getD j 0 := ⟨_, rfl⟩
                    obtain ⟨y, hy⟩ : ∃ y, y = (crn gs k').getD j 0 := ⟨_, rfl⟩
                    rw [← hx] at e1
                    rw [← hy] at e2
                    have HXY := Frame.hid (And.intro hx hy)
                    clear hc3 hc4 hx hy
                    by_cases hxy : x = y
                    · subst hxy
                      go_wp2
                      go_region
                      all_goals
                        go_wp2
                        go_roundw
                        case rel =>
                          refine ⟨j + 1, by omega, by go_num, fun l hl => ?_, _, rfl⟩
                          rcases Nat.lt_or_ge l j with h1 | h1
                          · exact HL.out l h1
                          · obtain rfl : l = j := by omega
                            rw [← HXY.out.1, ← HXY.out.2]
                        case measure => simp [intOf]; omega
                    · have hb1 : (x != y) = true := by simpa using hxy
                      have hb2 : (x == y) = false := by simpa using hxy
                      have HNE := Frame.hid hxy
                      go_wp2
                      go_region
                      all_goals
                        go_wp2
                        go_ret
                        refine ⟨ret_bool ?_, below_drewN HB2.out _⟩
                        unfold sameNt
                        rw [show decide (fs = gs) = false by rw [decide_eq_false_iff_not]; intro e; apply HNE.out; rw [HXY.out.1, HXY.out.2, e], Bool.and_false]
                  · have hjp : j = p := by omega
                    subst hjp
                    have HEQ := Frame.hid (ints_eq (xs := crn fs k') (ys := crn gs k') (by rw [← HPQ.out.1, ← HPQ.out.2]) (fun l hl => HL.out l (by rw [HPQ.out.1]; exact hl)))
                    go_wp2
                    go_roundw
                    case rel =>
                      refine ⟨k' + 1, by omega, by go_num, fun l hl => ?_, below_drewN HB2.out _⟩
                      rcases Nat.lt_or_ge l k' with h1 | h1
                      · exact HFF.out l h1
                      · obtain rfl : l = k' := by omega
                        exact HEQ.out
                    case measure => simp [intOf]; omega
              · have hb : ((p : Int) == (q : Int)) = false := by rw [beq_eq_false_iff_ne]; omega
                have hb2 : ((p : Int) != (q : Int)) = true := by rw [bne_iff_ne]; omega
                have HNE := Frame.hid hpq
                go_wp2
                go_ret
                refine ⟨ret_bool ?_, HB2.out⟩
                unfold sameNt
                rw [show decide (fs = gs) = false by rw [decide_eq_false_iff_not]; intro e; apply HNE.out; rw [HPQ.out.1, HPQ.out.2, e], Bool.and_false]
            · have hkn : k' = m := by omega
              subst hkn
              have HE2 := Frame.hid (facets_eq (xs := fs) (ys := gs) (by rw [← HM.out, ← HM'.out]) (fun j hj => HFF.out j (by rw [HM.out]; exact hj)))
              go_wp2
              go_ret
              exact ⟨ret_bool (by unfold sameNt; rw [HE.out, decide_eq_true HE2.out]; rfl), HB2.out⟩
    · have HL := Frame.hid (show decide (fs = gs) = false by rw [decide_eq_false_iff_not]; intro e; apply h2; rw [HM.out, HM'.out, e])
      have hb : ((m : Int) == (m' : Int)) = false := by rw [beq_eq_false_iff_ne]; omega
      have hb2 : ((m : Int) != (m' : Int)) = true := by rw [bne_iff_ne]; omega
      go_enter Try.func66, Try.ntmps66
      go_wp2
      go_quiet (fail)
      go_wp2
      go_ret
      exact ⟨ret_bool (by unfold sameNt; rw [HL.out, Bool.and_false]), below_drewN (Below.refl _ _) _⟩
  · have HL := Frame.hid (eqL_len (xs := xs) (ys := ys) (by have := HX.out; have := HY.out; omega))
    have hb : ((n : Int) == (n' : Int)) = false := by rw [beq_eq_false_iff_ne]; omega
    have hb2 : ((n : Int) != (n' : Int)) = true := by rw [bne_iff_ne]; omega
    go_enter Try.func66, Try.ntmps66
    go_wp2
    go_quiet (fail)
    go_wp2
    go_ret
    exact ⟨ret_bool (by unfold sameNt; rw [HL.out]; rfl), below_drewN (Below.refl _ _) _⟩

set_option maxRecDepth 100000 in
set_option maxHeartbeats 2000000 in
theorem specSameNet_calls (A B A' B' : Option Addr) (xs ys : List (Nat × Nat × Nat)) (fs gs : List (List Int)) (n m n' m' c d c' d' : Nat) (hx : n = xs.length) (hy : n' = ys.length) (hn : n ≤ 1048576) (hn' : n' ≤ 1048576) (hfx : Fit xs) (hfy : Fit ys) (hm : m = fs.length) (hm' : m' = gs.length) (hml : m ≤ 1048576) (hml' : m' ≤ 1048576) (hfl : ∀ k, k < m → (crn fs k).length ≤ 1048576) (hgl : ∀ k, k < m' → (crn gs k).length ≤ 1048576) (w : World) (hA : RdS w A xs) (hB : RdF w B fs) (hA' : RdS w A' ys) (hB' : RdF w B' gs) :
    Calls Try.prog 23 #[.agg #[.slice A n c, .slice B m d], .agg #[.slice A' n' c', .slice B' m' d']] w fun e w' => e = .returned (.bool (sameNt xs ys fs gs)) ∧ Below w.heap.size w w' := by
  have hw : Below w.heap.size w ((w.alloc (.cells #[.slice A n c, .slice B m d] 43)).alloc (.cells #[.slice A' n' c', .slice B' m' d'] 43)) := by (apply bel_of; (repeat (first | apply below_dn | apply below_al)); exact below_st _)
  have hG' := Nt2.here (w.alloc (.cells #[.slice A n c, .slice B m d] 43)) (.slice A' n' c') (.slice B' m' d') 43
  have hG := (Nt2.here w (.slice A n c) (.slice B m d) 43).below ((Below.refl _ _).alloc (Nat.le_refl _) (.cells #[.slice A' n' c', .slice B' m' d'] 43))
  have e1 : (w.alloc (.cells #[.slice A n c, .slice B m d] 43)).heap.size = w.heap.size + 1 := by simp
  rw [e1] at hG'
  have HC := Frame.hid (l06Same_calls w.heap.size (w.heap.size + 1) A B A' B' xs ys fs gs n m n' m' c d c' d' hx hy hn hn' hfx hfy hm hm' hml hml' hfl hgl _ hG hG' (hA.below hw) (hB.below hw) (hA'.below hw) (hB'.below hw))
  clear hx hy hfx hfy hm hm' hfl hgl hA hB hA' hB' hw hG hG' e1
  go_enter Try.func23, Try.ntmps23
  go_wp2_with (go_at_call 66; refine HC.out.mono ?_; rintro e w' ⟨rfl, hB⟩)
  go_ret
  exact ⟨rfl, (below_ch (below_al _ (below_al _ (below_st _))) hB rfl).2⟩

end Go.Proofs.Ytnbgnaenlbphcaa
