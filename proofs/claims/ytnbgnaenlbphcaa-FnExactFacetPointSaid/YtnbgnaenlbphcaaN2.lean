/-
  Nets: facets that come in, taken over, counted, compared.
-/
import Derived.Test.YtnbgnaenlbphcaaN1
import Derived.ChangeSame
namespace Go.Proofs.Ytnbgnaenlbphcaa
open Go.RowKit Fl Go.WideShapes Go.Deep
attribute [local go_sem] kstore_f kalloc_drewN kset_drewN hstore_i hstore_s

/-- The corners of a facet. -/
def crn (fs : List (List Int)) (k : Nat) : List Int := fs.getD k []
/-- A slice of facets that reads as the list. -/
structure RdF (w : World) (A : Option Addr) (fs : List (List Int)) : Prop where
  h : 0 < fs.length → ∃ b off, A = some ⟨b, off, none⟩ ∧ b < w.heap.size ∧ ∀ k, k < fs.length → ∃ Ak ck, w.cell? ⟨b, off + k, none⟩ = some (.slice Ak (crn fs k).length ck) ∧ RdJ w Ak (crn fs k)
theorem RdF.below {w w' : World} {A : Option Addr} {fs : List (List Int)} (h : RdF w A fs) (hb : Below w.heap.size w w') : RdF w' A fs := ⟨fun h0 => by
  obtain ⟨b, off, e, hlt, hc⟩ := h.h h0
  refine ⟨b, off, e, Nat.lt_of_lt_of_le hlt hb.size, fun k hk => ?_⟩
  obtain ⟨Ak, ck, h1, h2⟩ := hc k hk
  exact ⟨Ak, ck, (hb.cell (p := ⟨b, off + k, none⟩) hlt).trans h1, h2.below hb⟩⟩
theorem RdJ.setO {w : World} {g k i : Nat} {v : Value} {xs : List Int} (h : RdJ w (some ⟨g, 0, none⟩) xs) (hne : k ≠ g) : RdJ (w.setCell ⟨k, i, none⟩ v) (some ⟨g, 0, none⟩) xs := fun h0 => by
  obtain ⟨b, off, e, hlt, hc⟩ := h h0
  injection e with e
  injection e with e1 e2
  subst e1
  refine ⟨g, off, by rw [← e2], by simpa using hlt, fun j hj => ?_⟩
  rw [World.cell?_setCell_other _ _ _ _ (fun e => by injection e with e1; exact hne e1)]
  exact hc j hj

theorem cellsFacet : Try.prog.cellsOf 156 = 1 := by kernel_rfl
theorem cellsI64 : Try.prog.cellsOf 2 = 1 := by kernel_rfl
theorem cellsLI : Try.prog.cellsOf 92 = 1 := by kernel_rfl
set_option maxRecDepth 100000 in
theorem open_ints_cell {H : Type} {enc : TypeId × Value → H} {w : World} {base fuel : Nat} {spare : Nat → Bool} {held : Bool} {v : Value} {x : DataW H × List MemPlace}
    (hf : DataW.trod enc Try.prog w base spare held fuel 92 [v] = some x) (hsp : ∀ b, spare b = true) :
    ∃ A xs c, v = .slice A xs.length c ∧ xs.length ≤ maxLen ∧ RdJ w A xs := by
  rcases open_slice1 Try.underlying92 cellsI64 hf with ⟨hcs, _⟩ | ⟨a', len', cap', m, n, V, D, Pl, hcs, _, hl, hm, hmm, _, hx⟩
  · simp at hcs
    subst hcs
    exact ⟨none, [], 0, rfl, Nat.zero_le _, fun h0 => absurd h0 (by simp)⟩
  · simp at hcs
    subst hcs
    rw [hsp, if_pos rfl] at hmm
    subst hmm
    have hb : ∀ i, i < m → V i = .int .i64 (numJ (V i)) := fun i hi => by
      obtain ⟨z, h1, _, hw⟩ := DataW.trod_int Try.underlying2 (hx i hi).2
      have h1 : V i = .int .i64 z := by simpa using h1
      rw [h1]
      rfl
    refine ⟨some a', (List.range len').map (fun i => numJ (V i)), m, by simp, by simp; omega, ?_⟩
    intro h0
    simp at h0
    obtain ⟨b, off, spot⟩ := a'
    have c0 := (hx 0 (by omega)).1
    have hspot : spot = none := by simpa [Addr.add] using World.cell?_spot c0
    subst hspot
    refine ⟨b, off, rfl, ?_, fun j hj => ?_⟩
    · have := World.block_lt_of_cell? w _ c0
      simpa [add_plain] using this
    · simp at hj
      have cj := (hx j (by omega)).1
      rw [add_plain, hb j (by omega)] at cj
      rw [cj]
      simp [List.getD, hj]
set_option maxRecDepth 100000 in
theorem open_facets_cell {H : Type} {enc : TypeId × Value → H} {w : World} {base fuel : Nat} {spare : Nat → Bool} {held : Bool} {v : Value} {x : DataW H × List MemPlace}
    (hf : DataW.trod enc Try.prog w base spare held fuel 36 [v] = some x) (hsp : ∀ b, spare b = true) :
    ∃ A fs c, v = .slice A fs.length c ∧ fs.length ≤ maxLen ∧ RdF w A fs ∧ ∀ k, (crn fs k).length ≤ maxLen := by
  rcases open_slice1 Try.underlying36 cellsFacet hf with ⟨hcs, _⟩ | ⟨a', len', cap', m, n, V, D, Pl, hcs, _, hl, hm, hmm, _, hx⟩
  · simp at hcs
    subst hcs
    exact ⟨none, [], 0, rfl, Nat.zero_le _, ⟨fun h0 => absurd h0 (by simp)⟩, fun k => by simp [crn]⟩
  · simp at hcs
    subst hcs
    rw [hsp, if_pos rfl] at hmm
    subst hmm
    have each : ∀ i, i < m → ∃ q : Option Addr × List Int × Nat, V i = .slice q.1 q.2.1.length q.2.2 ∧ q.2.1.length ≤ maxLen ∧ RdJ w q.1 q.2.1 := by
      intro i hi
      obtain ⟨y0, k, _, _, t0⟩ := Go.ChangeShapes.trod_struct1 Try.underlying156 (hx i hi).2
      simp [cellsLI] at t0
      obtain ⟨A, xs, c, h1, h2, h3⟩ := open_ints_cell t0 hsp
      exact ⟨(A, xs, c), h1, h2, h3⟩
    obtain ⟨q, hq⟩ := choose_lt each
    have hget : ∀ j, j < len' → crn ((List.range len').map fun i => (q i).2.1) j = (q j).2.1 := fun j hj => by simp [crn, List.getD_eq_getElem?_getD, hj]
    refine ⟨some a', (List.range len').map fun i => (q i).2.1, m, by simp, by simp; omega, ⟨fun h0 => ?_⟩, fun k => ?_⟩
    · simp at h0
      obtain ⟨b, off, spot⟩ := a'
      have c0 := (hx 0 (by omega)).1
      have hspot : spot = none := by simpa [Addr.add] using World.cell?_spot c0
      subst hspot
      refine ⟨b, off, rfl, ?_, fun j hj => ?_⟩
      · have := World.block_lt_of_cell? w _ c0
        simpa [add_plain] using this
      · simp at hj
        have cj := (hx j (by omega)).1
        obtain ⟨h1, _, h3⟩ := hq j (by omega)
        rw [add_plain, h1] at cj
        rw [hget j hj]
        exact ⟨_, _, cj, h3⟩
    · by_cases hk : k < len'
      · rw [hget k hk]; exact (hq k (by omega)).2.1
      · have : crn ((List.range len').map fun i => (q i).2.1) k = [] := by unfold crn; rw [List.getD_eq_getElem?_getD, List.getElem?_eq_none (by simp; omega)]; rfl
        rw [this]; simp

set_option maxRecDepth 100000 in
theorem szSpotSL_calls (A : Option Addr) (n c L : Nat) (hn : n ≤ 9223372036854775807) (hL : L ≤ 1048576) (w : World) : Calls Try.prog 47 #[.slice A n c, .int .i64 L] w fun e w' => e = .returned (.int .i64 (if L < n then -1 else ((L - n : Nat) : Int))) ∧ w = w' := by
  by_cases h : L < n
  · rw [if_pos h]
    have hw : IntKind.i64.wrap ((L : Int) - (n : Int)) = (L : Int) - (n : Int) := by rw [IntKind.wrap_i64]; omega
    have hlt : (L : Int) - (n : Int) < 0 := by omega
    go_enter Try.func47, Try.ntmps47
    go_wp2
    go_ret
    exact ⟨rfl, rfl⟩
  · rw [if_neg h]
    obtain ⟨m, hm⟩ : ∃ m, m = L - n := ⟨_, rfl⟩
    rw [← hm]
    have hw : IntKind.i64.wrap ((L : Int) - (n : Int)) = (m : Int) := by rw [IntKind.wrap_i64]; omega
    have hlt : ¬ (m : Int) < 0 := by omega
    clear hm
    go_enter Try.func47, Try.ntmps47
    go_wp2
    go_ret
    exact ⟨rfl, rfl⟩
set_option maxRecDepth 100000 in
theorem szInt64S_calls (A : Option Addr) (n c L : Nat) (hn : n ≤ 9223372036854775807) (hL : L ≤ 1048576) (w : World) : Calls Try.prog 156 #[.slice A n c, .int .i64 L] w fun e w' => e = .returned (.int .i64 (if L < n then -1 else ((L - n : Nat) : Int))) ∧ w = w' := by
  by_cases h : L < n
  · rw [if_pos h]
    have hw : IntKind.i64.wrap ((L : Int) - (n : Int)) = (L : Int) - (n : Int) := by rw [IntKind.wrap_i64]; omega
    have hlt : (L : Int) - (n : Int) < 0 := by omega
    go_enter Try.func156, Try.ntmps156
    go_wp2
    go_ret
    exact ⟨rfl, rfl⟩
  · rw [if_neg h]
    obtain ⟨m, hm⟩ : ∃ m, m = L - n := ⟨_, rfl⟩
    rw [← hm]
    have hw : IntKind.i64.wrap ((L : Int) - (n : Int)) = (m : Int) := by rw [IntKind.wrap_i64]; omega
    have hlt : ¬ (m : Int) < 0 := by omega
    clear hm
    go_enter Try.func156, Try.ntmps156
    go_wp2
    go_ret
    exact ⟨rfl, rfl⟩
set_option maxRecDepth 100000 in
set_option maxHeartbeats 1000000 in
theorem szFacet_calls (A : Option Addr) (n c L : Nat) (hn : n ≤ 9223372036854775807) (hL : L ≤ 1048576) (w : World) : Calls Try.prog 122 #[.agg #[.slice A n c], .int .i64 L] w fun e w' => e = .returned (.int .i64 (if L < n then -1 else ((L - n : Nat) : Int))) ∧ Below w.heap.size w w' := by
  by_cases h : L < n
  · rw [if_pos h]
    go_enter Try.func122, Try.ntmps122
    go_wp2_with (go_at_call 156; refine (szInt64S_calls _ _ _ _ hn hL _).mono ?_; rintro e w' ⟨rfl, rfl⟩; rw [if_pos h])
    go_ret
    exact ⟨rfl, by (apply bel_of; (repeat (first | apply below_dn | apply below_al)); exact below_st _)⟩
  · rw [if_neg h]
    obtain ⟨m, hm⟩ : ∃ m, m = L - n := ⟨_, rfl⟩
    have hlt : ¬ (m : Int) < 0 := by omega
    rw [← hm]
    have HM := Frame.hid hm
    clear hm
    go_enter Try.func122, Try.ntmps122
    go_wp2_with (go_at_call 156; refine (szInt64S_calls _ _ _ _ hn hL _).mono ?_; rintro e w' ⟨rfl, rfl⟩; rw [if_neg h, ← HM.out])
    go_ret
    exact ⟨rfl, by (apply bel_of; (repeat (first | apply below_dn | apply below_al)); exact below_st _)⟩

set_option maxRecDepth 100000 in
set_option maxHeartbeats 4000000 in
theorem szFacetS_calls (A : Option Addr) (fs : List (List Int)) (m c L : Nat) (hm : m = fs.length) (hml : m ≤ 9223372036854775807) (hfl : ∀ k, (crn fs k).length ≤ maxLen) (hL : L ≤ 1048576) (w : World) (hr : RdF w A fs) :
    Calls Try.prog 65 #[.slice A m c, .int .i64 L] w fun e w' => (e = .returned (.int .i64 (-1)) ∨ ∃ z : Nat, e = .returned (.int .i64 z) ∧ z ≤ L ∧ m ≤ L ∧ ∀ k, k < m → (crn fs k).length ≤ 1048576) ∧ Below w.heap.size w w' := by
  have HM := Frame.hid hm
  have HR := Frame.hid hr
  have HFL := Frame.hid hfl
  clear hm hr hfl
  by_cases h : L < m
  · have hw : IntKind.i64.wrap ((L : Int) - (m : Int)) = (L : Int) - (m : Int) := by rw [IntKind.wrap_i64]; omega
    have hlt : (L : Int) - (m : Int) < 0 := by omega
    go_enter Try.func65, Try.ntmps65
    go_wp2
    go_ret
    exact ⟨.inl rfl, Below.refl _ _⟩
  · obtain ⟨q, hq⟩ : ∃ q, q = L - m := ⟨_, rfl⟩
    have hw : IntKind.i64.wrap ((L : Int) - (m : Int)) = (q : Int) := by rw [IntKind.wrap_i64]; omega
    have hlt : ¬ (q : Int) < 0 := by omega
    have hqL : q ≤ L := by omega
    clear hq
    go_enter Try.func65, Try.ntmps65
    go_wp2
    go_loopw [1, 5] (fun zv iv wr => ∃ (z i : Nat), z ≤ L ∧ i ≤ m ∧ zv = .int .i64 (z : Nat) ∧ iv = .int .i64 (i : Nat) ∧ (∀ k, k < i → (crn fs k).length ≤ 1048576) ∧ Below w.heap.size w wr) (fun _ iv _ => m - (intOf iv).toNat)
    case atStart => exact ⟨q, 0, hqL, Nat.zero_le _, rfl, rfl, fun k hk => absurd hk (by omega), Below.refl _ _⟩
    case round =>
      obtain ⟨z, i, hz, hi, rfl, rfl, hall, hB⟩ := hrel
      have HALL := Frame.hid hall
      have HB := Frame.hid hB
      clear hall hB
      by_cases hlt2 : i < m
      · obtain ⟨b, off, rfl, hb, hc⟩ := HR.out.h (by have := HM.out; omega)
        obtain ⟨Ak, ck, c0, -⟩ := hc i (by have := HM.out; omega)
        have c1 := (HB.out.cell (p := ⟨b, off + i, none⟩) hb).trans c0
        obtain ⟨n, hn⟩ : ∃ n, n = (crn fs i).length := ⟨_, rfl⟩
        rw [← hn] at c1
        have hnl : n ≤ maxLen := by rw [hn]; exact HFL.out i
        have HN := Frame.hid hn
        clear hc c0 hn
        by_cases hzn : z < n
        · go_wp2_with (go_at_call 122; refine (szFacet_calls _ _ _ _ (by unfold maxLen at hnl; omega) (by omega) _).mono ?_; rintro e w' ⟨rfl, hB2⟩; rw [if_pos hzn]; have HB2 := Frame.hid (HB.out.trans (hB2.mono HB.out.size)); clear hB2)
          go_ret
          exact ⟨.inl rfl, HB2.out⟩
        · obtain ⟨y, hy⟩ : ∃ y, y = z - n := ⟨_, rfl⟩
          have hy0 : ¬ (y : Int) < 0 := by omega
          have HY := Frame.hid hy
          clear hy
          go_wp2_with (go_at_call 122; refine (szFacet_calls _ _ _ _ (by unfold maxLen at hnl; omega) (by omega) _).mono ?_; rintro e w' ⟨rfl, hB2⟩; rw [if_neg hzn, ← HY.out]; have HB2 := Frame.hid (HB.out.trans (hB2.mono HB.out.size)); clear hB2)
          go_roundw
          case rel =>
            refine ⟨y, i + 1, by have := HY.out; omega, by omega, rfl, by go_num, fun k hk => ?_, HB2.out⟩
            rcases Nat.lt_or_ge k i with h1 | h1
            · exact HALL.out k h1
            · obtain rfl : k = i := by omega
              rw [← HN.out]; omega
          case measure => simp [intOf]; omega
      · obtain rfl : i = m := by omega
        go_wp2
        go_ret
        exact ⟨.inr ⟨z, rfl, hz, by omega, HALL.out⟩, HB.out⟩

end Go.Proofs.Ytnbgnaenlbphcaa
