/-
  Slices of spots of the call's own: marked, and what is held.
-/
import Derived.Test.YtnbgnaenlbphcaaKh
namespace Go.Proofs.Ytnbgnaenlbphcaa
open Go.RowKit Fl Go.WideShapes Go.Deep
attribute [local go_sem] kstore_f kalloc_drewN kset_drewN hstore_i hstore_s

/-- A slice of n spots, nil or a block of the call's own (not below B). -/
structure OwS (w : World) (B : Nat) (v : Value) (n : Nat) : Prop where
  h : (v = .slice none 0 0 ∧ n = 0) ∨ ∃ g cap cs, v = .slice (some ⟨g, 0, none⟩) n cap ∧ B ≤ g ∧ w.heap[g]? = some (.cells cs 57 (0, 0)) ∧ n * 3 ≤ cs.size
theorem OwS.below {w w' : World} {B n : Nat} {v : Value} (h : OwS w B v n) (hB : Below w.heap.size w w') : OwS w' B v n := ⟨by
  rcases h.h with h1 | ⟨g, cap, cs, rfl, hg, hh, hs⟩
  · exact .inl h1
  · exact .inr ⟨g, cap, cs, rfl, hg, by rw [hB.block g (Array.getElem?_eq_some_iff.1 hh).1]; exact hh, hs⟩⟩
theorem OwS.mono {w : World} {B B' n : Nat} {v : Value} (h : OwS w B v n) (hB : B' ≤ B) : OwS w B' v n := ⟨by
  rcases h.h with h1 | ⟨g, cap, cs, rfl, hg, hh⟩
  · exact .inl h1
  · exact .inr ⟨g, cap, cs, rfl, by omega, hh⟩⟩
theorem OwS.nilv (w : World) (B : Nat) : OwS w B (.slice none 0 0) 0 := ⟨.inl ⟨rfl, rfl⟩⟩
theorem OwS.of {w : World} {B n : Nat} {v : Value} {xs : List Value} (h : w.ownsRow B 57 3 v n xs) : OwS w B v n := ⟨by
  rcases h.2 with h1 | ⟨g, cap, cur, rfl, hg, hh, hn, hc, hs, _⟩
  · exact .inl h1
  · exact .inr ⟨g, cap, cur, rfl, hg, hh, by rw [hs]; omega⟩⟩

def mkS (p : Nat) : Nat := floatOfInt .f32 (1 + (p : Int))
theorem mkS_num : ∀ p : Fin 1800, isNan .f32 (mkS p.val) = false := by decide +kernel
theorem mkS_self {p : Nat} (h : p < 1800) : (FloatKind.f32.format.order (mkS p) (mkS p) != some Ordering.eq) = false := by
  rw [neq_self]
  exact mkS_num ⟨p, h⟩
/-- It is marked, up to the k-th spot. -/
structure MkS (w : World) (B g n k : Nat) : Prop where
  r : ∃ cs : Array Value, w.heap[g]? = some (.cells cs 57 (0, 0)) ∧ n * 3 ≤ cs.size ∧ ∀ p, p < k * 3 → cs[p]? = some (.float .f32 (mkS p))
  b : B ≤ g
theorem MkS.below {w w' : World} {B g n k : Nat} (h : MkS w B g n k) (hB : Below w.heap.size w w') : MkS w' B g n k := ⟨by
  obtain ⟨cs, h1, h2, h3⟩ := h.r
  exact ⟨cs, by rw [hB.block g (Array.getElem?_eq_some_iff.1 h1).1]; exact h1, h2, h3⟩, h.b⟩
theorem MkS.step {w : World} {B g n k : Nat} (h : MkS w B g n k) (hk : k < n) :
    MkS (((w.setCell ⟨g, k * 3, none⟩ (.float .f32 (mkS (k * 3)))).setCell ⟨g, k * 3 + 1, none⟩ (.float .f32 (mkS (k * 3 + 1)))).setCell ⟨g, k * 3 + 2, none⟩ (.float .f32 (mkS (k * 3 + 2)))) B g n (k + 1) := ⟨by
  obtain ⟨cs, h1, h2, h3⟩ := h.r
  refine ⟨_, heap_setS _ (heap_setS _ (heap_setS _ h1)), by simpa using h2, fun p hp => ?_⟩
  rcases (by omega : p < k * 3 ∨ p = k * 3 ∨ p = k * 3 + 1 ∨ p = k * 3 + 2) with h | rfl | rfl | rfl
  · rw [Array.getElem?_setIfInBounds_ne (by omega), Array.getElem?_setIfInBounds_ne (by omega), Array.getElem?_setIfInBounds_ne (by omega)]
    exact h3 p h
  · rw [Array.getElem?_setIfInBounds_ne (by omega), Array.getElem?_setIfInBounds_ne (by omega), Array.getElem?_setIfInBounds_self_of_lt (by omega)]
  · rw [Array.getElem?_setIfInBounds_ne (by omega), Array.getElem?_setIfInBounds_self_of_lt (by simp; omega)]
  · rw [Array.getElem?_setIfInBounds_self_of_lt (by simp; omega)], h.b⟩
theorem MkS.cells {w : World} {B g n k : Nat} (h : MkS w B g n k) (j : Nat) (hj : j < n * 3) : ∃ u, w.cell? ⟨g, j, none⟩ = some u := by
  obtain ⟨cs, h1, h2, h3⟩ := h.r
  exact ⟨cs[j]'(by omega), by rw [cell_of_row w g _ cs _ (0, 0) h1, Array.getElem?_eq_getElem]⟩
theorem MkS.froz {w : World} {B g n k : Nat} (h : MkS w B g n k) (i : Nat) : w.frozen? ⟨g, i, none⟩ = false := by
  obtain ⟨cs, h1, _⟩ := h.r
  exact frozen_rowS h1
theorem MkS.mark {w : World} {B g n k p : Nat} (h : MkS w B g n k) (hp : p < k * 3) : w.cell? ⟨g, p, none⟩ = some (.float .f32 (mkS p)) := by
  obtain ⟨cs, h1, h2, h3⟩ := h.r
  rw [cell_of_row w g _ cs _ (0, 0) h1]
  exact h3 p hp
/-- The slice is marked. -/
structure Marked (w : World) (B : Nat) (v : Value) (n : Nat) : Prop where
  h : (v = .slice none 0 0 ∧ n = 0) ∨ ∃ g cap, v = .slice (some ⟨g, 0, none⟩) n cap ∧ MkS w B g n n
theorem Marked.below {w w' : World} {B n : Nat} {v : Value} (h : Marked w B v n) (hB : Below w.heap.size w w') : Marked w' B v n := ⟨by
  rcases h.h with h1 | ⟨g, cap, rfl, hg⟩
  · exact .inl h1
  · exact .inr ⟨g, cap, rfl, hg.below hB⟩⟩

set_option maxRecDepth 100000 in
set_option maxHeartbeats 2000000 in
theorem markSpotS_some (B g n cap : Nat) (hn : n ≤ 600) (w : World) (hM : MkS w B g n 0) :
    Calls Try.prog 54 #[.slice (some ⟨g, 0, none⟩) n cap, .int .i64 1] w fun e w' => e = .returned (.int .i64 (1 + 3 * (n : Int))) ∧ MkS w' B g n n ∧ Below B w w' ∧ ∀ k, k ≠ g → w'.heap[k]? = w.heap[k]? := by
  have HM := Frame.hid hM
  clear hM
  go_enter Try.func54, Try.ntmps54
  go_wp2
  go_loopw [1, 5] (fun kv i wr => ∃ q : Nat, q ≤ n ∧ kv = .int .i64 (1 + 3 * (q : Int)) ∧ i = .int .i64 q ∧ MkS wr B g n q ∧ Below B w wr ∧ ∀ k, k ≠ g → wr.heap[k]? = w.heap[k]?) (fun _ i _ => n - (intOf i).toNat)
  case atStart => exact ⟨0, Nat.zero_le _, rfl, rfl, HM.out, Below.refl _ _, fun _ _ => rfl⟩
  case round =>
    obtain ⟨q, hq, rfl, rfl, hM, hB, hO⟩ := hrel
    by_cases hlt : q < n
    · obtain ⟨u0, c0⟩ := hM.cells (q * 3) (by omega)
      obtain ⟨u1, c1⟩ := hM.cells (q * 3 + 1) (by omega)
      obtain ⟨u2, c2⟩ := hM.cells (q * 3 + 2) (by omega)
      have fz := hM.froz
      have HM := Frame.hid hM
      have HB := Frame.hid hB
      have HO := Frame.hid hO
      clear hM hB hO
      go_wp2
      go_roundw
      case rel =>
        have e0 : floatOfInt .f32 (1 + 3 * (q : Int)) = mkS (q * 3) := by unfold mkS; congr 1; push_cast; omega
        have e1 : floatOfInt .f32 (1 + 3 * (q : Int) + 1) = mkS (q * 3 + 1) := by unfold mkS; congr 1; push_cast; omega
        have e2 : floatOfInt .f32 (1 + 3 * (q : Int) + 1 + 1) = mkS (q * 3 + 2) := by unfold mkS; congr 1; push_cast; omega
        rw [e0, e1, e2]
        refine ⟨q + 1, by omega, ?_, by go_num, HM.out.step hlt, ((HB.out.setCell (p := ⟨g, _, none⟩) HM.out.b _).setCell (p := ⟨g, _, none⟩) HM.out.b _).setCell (p := ⟨g, _, none⟩) HM.out.b _, fun k hk => ?_⟩
        · have : 1 + 3 * (q : Int) + 1 + 1 + 1 = 1 + 3 * ((q + 1 : Nat) : Int) := by push_cast; omega
          rw [this]
        · rw [Below.heap_setCell _ _ _ _ hk, Below.heap_setCell _ _ _ _ hk, Below.heap_setCell _ _ _ _ hk]
          exact HO.out k hk
      case measure => simp [intOf]; omega
    · have hqn : q = n := by omega
      subst hqn
      have HM := Frame.hid hM
      have HB := Frame.hid hB
      have HO := Frame.hid hO
      clear hM hB hO
      go_wp2
      go_ret
      exact ⟨rfl, HM.out, HB.out, HO.out⟩

set_option maxRecDepth 100000 in
set_option maxHeartbeats 2000000 in
theorem heldSpotS_some (B g n cap : Nat) (hn : n ≤ 598) (w : World) (hM : MkS w B g n n) :
    Calls Try.prog 55 #[.slice (some ⟨g, 0, none⟩) n cap, .int .i64 1] w fun e w' => e = .returned (.int .i64 (1 + 3 * (n : Int))) ∧ w' = w := by
  have HM := Frame.hid hM
  clear hM
  go_enter Try.func55, Try.ntmps55
  go_wp2
  go_loopw [1, 5] (fun kv i wr => ∃ q : Nat, q ≤ n ∧ kv = .int .i64 (1 + 3 * (q : Int)) ∧ i = .int .i64 q ∧ wr = w) (fun _ i _ => n - (intOf i).toNat)
  case atStart => exact ⟨0, Nat.zero_le _, rfl, rfl, rfl⟩
  case round =>
    obtain ⟨q, hq, rfl, rfl, rfl⟩ := hrel
    by_cases hlt : q < n
    · have c0 := HM.out.mark (p := q * 3) (by omega)
      have c1 := HM.out.mark (p := q * 3 + 1) (by omega)
      have c2 := HM.out.mark (p := q * 3 + 2) (by omega)
      have e0 : floatOfInt .f32 (1 + 3 * (q : Int)) = mkS (q * 3) := by unfold mkS; congr 1; push_cast; omega
      have e1 : floatOfInt .f32 (1 + 3 * (q : Int) + 1) = mkS (q * 3 + 1) := by unfold mkS; congr 1; push_cast; omega
      have e2 : floatOfInt .f32 (1 + 3 * (q : Int) + 1 + 1) = mkS (q * 3 + 2) := by unfold mkS; congr 1; push_cast; omega
      have o0 := mkS_self (p := q * 3) (by omega)
      have o1 := mkS_self (p := q * 3 + 1) (by omega)
      have o2 := mkS_self (p := q * 3 + 2) (by omega)
      go_wp2
      go_roundw
      case rel =>
        refine ⟨q + 1, by omega, ?_, by go_num, by first | rfl | trivial⟩
        have : 1 + 3 * (q : Int) + 1 + 1 + 1 = 1 + 3 * ((q + 1 : Nat) : Int) := by push_cast; omega
        rw [this]
      case measure => simp [intOf]; omega
    · have hqn : q = n := by omega
      subst hqn
      go_wp2
      go_ret
      first | exact ⟨rfl, trivial⟩ | exact ⟨rfl, rfl⟩

set_option maxRecDepth 100000 in
theorem markSpotS_nil (w : World) : Calls Try.prog 54 #[.slice none 0 0, .int .i64 1] w fun e w' => e = .returned (.int .i64 1) ∧ w' = w := by
  go_enter Try.func54, Try.ntmps54
  go_wp2
  go_loopw [1, 5] (fun k i wr => k = .int .i64 1 ∧ i = .int .i64 0 ∧ wr = w) (fun _ _ _ => 0)
  case atStart => exact ⟨rfl, rfl, rfl⟩
  case round =>
    obtain ⟨rfl, rfl, rfl⟩ := hrel
    go_wp2
    go_ret
    first | exact ⟨rfl, trivial⟩ | exact ⟨rfl, rfl⟩

set_option maxRecDepth 100000 in
theorem heldSpotS_nil (w : World) : Calls Try.prog 55 #[.slice none 0 0, .int .i64 1] w fun e w' => e = .returned (.int .i64 1) ∧ w' = w := by
  go_enter Try.func55, Try.ntmps55
  go_wp2
  go_loopw [1, 5] (fun k i wr => k = .int .i64 1 ∧ i = .int .i64 0 ∧ wr = w) (fun _ _ _ => 0)
  case atStart => exact ⟨rfl, rfl, rfl⟩
  case round =>
    obtain ⟨rfl, rfl, rfl⟩ := hrel
    go_wp2
    go_ret
    first | exact ⟨rfl, trivial⟩ | exact ⟨rfl, rfl⟩

theorem markSpotS_calls (B n : Nat) (v : Value) (hn : n ≤ 598) (w : World) (hO : OwS w B v n) :
    Calls Try.prog 54 #[v, .int .i64 1] w fun e w' => e = .returned (.int .i64 (1 + 3 * (n : Int))) ∧ Marked w' B v n ∧ Below B w w' ∧ ∀ k, v.ownBlock ≠ some k → w'.heap[k]? = w.heap[k]? := by
  rcases hO.h with ⟨rfl, rfl⟩ | ⟨g, cap, cs, rfl, hg, hh, hs⟩
  · refine (markSpotS_nil w).mono ?_
    rintro e w' ⟨rfl, rfl⟩
    exact ⟨rfl, ⟨.inl ⟨rfl, rfl⟩⟩, Below.refl _ _, fun _ _ => rfl⟩
  · refine (markSpotS_some B g n cap (by omega) w ⟨⟨cs, hh, hs, fun p hp => absurd hp (by omega)⟩, hg⟩).mono ?_
    rintro e w' ⟨rfl, hM, hB, hF⟩
    exact ⟨rfl, ⟨.inr ⟨g, cap, rfl, hM⟩⟩, hB, fun k hk => hF k (fun e => hk (by rw [e]; rfl))⟩
theorem heldSpotS_calls (B n : Nat) (v : Value) (hn : n ≤ 598) (w : World) (hM : Marked w B v n) :
    Calls Try.prog 55 #[v, .int .i64 1] w fun e w' => e = .returned (.int .i64 (1 + 3 * (n : Int))) ∧ w' = w := by
  rcases hM.h with ⟨rfl, rfl⟩ | ⟨g, cap, rfl, hg⟩
  · exact heldSpotS_nil w
  · exact heldSpotS_some B g n cap hn w hg

theorem OwS.form {w : World} {B n : Nat} {v : Value} (h : OwS w B v n) : ∃ A c, v = .slice A n c := by
  rcases h.h with ⟨rfl, rfl⟩ | ⟨g, cap, cs, rfl, _⟩
  · exact ⟨_, _, rfl⟩
  · exact ⟨_, _, rfl⟩
theorem Marked.form {w : World} {B n : Nat} {v : Value} (h : Marked w B v n) : ∃ A c, v = .slice A n c := by
  rcases h.h with ⟨rfl, rfl⟩ | ⟨g, cap, rfl, _⟩
  · exact ⟨_, _, rfl⟩
  · exact ⟨_, _, rfl⟩

set_option maxRecDepth 100000 in
set_option maxHeartbeats 2000000 in
theorem markSheet_calls (B n : Nat) (a b : Int) (v : Value) (hn : n ≤ 598) (w : World) (hO : OwS w B v n) (hB : B ≤ w.heap.size) :
    Calls Try.prog 20 #[.agg #[.int .i64 a, .int .i64 b, v], .int .i64 1] w fun e w' => e = .returned (.int .i64 (1 + 3 * (n : Int))) ∧ Marked w' B v n ∧ Below B w w' ∧ ∀ k, k < w.heap.size → v.ownBlock ≠ some k → w'.heap[k]? = w.heap[k]? := by
  have HC := Frame.hid (markSpotS_calls B n v hn _ (hO.below ((Below.refl _ _).alloc (Nat.le_refl _) (.cells #[.int .i64 a, .int .i64 b, v] 29))))
  obtain ⟨A, c, rfl⟩ := hO.form
  clear hO
  go_enter Try.func20, Try.ntmps20
  go_wp2_with (go_at_call 54; refine HC.out.mono ?_; rintro e w' ⟨rfl, hM, hB', hF⟩)
  go_ret
  exact ⟨rfl, hM, ((Below.refl _ _).alloc hB _).trans hB', fun k hk hv => (hF k hv).trans (Below.heap_alloc _ _ _ hk)⟩

set_option maxRecDepth 100000 in
set_option maxHeartbeats 2000000 in
theorem heldSheet_calls (B n : Nat) (a b : Int) (v : Value) (hn : n ≤ 598) (w : World) (hM : Marked w B v n) :
    Calls Try.prog 21 #[.agg #[.int .i64 a, .int .i64 b, v], .int .i64 1] w fun e w' => e = .returned (.int .i64 (1 + 3 * (n : Int))) ∧ Below w.heap.size w w' := by
  have HC := Frame.hid (heldSpotS_calls B n v hn _ (hM.below ((Below.refl _ _).alloc (Nat.le_refl _) (.cells #[.int .i64 a, .int .i64 b, v] 29))))
  obtain ⟨A, c, rfl⟩ := hM.form
  have hk : ¬ (1 + 3 * (n : Int) < 0) := by omega
  clear hM
  go_enter Try.func21, Try.ntmps21
  go_wp2_with (go_at_call 55; refine HC.out.mono ?_; rintro e w' ⟨rfl, rfl⟩)
  go_ret
  exact ⟨rfl, by (apply bel_of; (repeat (first | apply below_dn | apply below_al)); exact below_st _)⟩

end Go.Proofs.Ytnbgnaenlbphcaa
