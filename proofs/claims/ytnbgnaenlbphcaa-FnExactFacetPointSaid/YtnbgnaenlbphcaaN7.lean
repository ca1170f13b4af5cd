/-
  Nets are valid: what both sides find; the specification's facets and sides.
-/
import Derived.Test.YtnbgnaenlbphcaaN5
import Derived.Test.YtnbgnaenlbphcaaKi
namespace Go.Proofs.Ytnbgnaenlbphcaa
open Go.RowKit Fl Go.WideShapes Go.Deep
attribute [local go_sem] kstore_f kalloc_drewN kset_drewN hstore_i hstore_s

/-- A facet among n spots. -/
def FacV (n : Nat) (f : List Int) : Prop := 3 ≤ f.length ∧ f.length ≤ 8 ∧ (∀ i, i < f.length → 0 ≤ f.getD i 0 ∧ f.getD i 0 < (n : Int)) ∧ ∀ i, i < f.length → ∀ k, k < i → f.getD k 0 ≠ f.getD i 0
/-- The sides of a facet. -/
def sdF (f : List Int) : List (Int × Int) := (List.range f.length).map fun i => (f.getD i 0, f.getD ((i + 1) % f.length) 0)
theorem sdF_len (f : List Int) : (sdF f).length = f.length := by simp [sdF]
theorem sdF_at (f : List Int) (i : Nat) (h : i < f.length) : (sdF f)[i]? = some (f.getD i 0, f.getD ((i + 1) % f.length) 0) := by simp [sdF, h]
/-- The sides of facets. -/
def sds (fs : List (List Int)) : List (Int × Int) := fs.flatMap sdF
/-- A net is valid. -/
def NetV (xs : List (Nat × Nat × Nat)) (fs : List (List Int)) : Prop :=
  (3 ≤ xs.length ∧ xs.length ≤ 256) ∧ (1 ≤ fs.length ∧ fs.length ≤ 256) ∧ finS xs = true ∧ (∀ k, k < fs.length → FacV xs.length (crn fs k)) ∧ (sds fs).Nodup ∧ ∀ i : Nat, i < xs.length → ∃ s ∈ sds fs, s.1 = (i : Int)

/-- A test's answer. -/
def BoolIs (P : Prop) (e : Ending) : Prop := ∃ r, e = .returned (.bool r) ∧ (r = true ↔ P)
theorem BoolIs.yes {P : Prop} (h : P) : BoolIs P (.returned (.bool true)) := ⟨true, rfl, fun _ => h, fun _ => rfl⟩
theorem BoolIs.no {P : Prop} (h : ¬ P) : BoolIs P (.returned (.bool false)) := ⟨false, rfl, fun e => (by cases e), fun g => absurd g h⟩

set_option maxRecDepth 100000 in
theorem l00InN_calls (a lo hi : Int) (w : World) : Calls Try.prog 83 #[.int .i64 a, .int .i64 lo, .int .i64 hi] w fun e w' => e = .returned (.bool (decide (lo ≤ a) && decide (a ≤ hi))) ∧ w = w' := by
  by_cases h : lo ≤ a
  · go_enter Try.func83, Try.ntmps83
    go_wp2
    go_ret
    exact ⟨ret_bool (by simp [h]), rfl⟩
  · go_enter Try.func83, Try.ntmps83
    go_wp2
    go_ret
    exact ⟨ret_bool (by simp; omega), rfl⟩

set_option maxRecDepth 100000 in
set_option maxHeartbeats 4000000 in
theorem l06Facet_calls (b o : Nat) (A : Option Addr) (f : List Int) (p c n : Nat) (hp : p = f.length) (hn : n ≤ 1048576) (w : World) (hc : w.cell? ⟨b, o, none⟩ = some (.slice A p c)) (hb : b < w.heap.size) (hr : RdJ w A f) :
    Calls Try.prog 127 #[.pointer (some ⟨b, o, none⟩), .int .i64 n] w fun e w' => BoolIs (FacV n f) e ∧ Below w.heap.size w w' := by
  have HP := Frame.hid hp
  have HR := Frame.hid hr
  clear hp hr
  by_cases h1 : p < 3
  · have HN := Frame.hid (show ¬ FacV n f by intro h; have := h.1; have := HP.out; omega)
    go_enter Try.func127, Try.ntmps127
    go_wp2
    go_ret
    exact ⟨BoolIs.no HN.out, Below.refl _ _⟩
  · by_cases h2 : 8 < p
    · have HN := Frame.hid (show ¬ FacV n f by intro h; have := h.2.1; have := HP.out; omega)
      go_enter Try.func127, Try.ntmps127
      go_wp2
      go_ret
      exact ⟨BoolIs.no HN.out, Below.refl _ _⟩
    · have wn : IntKind.i64.wrap ((n : Int) - 1) = (n : Int) - 1 := by rw [IntKind.wrap_i64]; omega
      go_enter Try.func127, Try.ntmps127
      go_wp2
      go_loopw [5] (fun iv wr => ∃ i : Nat, i ≤ p ∧ iv = .int .i64 i ∧ ((∀ j, j < i → 0 ≤ f.getD j 0 ∧ f.getD j 0 < (n : Int)) ∧ ∀ j, j < i → ∀ k, k < j → f.getD k 0 ≠ f.getD j 0) ∧ Below w.heap.size w wr) (fun iv _ => p - (intOf iv).toNat)
      case atStart => exact ⟨0, Nat.zero_le _, rfl, ⟨fun j hj => absurd hj (by omega), fun j hj => absurd hj (by omega)⟩, Below.refl _ _⟩
      case round =>
        obtain ⟨i, hi, rfl, hF, hB⟩ := hrel
        have HF := Frame.hid hF
        have HB := Frame.hid hB
        have c0 := (hB.cell (p := ⟨b, o, none⟩) hb).trans hc
        clear hF hB
        by_cases hlt : i < p
        · obtain ⟨b1, o1, rfl, hb1, hc1⟩ := HR.out (by have := HP.out; omega)
          have c1 := (HB.out.cell (p := ⟨b1, o1 + i, none⟩) hb1).trans (hc1 i (by have := HP.out; omega))
          have HC1 := Frame.hid hc1
          obtain ⟨x, hx⟩ : ∃ x, x = f.getD i 0 := ⟨_, rfl⟩
          rw [← hx] at c1
          have HX := Frame.hid hx
          clear hc1 hx
          cases hin : (decide ((0 : Int) ≤ x) && decide (x ≤ (n : Int) - 1))
          · have HIN := Frame.hid hin
            go_wp2_with (go_at_call 83; refine (l00InN_calls _ _ _ _).mono ?_; rintro e w' ⟨rfl, rfl⟩; rw [HIN.out])
            go_ret
            refine ⟨BoolIs.no fun h => ?_, HB.out⟩
            have h3 := h.2.2.1 i (by rw [← HP.out]; exact hlt)
            rw [← HX.out] at h3
            have h4 := HIN.out
            simp only [Bool.and_eq_false_iff, decide_eq_false_iff_not] at h4
            omega
          · have HIN := Frame.hid hin
            go_wp2_with (go_at_call 83; refine (l00InN_calls _ _ _ _).mono ?_; rintro e w' ⟨rfl, rfl⟩; rw [HIN.out])
            clear c0 c1
            go_loopw [6] (fun kv wr => ∃ k : Nat, k ≤ i ∧ kv = .int .i64 k ∧ (∀ l, l < k → f.getD l 0 ≠ x) ∧ Below w.heap.size w wr) (fun kv _ => i - (intOf kv).toNat)
            case atStart => exact ⟨0, Nat.zero_le _, rfl, fun l hl => absurd hl (by omega), HB.out⟩
            case round =>
              obtain ⟨k, hk, rfl, hG, hB⟩ := hrel
              have HG := Frame.hid hG
              have HB2 := Frame.hid hB
              have c0 := (hB.cell (p := ⟨b, o, none⟩) hb).trans hc
              have c1 := (hB.cell (p := ⟨b1, o1 + i, none⟩) hb1).trans (HC1.out i (by have := HP.out; omega))
              rw [← HX.out] at c1
              clear hG hB
              by_cases hlt2 : k < i
              · have d1 := (HB2.out.cell (p := ⟨b1, o1 + k, none⟩) hb1).trans (HC1.out k (by have := HP.out; omega))
                obtain ⟨y, hy⟩ : ∃ y, y = f.getD k 0 := ⟨_, rfl⟩
                rw [← hy] at d1
                have HY := Frame.hid hy
                have hkp : k < p := by omega
                have gl : b < wr.heap.size := Nat.lt_of_lt_of_le hb HB2.out.size
                have gl1 : b1 < wr.heap.size := Nat.lt_of_lt_of_le hb1 HB2.out.size
                have p0 : (0 : Int) ≤ (k : Int) := by omega
                have p1 : (k : Int) < (p : Int) := by omega
                have p2 : (0 : Int) ≤ (i : Int) := by omega
                have p3 : (i : Int) < (p : Int) := by omega
                clear hy
                by_cases hxy : y = x
                · have HXY := Frame.hid hxy
                  have hb1' : (y == x) = true := by simpa using hxy
                  clear hxy
                  go_wp2
                  go_quiet (fail)
                  go_wp2
                  go_ret
                  refine ⟨BoolIs.no fun h => ?_, below_drewN HB2.out _⟩
                  exact absurd (by rw [← HY.out, HXY.out, HX.out]) (h.2.2.2 i (by rw [← HP.out]; exact hlt) k hlt2)
                · have HXY := Frame.hid hxy
                  have hb1' : (y == x) = false := by simpa using hxy
                  go_wp2
                  go_quiet (fail)
                  go_wp2
                  go_roundw
                  case rel =>
                    refine ⟨k + 1, by omega, by go_num, fun l hl => ?_, below_drewN HB2.out _⟩
                    rcases Nat.lt_or_ge l k with h3 | h3
                    · exact HG.out l h3
                    · obtain rfl : l = k := by omega
                      rw [← HY.out]; exact HXY.out
                  case measure => simp [intOf]; omega
              · have hki : k = i := by omega
                have HKI := Frame.hid hki
                clear hki
                go_wp2
                go_roundw
                case rel =>
                  have hi0 := HIN.out
                  simp only [Bool.and_eq_true, decide_eq_true_eq] at hi0
                  refine ⟨i + 1, by omega, by go_num, ⟨fun j hj => ?_, fun j hj k' hk' => ?_⟩, HB2.out⟩
                  · rcases Nat.lt_or_ge j i with h3 | h3
                    · exact HF.out.1 j h3
                    · obtain rfl : j = i := by omega
                      rw [← HX.out]; omega
                  · rcases Nat.lt_or_ge j i with h3 | h3
                    · exact HF.out.2 j h3 k' hk'
                    · obtain rfl : j = i := by omega
                      rw [← HX.out]; exact HG.out k' (by rw [HKI.out]; exact hk')
                case measure => simp [intOf]; omega
        · have hip : i = p := by omega
          have HIP := Frame.hid hip
          clear hip
          go_wp2
          go_ret
          refine ⟨BoolIs.yes ?_, HB.out⟩
          have h5 := HP.out
          have h6 := HIP.out
          exact ⟨by omega, by omega, fun j hj => HF.out.1 j (by omega), fun j hj => HF.out.2 j (by omega)⟩

/-- The first place of a side. -/
def FstS (L : List (Int × Int)) (a b : Int) (z : Int) : Prop := (z = -1 ∧ ∀ i, i < L.length → L[i]? ≠ some (a, b)) ∨ ∃ i : Nat, z = (i : Int) ∧ L[i]? = some (a, b) ∧ ∀ k, k < i → L[k]? ≠ some (a, b)

end Go.Proofs.Ytnbgnaenlbphcaa
