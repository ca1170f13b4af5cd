/-
  Nets are valid: the specification's sides.
-/
import Derived.Test.YtnbgnaenlbphcaaN7
import Derived.Maps.AppendAt
namespace Go.Proofs.Ytnbgnaenlbphcaa
open Go.RowKit Fl Go.WideShapes Go.Deep
attribute [local go_sem] kstore_f kalloc_drewN kset_drewN hstore_i hstore_s

/-- The first and the second corners of sides. -/
def fstL (L : List (Int × Int)) : List Int := L.map (·.1)
def sndL (L : List (Int × Int)) : List Int := L.map (·.2)
theorem fstL_len (L : List (Int × Int)) : (fstL L).length = L.length := by simp [fstL]
theorem sndL_len (L : List (Int × Int)) : (sndL L).length = L.length := by simp [sndL]
theorem fstL_at (L : List (Int × Int)) (j : Nat) (h : j < L.length) : (fstL L).getD j 0 = (L[j]'h).1 := by simp [fstL, List.getD_eq_getElem?_getD, h]
theorem sndL_at (L : List (Int × Int)) (j : Nat) (h : j < L.length) : (sndL L).getD j 0 = (L[j]'h).2 := by simp [sndL, List.getD_eq_getElem?_getD, h]
theorem OwnI.rdJ {w : World} {B : Nat} {A : Option Addr} {n c : Nat} {ys : List Int} (h : OwnI w B (.slice A n c) ys) (hn : n = ys.length) : RdJ w A ys := fun h0 => by
  rcases h.form with ⟨_, e⟩ | ⟨g, cap, e, _, hl⟩
  · subst e; simp at h0
  · injection e with e1 e2 e3
    subst e1
    subst e2
    exact ⟨g, 0, rfl, hl, fun j hj => by rw [Nat.zero_add]; exact h.cell rfl hj⟩

/-- The answer is the first place of a side. -/
def FstIs (L : List (Int × Int)) (x y : Int) (e : Ending) : Prop := ∃ z, e = .returned (.int .i64 z) ∧ FstS L x y z

set_option maxRecDepth 100000 in
set_option maxHeartbeats 4000000 in
theorem l06Side_calls (L : List (Int × Int)) (p c d : Nat) (A B : Option Addr) (x y : Int) (hp : p = L.length) (hm : p ≤ 1048576) (w : World) (hA : RdJ w A (fstL L)) (hB : RdJ w B (sndL L)) :
    Calls Try.prog 129 #[.slice A p c, .slice B p d, .int .i64 x, .int .i64 y] w fun e w' => FstIs L x y e ∧ w' = w := by
  have HP := Frame.hid hp
  have HA := Frame.hid hA
  have HB := Frame.hid hB
  clear hp hA hB
  go_enter Try.func129, Try.ntmps129
  go_wp2
  go_loopw [9] (fun iv wr => ∃ i : Nat, i ≤ p ∧ iv = .int .i64 i ∧ (∀ k, k < i → L[k]? ≠ some (x, y)) ∧ wr = w) (fun iv _ => p - (intOf iv).toNat)
  case atStart => exact ⟨0, Nat.zero_le _, rfl, fun k hk => absurd hk (by omega), rfl⟩
  case round =>
    obtain ⟨i, hi, rfl, hF, rfl⟩ := hrel
    have HF := Frame.hid hF
    clear hF
    by_cases hlt : i < p
    · have hl : i < L.length := by have := HP.out; omega
      obtain ⟨b1, o1, rfl, hb1, hc1⟩ := HA.out (by rw [fstL_len]; omega)
      obtain ⟨b2, o2, rfl, hb2, hc2⟩ := HB.out (by rw [sndL_len]; omega)
      have c1 := hc1 i (by rw [fstL_len]; omega)
      have c2 := hc2 i (by rw [sndL_len]; omega)
      rw [fstL_at L i hl] at c1
      rw [sndL_at L i hl] at c2
      obtain ⟨u, hu⟩ : ∃ u, u = (L[i]'hl).1 := ⟨_, rfl⟩
      obtain ⟨v, hv⟩ : ∃ v, v = (L[i]'hl).2 := ⟨_, rfl⟩
      rw [← hu] at c1
      rw [← hv] at c2
      have hat : L[i]? = some (u, v) := by rw [List.getElem?_eq_getElem hl, hu, hv]
      have HAT := Frame.hid hat
      clear hc1 hc2 hu hv hat hl
      by_cases h1 : u = x
      · have t1 : (u == x) = true := by simpa using h1
        have H1 := Frame.hid h1
        clear h1
        by_cases h2 : v = y
        · have t2 : (v == y) = true := by simpa using h2
          have H2 := Frame.hid h2
          clear h2
          go_wp2
          go_ret
          exact ⟨⟨_, rfl, .inr ⟨i, rfl, by rw [HAT.out, H1.out, H2.out], HF.out⟩⟩, by first | rfl | trivial⟩
        · have t2 : (v == y) = false := by simpa using h2
          have H2 := Frame.hid h2
          clear h2
          go_wp2
          go_roundw
          case rel =>
            refine ⟨i + 1, by omega, by go_num, fun l hl => ?_, by first | rfl | trivial⟩
            rcases Nat.lt_or_ge l i with h3 | h3
            · exact HF.out l h3
            · obtain rfl : l = i := by omega
              rw [HAT.out]
              intro e
              injection e with e
              injection e with _ e
              exact H2.out e
          case measure => simp [intOf]; omega
      · have t1 : (u == x) = false := by simpa using h1
        have H1 := Frame.hid h1
        clear h1
        go_wp2
        go_roundw
        case rel =>
          refine ⟨i + 1, by omega, by go_num, fun l hl => ?_, by first | rfl | trivial⟩
          rcases Nat.lt_or_ge l i with h3 | h3
          · exact HF.out l h3
          · obtain rfl : l = i := by omega
            rw [HAT.out]
            intro e
            injection e with e
            injection e with e _
            exact H1.out e
        case measure => simp [intOf]; omega
    · go_wp2
      go_ret
      exact ⟨⟨_, rfl, .inl ⟨rfl, fun k hk => HF.out k (by have := HP.out; omega)⟩⟩, by first | rfl | trivial⟩

end Go.Proofs.Ytnbgnaenlbphcaa
