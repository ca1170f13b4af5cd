/-
  Nets: counted and compared.
-/
import Derived.Test.YtnbgnaenlbphcaaN3
import Derived.Test.YtnbgnaenlbphcaaG5
namespace Go.Proofs.Ytnbgnaenlbphcaa
open Go.RowKit Fl Go.WideShapes Go.Deep
attribute [local go_sem] kstore_f kalloc_drewN kset_drewN hstore_i hstore_s

set_option maxRecDepth 100000 in
set_option maxHeartbeats 2000000 in
theorem eqFacet_calls (A B : Option Addr) (xs : List Int) (n c d : Nat) (hxn : n = xs.length) (hn : n ≤ 1048576) (w : World) (hA : RdJ w A xs) (hB : RdJ w B xs) :
    Calls Try.prog 126 #[.agg #[.slice A n c], .agg #[.slice B n d]] w fun e w' => e = .returned (.bool true) ∧ Below w.heap.size w w' := by
  have HC := Frame.hid (fun W (hW : Below w.heap.size w W) => by have h := eqInt64J_calls A B xs c d W (by omega) (hA.below hW) (hB.below hW); rw [← hxn] at h; exact h)
  clear hA hB hxn
  go_enter Try.func126, Try.ntmps126
  go_wp2_with (go_at_call 160; refine (HC.out _ (by (apply bel_of; (repeat (first | apply below_dn | apply below_al)); exact below_st _))).mono ?_; rintro e w' ⟨rfl, m, rfl⟩)
  go_ret
  exact ⟨rfl, below_drewN (below_al _ (below_al _ (below_st _))).2 _⟩

set_option maxRecDepth 100000 in
set_option maxHeartbeats 2000000 in
theorem eqFacetS_calls (A B : Option Addr) (fs : List (List Int)) (m c d : Nat) (hm : m = fs.length) (hml : m ≤ 1048576) (hfl : ∀ k, k < m → (crn fs k).length ≤ 1048576) (w : World) (hA : RdF w A fs) (hB : RdF w B fs) :
    Calls Try.prog 73 #[.slice A m c, .slice B m d] w fun e w' => e = .returned (.bool true) ∧ Below w.heap.size w w' := by
  have HM := Frame.hid hm
  have HA := Frame.hid hA
  have HB := Frame.hid hB
  have HFL := Frame.hid hfl
  clear hm hA hB hfl
  go_enter Try.func73, Try.ntmps73
  go_wp2
  go_loopw [5] (fun iv wr => ∃ k : Nat, k ≤ m ∧ iv = .int .i64 k ∧ Below w.heap.size w wr) (fun iv _ => m - (intOf iv).toNat)
  case atStart => exact ⟨0, Nat.zero_le _, rfl, Below.refl _ _⟩
  case round =>
    obtain ⟨k, hk, rfl, hW⟩ := hrel
    have HW := Frame.hid hW
    clear hW
    by_cases hlt : k < m
    · obtain ⟨b, off, rfl, hb, hc⟩ := HA.out.h (by have := HM.out; omega)
      obtain ⟨b', off', rfl, hb', hc'⟩ := HB.out.h (by have := HM.out; omega)
      obtain ⟨Ak, ck, c0, hr⟩ := hc k (by have := HM.out; omega)
      obtain ⟨Bk, dk, d0, hr'⟩ := hc' k (by have := HM.out; omega)
      obtain ⟨n, hn⟩ : ∃ n, n = (crn fs k).length := ⟨_, rfl⟩
      rw [← hn] at c0 d0
      have HEF := Frame.hid (fun W (h : Below w.heap.size w W) => eqFacet_calls Ak Bk (crn fs k) n ck dk hn (by rw [hn]; exact HFL.out k hlt) W (hr.below h) (hr'.below h))
      have p0 : (0 : Int) ≤ (k : Int) := by omega
      have p1 : (k : Int) < (m : Int) := by omega
      have hk : ∀ W, Below wr.heap.size wr W → W.cell? ⟨b, off + k, none⟩ = some (.slice Ak n ck) ∧ W.cell? ⟨b', off' + k, none⟩ = some (.slice Bk n dk) := fun W h => ⟨((HW.out.trans (h.mono HW.out.size)).cell (p := ⟨b, off + k, none⟩) hb).trans c0, ((HW.out.trans (h.mono HW.out.size)).cell (p := ⟨b', off' + k, none⟩) hb').trans d0⟩
      clear hc hc' c0 d0 hr hr' hn
      have q1 : b < wr.heap.size := Nat.lt_of_lt_of_le hb HW.out.size
      have q2 : b' < wr.heap.size := Nat.lt_of_lt_of_le hb' HW.out.size
      have e0 := (hk wr (Below.refl _ _)).1
      have e1 := (hk wr (Below.refl _ _)).2
      have hST : SK wr.heap.size wr [((⟨b, off + k, none⟩ : Addr), Value.slice Ak n ck), ((⟨b', off' + k, none⟩ : Addr), Value.slice Bk n dk), ((⟨b, off + k, none⟩ : Addr), Value.slice Ak n ck)] wr := SK.start (Nat.le_refl _) (by intro p hp; simp at hp; rcases hp with rfl | rfl | rfl <;> assumption) (by intro p hp; simp at hp; rcases hp with rfl | rfl | rfl <;> assumption)
      have HES := Frame.hid (fun W (h : SK wr.heap.size wr [((⟨b, off + k, none⟩ : Addr), Value.slice Ak n ck), ((⟨b', off' + k, none⟩ : Addr), Value.slice Bk n dk), ((⟨b, off + k, none⟩ : Addr), Value.slice Ak n ck)] W) => HEF.out W (HW.out.trans (h.m.mono HW.out.size)))
      clear q1 q2 e0 e1 hk hb hb'
      go_wp2
      go_region_held3 (fun W => W.cell? ⟨b, off + k, none⟩ = some (.slice Ak n ck) ∧ W.cell? ⟨b', off' + k, none⟩ = some (.slice Bk n dk) ∧ W.cell? ⟨b, off + k, none⟩ = some (.slice Ak n ck) ∧ wr.heap.size ≤ W.heap.size ∧ SK wr.heap.size wr [((⟨b, off + k, none⟩ : Addr), Value.slice Ak n ck), ((⟨b', off' + k, none⟩ : Addr), Value.slice Bk n dk), ((⟨b, off + k, none⟩ : Addr), Value.slice Ak n ck)] W) ((refine SK_all3 ?_; (repeat' first | with_reducible assumption | exact SK_of3 (by with_reducible assumption) | exact hST | apply SK.drew | apply SK.drewN | apply SK.alloc | (refine SK.call ?_ (by with_reducible assumption)) | (refine SK.set ?_ _ _ _ (by omega)))))
        (first | (go_at_call 126; refine (HES.out _ ?_).mono ?_; (· (repeat' first | with_reducible assumption | exact SK_of3 (by with_reducible assumption) | exact hST | apply SK.drew | apply SK.drewN | apply SK.alloc | (refine SK.call ?_ (by with_reducible assumption)))); rintro e w' ⟨rfl, hB⟩))
      have hSK : SK wr.heap.size wr [((⟨b, off + k, none⟩ : Addr), Value.slice Ak n ck), ((⟨b', off' + k, none⟩ : Addr), Value.slice Bk n dk), ((⟨b, off + k, none⟩ : Addr), Value.slice Ak n ck)] _ := SK_of3 (by with_reducible assumption)
      go_wp2
      go_roundw
      case rel => exact ⟨k + 1, by omega, by go_num, HW.out.trans (hSK.m.mono HW.out.size)⟩
      case measure => simp [intOf]; omega
    · go_wp2
      go_ret
      exact ⟨rfl, HW.out⟩

set_option maxRecDepth 100000 in
set_option maxHeartbeats 2000000 in
theorem eqNet_calls (A B A' B' : Option Addr) (xs : List (Nat × Nat × Nat)) (fs : List (List Int)) (n m c d c' d' : Nat) (hxn : n = xs.length) (hn : n ≤ 1048576) (hm : m = fs.length) (hml : m ≤ 1048576) (hfl : ∀ k, k < m → (crn fs k).length ≤ 1048576) (w : World) (hA : RdS w A xs) (hA' : RdS w A' xs) (hB : RdF w B fs) (hB' : RdF w B' fs) :
    Calls Try.prog 26 #[.agg #[.slice A n c, .slice B m d], .agg #[.slice A' n c', .slice B' m d']] w fun e w' => e = .returned (.bool true) ∧ Below w.heap.size w w' := by
  have HC := Frame.hid (fun W (hW : Below w.heap.size w W) => eqSpotS_calls A A' xs xs c c' n hxn W hn (hA.below hW) (hA'.below hW) (LS.refl _))
  have HF := Frame.hid (fun W (hW : Below w.heap.size w W) => eqFacetS_calls B B' fs m d d' hm hml hfl W (hB.below hW) (hB'.below hW))
  clear hA hA' hB hB' hxn hm hfl
  have hb2 : Below w.heap.size w ((w.alloc (.cells #[.slice A n c, .slice B m d] 43)).alloc (.cells #[.slice A' n c', .slice B' m d'] 43)) := (below_al _ (below_al _ (below_st _))).2
  go_enter Try.func26, Try.ntmps26
  go_wp2_with fail
  refine (HC.out _ hb2).mono ?_
  rintro e w1 ⟨rfl, hB1⟩
  have p0 : w1.cell? ⟨w.heap.size, 1, none⟩ = some (.slice B m d) := (hB1.cell (p := ⟨w.heap.size, 1, none⟩) (by simp only [World.size_alloc]; omega)).trans (by simp [go_sem])
  have p1 : w1.cell? ⟨w.heap.size + 1, 1, none⟩ = some (.slice B' m d') := (hB1.cell (p := ⟨w.heap.size + 1, 1, none⟩) (by simp only [World.size_alloc]; omega)).trans (by simp [go_sem])
  have HB1 := Frame.hid (hb2.trans (hB1.mono hb2.size))
  clear hB1 hb2
  go_wp2_with fail
  refine (HF.out _ HB1.out).mono ?_
  rintro e w2 ⟨rfl, hB2⟩
  have HB2 := Frame.hid (HB1.out.trans (hB2.mono HB1.out.size))
  clear hB2 p0 p1
  go_wp2_with fail
  go_ret
  exact ⟨rfl, HB2.out⟩

set_option maxRecDepth 100000 in
set_option maxHeartbeats 2000000 in
theorem szNet_calls (A B : Option Addr) (fs : List (List Int)) (n m c d L : Nat) (hn : n ≤ maxLen) (hm : m = fs.length) (hml : m ≤ maxLen) (hfl : ∀ k, (crn fs k).length ≤ maxLen) (hL : L ≤ 1048576) (w : World) (hr : RdF w B fs) :
    Calls Try.prog 22 #[.agg #[.slice A n c, .slice B m d], .int .i64 L] w fun e w' => (e = .returned (.int .i64 (-1)) ∨ ∃ z : Nat, e = .returned (.int .i64 z) ∧ z ≤ L ∧ n ≤ 1048576 ∧ m ≤ 1048576 ∧ ∀ k, k < m → (crn fs k).length ≤ 1048576) ∧ Below w.heap.size w w' := by
  have hb1 : Below w.heap.size w (w.alloc (.cells #[.slice A n c, .slice B m d] 38)) := (Below.refl _ _).alloc (Nat.le_refl _) _
  by_cases h : L < n
  · clear hm hr hfl
    go_enter Try.func22, Try.ntmps22
    go_wp2_with (go_at_call 47; refine (szSpotSL_calls _ _ _ _ (by unfold maxLen at hn; omega) hL _).mono ?_; rintro e w' ⟨rfl, rfl⟩; rw [if_pos h])
    go_ret
    exact ⟨.inl rfl, hb1⟩
  · obtain ⟨y, hy⟩ : ∃ y, y = L - n := ⟨_, rfl⟩
    have hy0 : ¬ (y : Int) < 0 := by omega
    have hyL : y ≤ 1048576 := by omega
    have HY := Frame.hid hy
    have HSF := Frame.hid (szFacetS_calls B fs m d y hm (by unfold maxLen at hml; omega) hfl hyL _ (hr.below hb1))
    clear hy hr hm hfl
    go_enter Try.func22, Try.ntmps22
    go_wp2_with (go_at_call 47; refine (szSpotSL_calls _ _ _ _ (by unfold maxLen at hn; omega) hL _).mono ?_; rintro e w' ⟨rfl, rfl⟩; rw [if_neg h, ← HY.out])
    refine HSF.out.mono ?_
    rintro e w2 ⟨hz, hB2⟩
    have HB2 := Frame.hid (hb1.trans (hB2.mono hb1.size))
    clear hB2
    rcases hz with rfl | ⟨z, rfl, hzL, hmL, hall⟩
    · go_wp2_with fail
      go_ret
      exact ⟨.inl rfl, HB2.out⟩
    · have hz0 : ¬ (z : Int) < 0 := by omega
      have HALL := Frame.hid hall
      clear hall
      go_wp2_with fail
      go_ret
      exact ⟨.inr ⟨z, rfl, by have := HY.out; omega, by omega, by omega, HALL.out⟩, HB2.out⟩

end Go.Proofs.Ytnbgnaenlbphcaa
