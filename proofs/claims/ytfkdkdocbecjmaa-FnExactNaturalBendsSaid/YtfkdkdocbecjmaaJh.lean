/-
  IsGraph, walked on both sides.
-/
import Derived.Test.YtfkdkdocbecjmaaJg
import Derived.Test.YtfkdkdocbecjmaaJ0
import Derived.Deep.QuietTactic
import Derived.BigQuiet
namespace Go.Proofs.Ytfkdkdocbecjmaa
open Go.RowKit Go.Shelf Fl Ieee
attribute [local go_sem] Oper.semAt_some

/-- '<=' of 32-bit numbers. -/
def leqF (a b : Nat) : Bool := FloatKind.f32.format.order a b == some Ordering.lt || FloatKind.f32.format.order a b == some Ordering.eq
/-- Each number is greater than the one before. -/
def incB (xs : List Nat) : Bool := (List.range (xs.length - 1)).all fun i => !leqF (xs.getD (i + 1) 0) (xs.getD i 0)
def graphB (xs ys : List Nat) : Bool := decide (2 ≤ xs.length) && decide (xs.length ≤ 48) && decide (ys.length = xs.length) && finL xs && finL ys && incB xs
theorem incB_upto {xs : List Nat} (h : ∀ i, i + 1 < xs.length → leqF (xs.getD (i + 1) 0) (xs.getD i 0) = false) : incB xs = true := by
  unfold incB
  rw [List.all_eq_true]
  intro i hi
  rw [List.mem_range] at hi
  rw [h i (by omega)]
  rfl
theorem incB_bad {xs : List Nat} {i : Nat} (hi : i + 1 < xs.length) (h : leqF (xs.getD (i + 1) 0) (xs.getD i 0) = true) : incB xs = false := by
  unfold incB
  rw [List.all_eq_false]
  exact ⟨i, by rw [List.mem_range]; omega, by rw [h]; simp⟩
theorem incB_get {xs : List Nat} (h : incB xs = true) {i : Nat} (hi : i + 1 < xs.length) : leqF (xs.getD (i + 1) 0) (xs.getD i 0) = false := by
  unfold incB at h
  rw [List.all_eq_true] at h
  have := h i (by rw [List.mem_range]; omega)
  simpa using this

/-- What is asked ahead of the numbers' order. -/
def headB (xs ys : List Nat) : Bool := decide (2 ≤ xs.length) && decide (xs.length ≤ 48) && decide (ys.length = xs.length) && finL xs && finL ys
theorem graphB_head {xs ys : List Nat} (h : headB xs ys = false) : graphB xs ys = false := by unfold graphB; unfold headB at h; rw [h]; rfl
theorem graphB_inc {xs ys : List Nat} (h : headB xs ys = true) : graphB xs ys = incB xs := by unfold graphB; unfold headB at h; rw [h]; rfl
theorem headB_of {xs ys : List Nat} (h : headB xs ys = true) : 2 ≤ xs.length ∧ xs.length ≤ 48 ∧ ys.length = xs.length ∧ finL xs = true ∧ finL ys = true := by
  unfold headB at h
  simp at h
  exact ⟨h.1.1.1.1, h.1.1.1.2, h.1.1.2, h.1.2, h.2⟩

set_option maxRecDepth 100000 in
set_option maxHeartbeats 1000000 in
theorem l05Graph_calls (A B : Option Addr) (xs ys : List Nat) (c d : Nat) (w : World) (hn : xs.length ≤ 1048576) (hn' : ys.length ≤ 1048576) (hA : RdF w A xs) (hB : RdF w B ys) :
    Calls Try.prog 50 #[.slice A xs.length c, .slice B ys.length d] w fun e w' => e = .returned (.bool (graphB xs ys)) ∧ ∃ m, w' = w.drewN m := by
  have HCA := Frame.hid (fun k => l02Fin_calls A xs c (w.drewN k) hn (hA.drewN k))
  have HCB := Frame.hid (fun k => l02Fin_calls B ys d (w.drewN k) hn' (hB.drewN k))
  cases hh : headB xs ys
  · rw [graphB_head hh]
    have HH := Frame.hid hh
    clear hh hA hB
    obtain ⟨N, hN⟩ : ∃ N, N = xs.length := ⟨_, rfl⟩
    obtain ⟨M, hM⟩ : ∃ M, M = ys.length := ⟨_, rfl⟩
    unfold headB at HH
    rw [← hN] at HCA HH hn ⊢
    rw [← hM] at HCB HH hn' ⊢
    clear hN hM
    by_cases h1 : N < 2
    · clear HH
      go_enter Try.func50, Try.ntmps50
      go_wp2_with fail
      go_ret
      exact ⟨rfl, 0, rfl⟩
    by_cases h2 : 48 < N
    · clear HH
      go_enter Try.func50, Try.ntmps50
      go_wp2_with fail
      go_ret
      exact ⟨rfl, 0, rfl⟩
    by_cases h3 : M = N
    · subst h3
      cases hx : finL xs
      · have HX := Frame.hid hx
        clear hx HH
        go_enter Try.func50, Try.ntmps50
        go_wp2_with (go_at_call 52; refine (HCA.out 0).mono ?_; rintro e w' ⟨rfl, m, rfl⟩; rw [HX.out])
        go_ret
        exact ⟨rfl, _, rfl⟩
      · cases hy : finL ys
        · have HX := Frame.hid hx
          have HY := Frame.hid hy
          clear hx hy HH
          go_enter Try.func50, Try.ntmps50
          go_wp2_with fail
          refine (HCA.out 0).mono ?_
          rintro e w' ⟨rfl, m, rfl⟩
          rw [HX.out]
          go_wp2_with fail
          refine (HCB.out _).mono ?_
          rintro e w' ⟨rfl, m', rfl⟩
          rw [HY.out]
          go_wp2_with fail
          go_ret
          exact ⟨rfl, _, rfl⟩
        · have h := HH.out
          rw [hx, hy] at h
          simp at h
          omega
    · clear HH
      go_enter Try.func50, Try.ntmps50
      go_wp2_with fail
      go_ret
      exact ⟨rfl, 0, rfl⟩
  · rw [graphB_inc hh]
    obtain ⟨h1, h2, h3, hx, hy⟩ := headB_of hh
    rw [h3] at HCB ⊢
    obtain ⟨b, off, rfl, hb, hc⟩ := hA (by omega)
    have HX := Frame.hid hx
    have HY := Frame.hid hy
    have HCC := Frame.hid hc
    obtain ⟨N, hN⟩ : ∃ N, N = xs.length := ⟨_, rfl⟩
    have HN := Frame.hid hN
    rw [← hN] at HCA HCB h1 h2 hn ⊢
    clear hh hB hA hx hy h3 hn' hN hc
    go_enter Try.func50, Try.ntmps50
    go_wp2_with fail
    refine (HCA.out 0).mono ?_
    rintro e w' ⟨rfl, m, rfl⟩
    rw [HX.out]
    go_wp2_with fail
    refine (HCB.out _).mono ?_
    rintro e w' ⟨rfl, m', rfl⟩
    rw [HY.out]
    go_wp2_with fail
    go_loopw [6] (fun i wr => ∃ k : Nat, k + 1 ≤ N ∧ i = .int .i64 ((k : Int) + 1) ∧ (∀ j, j < k → leqF (xs.getD (j + 1) 0) (xs.getD j 0) = false) ∧ ∃ m, wr = w.drewN m) (fun i _ => N + 1 - (intOf i).toNat)
    case atStart => exact ⟨0, by omega, rfl, fun j hj => absurd hj (by omega), _, rfl⟩
    case round =>
      obtain ⟨k, hk, rfl, hL, m, rfl⟩ := hrel
      by_cases hlt : k + 1 < N
      · have d0 := HCC.out k (by have := HN.out; omega)
        have d1 := HCC.out (k + 1) (by have := HN.out; omega)
        have p0 : (0 : Int) ≤ (k : Int) := by omega
        have p1 : (k : Int) < (N : Int) := by omega
        have q0 : ¬ ((k : Int) + 1 < 0) := by omega
        have q1 : (0 : Int) ≤ (k : Int) + 1 := by omega
        have q2 : ((k : Int) + 1).toNat = k + 1 := by omega
        have q3 : IntKind.i64.wrap (k : Int) = (k : Int) := by rw [IntKind.wrap_i64]; omega
        have q4 : (k : Int) + 1 < (N : Int) := by omega
        have HL := Frame.hid hL
        cases hq : leqF (xs.getD (k + 1) 0) (xs.getD k 0)
        · have HQ := Frame.hid hq
          unfold leqF at hq
          generalize xs.getD k 0 = x0 at d0 hq
          generalize xs.getD (k + 1) 0 = x1 at d1 hq
          clear hL HCC
          go_wp2_with fail
          go_quiet (fail)
          go_wp2_with fail
          go_roundw
          case rel =>
            refine ⟨k + 1, by omega, by go_num, fun j hj => ?_, _, rfl⟩
            by_cases he : j = k
            · subst he; exact HQ.out
            · exact HL.out j (by omega)
          case measure => simp [intOf]; omega
        · have HQ := Frame.hid (incB_bad (by have := HN.out; omega) hq)
          unfold leqF at hq
          generalize xs.getD k 0 = x0 at d0 hq
          generalize xs.getD (k + 1) 0 = x1 at d1 hq
          clear hL HCC
          go_wp2_with fail
          go_quiet (fail)
          go_wp2_with fail
          go_ret
          exact ⟨ret_bool HQ.out.symm, m + nq, jdrewN _ _ _⟩
      · have HQ := Frame.hid (incB_upto (xs := xs) (fun j hj => hL j (by have := HN.out; omega)))
        clear hL HCC
        go_wp2_with fail
        go_ret
        exact ⟨ret_bool HQ.out.symm, _, rfl⟩

set_option maxRecDepth 100000 in
set_option maxHeartbeats 1000000 in
theorem isGraph_no (A B : Option Addr) (xs ys : List Nat) (c d : Nat) (w : World) (hn : xs.length ≤ 1048576) (hn' : ys.length ≤ 1048576) (hA : RdF w A xs) (hB : RdF w B ys) (hh : headB xs ys = false) :
    Calls Try.prog 53 #[.slice A xs.length c, .slice B ys.length d] w fun e w' => e = .returned (.bool false) ∧ Below w.heap.size w w' := by
  have HCA := Frame.hid (fun W (hW : Below w.heap.size w W) => areFin_calls A xs c W hn (hA.below hW))
  have HCB := Frame.hid (fun W (hW : Below w.heap.size w W) => areFin_calls B ys d W hn' (hB.below hW))
  have HH := Frame.hid hh
  clear hh hA hB
  obtain ⟨N, hN⟩ : ∃ N, N = xs.length := ⟨_, rfl⟩
  obtain ⟨M, hM⟩ : ∃ M, M = ys.length := ⟨_, rfl⟩
  unfold headB at HH
  rw [← hN] at HCA HH hn ⊢
  rw [← hM] at HCB HH hn' ⊢
  clear hN hM
  by_cases h1 : N < 2
  · clear HH
    go_enter Try.func53, Try.ntmps53
    go_wp2_with fail
    refine bodyPost_ret (v := .bool false) (by simp [results, Try.results53, go_sem]) rfl ⟨rfl, ?_⟩
    (apply jbel_of; (repeat (first | apply jbelow_dn | apply jbelow_al | (refine jbelow_sc (by first | (simp; done) | (simp; omega) | omega) ?_ _))); exact jbelow_st _)
  by_cases h2 : 48 < N
  · clear HH
    go_enter Try.func53, Try.ntmps53
    go_wp2_with fail
    refine bodyPost_ret (v := .bool false) (by simp [results, Try.results53, go_sem]) rfl ⟨rfl, ?_⟩
    (apply jbel_of; (repeat (first | apply jbelow_dn | apply jbelow_al | (refine jbelow_sc (by first | (simp; done) | (simp; omega) | omega) ?_ _))); exact jbelow_st _)
  by_cases h3 : M = N
  · subst h3
    cases hx : finL xs
    · have HX := Frame.hid hx
      clear hx HH
      go_enter Try.func53, Try.ntmps53
      go_wp2_with fail
      refine (HCA.out _ (by (apply jbel_of; (repeat (first | apply jbelow_dn | apply jbelow_al | (refine jbelow_sc (by first | (simp; done) | (simp; omega) | omega) ?_ _))); exact jbelow_st _))).mono ?_
      rintro e w' ⟨rfl, m, rfl⟩
      rw [HX.out]
      go_wp2_with fail
      refine bodyPost_ret (v := .bool false) (by simp [results, Try.results53, go_sem]) rfl ⟨rfl, ?_⟩
      (apply jbel_of; (repeat (first | apply jbelow_dn | apply jbelow_al | (refine jbelow_sc (by first | (simp; done) | (simp; omega) | omega) ?_ _))); exact jbelow_st _)
    · cases hy : finL ys
      · have HX := Frame.hid hx
        have HY := Frame.hid hy
        clear hx hy HH
        go_enter Try.func53, Try.ntmps53
        go_wp2_with fail
        refine (HCA.out _ (by (apply jbel_of; (repeat (first | apply jbelow_dn | apply jbelow_al | (refine jbelow_sc (by first | (simp; done) | (simp; omega) | omega) ?_ _))); exact jbelow_st _))).mono ?_
        rintro e w' ⟨rfl, m, rfl⟩
        rw [HX.out]
        go_wp2_with fail
        refine (HCB.out _ (by (apply jbel_of; (repeat (first | apply jbelow_dn | apply jbelow_al | (refine jbelow_sc (by first | (simp; done) | (simp; omega) | omega) ?_ _))); exact jbelow_st _))).mono ?_
        rintro e w' ⟨rfl, m', rfl⟩
        rw [HY.out]
        go_wp2_with fail
        refine bodyPost_ret (v := .bool false) (by simp [results, Try.results53, go_sem]) rfl ⟨rfl, ?_⟩
        (apply jbel_of; (repeat (first | apply jbelow_dn | apply jbelow_al | (refine jbelow_sc (by first | (simp; done) | (simp; omega) | omega) ?_ _))); exact jbelow_st _)
      · have h := HH.out
        rw [hx, hy] at h
        simp at h
        omega
  · clear HH
    go_enter Try.func53, Try.ntmps53
    go_wp2_with fail
    refine bodyPost_ret (v := .bool false) (by simp [results, Try.results53, go_sem]) rfl ⟨rfl, ?_⟩
    (apply jbel_of; (repeat (first | apply jbelow_dn | apply jbelow_al | (refine jbelow_sc (by first | (simp; done) | (simp; omega) | omega) ?_ _))); exact jbelow_st _)

end Go.Proofs.Ytfkdkdocbecjmaa
