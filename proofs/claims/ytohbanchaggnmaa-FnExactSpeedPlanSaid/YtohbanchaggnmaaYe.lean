/-
  SpeedPlan, the program's side: what may not be planned; both together.
-/
import Derived.Test.YtohbanchaggnmaaYd
namespace Go.Proofs.Ytohbanchaggnmaa
open Go.RowKit Go.Shelf Fl Ieee Go.WideShapes Go.Deep

set_option maxRecDepth 100000 in
set_option maxHeartbeats 2000000 in
theorem speedPlan_no (A : Option Addr) (c : Nat) (xs : List Nat) (n : Nat) (hxn : n = xs.length) (most rise : Nat) (w : World) (hn : n ≤ 1048576) (hr : RdF w A xs) (hs : spB xs most rise = false) :
    Calls Try.prog 46 #[.slice A n c, .float .f32 most, .float .f32 rise] w fun e w' => e = .returned (.tuple #[.slice none 0 0, .float .f32 0, .bool false]) ∧ Below w.heap.size w w' := by
  have HCA := Frame.hid (fun W (hW : Below w.heap.size w W) => by have h := arePos_calls A xs c W (by rw [← hxn]; omega) (hr.below hW); rw [← hxn] at h; exact h)
  have hL2 : RdF (((w.alloc (.cells #[.float .f32 rise] 25)).alloc (.cells #[.float .f32 most, .float .f32 rise] 25))) (some ⟨w.heap.size + 1, 0, none⟩) [most, rise] := by
    have e : w.heap.size + 1 = (w.alloc (.cells #[.float .f32 rise] 25)).heap.size := by simp
    rw [e]
    exact RdF.two _ most rise 25
  have HL2 := Frame.hid hL2
  have HX := Frame.hid hxn
  have HS := Frame.hid hs
  clear hr hxn hs hL2
  by_cases h1 : n < 1
  · go_enter Try.func46, Try.ntmps46
    go_wp2_with fail
    refine bodyPost_ret (v := .tuple #[.slice none 0 0, .float .f32 0, .bool false]) (by simp [results, Try.results46, go_sem]) rfl ⟨rfl, ?_⟩
    (apply jbel_of; (repeat (first | apply jbelow_dn | apply jbelow_al | (refine jbelow_sc (by first | (simp; done) | (simp; omega) | omega) ?_ _))); exact jbelow_st _)
  by_cases h2 : 64 < n
  · go_enter Try.func46, Try.ntmps46
    go_wp2_with fail
    refine bodyPost_ret (v := .tuple #[.slice none 0 0, .float .f32 0, .bool false]) (by simp [results, Try.results46, go_sem]) rfl ⟨rfl, ?_⟩
    (apply jbel_of; (repeat (first | apply jbelow_dn | apply jbelow_al | (refine jbelow_sc (by first | (simp; done) | (simp; omega) | omega) ?_ _))); exact jbelow_st _)
  have hz1 : decide ((n : Int) < 1) = false := by rw [decide_eq_false_iff_not]; omega
  have hz2 : decide (64 < (n : Int)) = false := by rw [decide_eq_false_iff_not]; omega
  cases hp : posL xs
  · have HP := Frame.hid hp
    clear hp
    go_enter Try.func46, Try.ntmps46
    go_wp2_with fail
    refine (HCA.out _ (by (apply jbel_of; (repeat (first | apply jbelow_dn | apply jbelow_al | (refine jbelow_sc (by first | (simp; done) | (simp; omega) | omega) ?_ _))); exact jbelow_st _))).mono ?_
    rintro e w' ⟨rfl, m, rfl⟩
    rw [HP.out]
    go_wp2_with fail
    refine bodyPost_ret (v := .tuple #[.slice none 0 0, .float .f32 0, .bool false]) (by simp [results, Try.results46, go_sem]) rfl ⟨rfl, ?_⟩
    (apply jbel_of; (repeat (first | apply jbelow_dn | apply jbelow_al | (refine jbelow_sc (by first | (simp; done) | (simp; omega) | omega) ?_ _))); exact jbelow_st _)
  · have HP := Frame.hid hp
    have hp2 : posL [most, rise] = false := by
      have h := HS.out
      unfold spB at h
      rw [decide_eq_true (by have := HX.out; omega : 1 ≤ xs.length), decide_eq_true (by have := HX.out; omega : xs.length ≤ 64), hp] at h
      rw [posL_two]
      exact h
    have HP2 := Frame.hid hp2
    clear hp hp2
    go_enter Try.func46, Try.ntmps46
    go_wp2_with fail
    refine (HCA.out _ (by (apply jbel_of; (repeat (first | apply jbelow_dn | apply jbelow_al | (refine jbelow_sc (by first | (simp; done) | (simp; omega) | omega) ?_ _))); exact jbelow_st _))).mono ?_
    rintro e w' ⟨rfl, m, rfl⟩
    rw [HP.out]
    go_wp2_with fail
    refine (arePos_two _ most rise _ (HL2.out.drewN m)).mono ?_
    rintro e w' ⟨rfl, m2, rfl⟩
    rw [HP2.out]
    go_wp2_with fail
    refine bodyPost_ret (v := .tuple #[.slice none 0 0, .float .f32 0, .bool false]) (by simp [results, Try.results46, go_sem]) rfl ⟨rfl, ?_⟩
    (apply jbel_of; (repeat (first | apply jbelow_dn | apply jbelow_al | (refine jbelow_sc (by first | (simp; done) | (simp; omega) | omega) ?_ _))); exact jbelow_st _)

theorem speedPlan_calls (A : Option Addr) (c : Nat) (xs : List Nat) (most rise : Nat) (w : World) (hn : xs.length ≤ 1048576) (hr : RdF w A xs) :
    Calls Try.prog 46 #[.slice A xs.length c, .float .f32 most, .float .f32 rise] w fun e w' => ∃ v vs t ok, e = .returned (.tuple #[v, .float .f32 t, .bool ok]) ∧ SpO xs most rise vs t ok ∧ (ok = false → v = .slice none 0 0) ∧ (ok = true → OwnF w' w.heap.size v vs) ∧ Below w.heap.size w w' := by
  cases hs : spB xs most rise
  · refine (speedPlan_no A c xs _ rfl most rise w hn hr hs).mono ?_
    rintro e w' ⟨rfl, hB⟩
    exact ⟨_, [], 0, false, rfl, .inr ⟨hs, rfl, rfl, rfl⟩, fun _ => rfl, (fun h => by cases h), hB⟩
  · have h := hs
    unfold spB at h
    simp only [Bool.and_eq_true, decide_eq_true_eq] at h
    obtain ⟨⟨⟨⟨a1, a2⟩, a3⟩, a4⟩, a5⟩ := h
    obtain ⟨b, off, rfl, hb, hc⟩ := hr (by omega)
    exact speedPlan_yes b off c xs _ rfl most rise w a1 a2 hr a3 (by rw [posL_two, a4, a5]; rfl)

end Go.Proofs.Ytohbanchaggnmaa
