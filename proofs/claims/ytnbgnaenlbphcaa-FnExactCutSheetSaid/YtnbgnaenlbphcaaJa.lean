/-
  Slices of 32-bit numbers: whether all of them are finite; a number that is handed out if it is finite.
-/
import Derived.Test.YtnbgnaenlbphcaaEf
namespace Go.Proofs.Ytnbgnaenlbphcaa
open Go.RowKit Fl Ieee

def finL (xs : List Nat) : Bool := xs.all (fun x => fin .f32 x)
theorem finL_bad {xs : List Nat} {k : Nat} (hk : k < xs.length) (h : fin .f32 (xs.getD k 0) = false) : finL xs = false := by
  unfold finL
  rw [List.all_eq_false]
  refine ⟨xs[k], List.getElem_mem hk, ?_⟩
  rw [List.getD_eq_getElem?_getD, List.getElem?_eq_getElem hk] at h
  simpa using h
theorem finL_upto {xs : List Nat} (h : ∀ j, j < xs.length → fin .f32 (xs.getD j 0) = true) : finL xs = true := by
  unfold finL
  rw [List.all_eq_true]
  intro x hx
  obtain ⟨j, hj, rfl⟩ := List.getElem_of_mem hx
  have := h j hj
  rw [List.getD_eq_getElem?_getD, List.getElem?_eq_getElem hj] at this
  simpa using this
theorem finL_get {xs : List Nat} (h : finL xs = true) {j : Nat} (hj : j < xs.length) : fin .f32 (xs.getD j 0) = true := by
  unfold finL at h
  rw [List.all_eq_true] at h
  rw [List.getD_eq_getElem?_getD, List.getElem?_eq_getElem hj]
  exact h _ (List.getElem_mem hj)
theorem jfin_same {a b : Nat} (h : FSame .f32 a b) : fin .f32 a = fin .f32 b := by
  rcases h with rfl | ⟨h1, h2⟩
  · rfl
  · rw [fin_eq, fin_eq, h1, h2]; rfl
theorem finL_same {xs ys : List Nat} (h : LSame xs ys) : finL xs = finL ys := by
  cases hx : finL xs
  · cases hy : finL ys
    · rfl
    · exfalso
      have : finL xs = true := finL_upto fun j hj => by rw [jfin_same (h.2 j)]; exact finL_get hy (by rw [← h.1]; exact hj)
      rw [hx] at this; cases this
  · exact (finL_upto fun j hj => by rw [← jfin_same (h.2 j)]; exact finL_get hx (by rw [h.1]; exact hj)).symm

/-- A number that is handed out if it is finite. -/
def NumA (x r : Nat) (ok : Bool) : Prop := ok = fin .f32 x ∧ (ok = true → r = x) ∧ (ok = false → r = 0)
theorem NumA.same {x r X R : Nat} {k K : Bool} (h1 : FSame .f32 x X) (h : NumA x r k) (g : NumA X R K) : FSame .f32 r R ∧ k = K := by
  have e : k = K := by rw [h.1, g.1, jfin_same h1]
  subst e
  refine ⟨?_, rfl⟩
  cases k
  · rw [h.2.2 rfl, g.2.2 rfl]; exact FSame.refl _ _
  · rw [h.2.1 rfl, g.2.1 rfl]; exact h1

set_option maxRecDepth 100000 in
set_option maxHeartbeats 400000 in
theorem numA_calls (x : Nat) (w : World) : Calls Try.prog 102 #[.float .f32 x] w fun e w' => ∃ r ok, e = .returned (.tuple #[.float .f32 r, .bool ok]) ∧ NumA x r ok ∧ ∃ n, w' = w.drewN n := by
  cases hf : fin .f32 x
  all_goals
    go_enter Try.func102, Try.ntmps102
    go_wp2_with (go_at_call 148; refine (isFinite_calls _ _).mono ?_; rintro e w' ⟨rfl, n, rfl⟩; rw [hf])
    go_ret2
  · exact ⟨_, _, rfl, ⟨hf.symm, fun h => (by cases h), fun _ => rfl⟩, _, rfl⟩
  · exact ⟨_, _, rfl, ⟨hf.symm, fun _ => rfl, fun h => (by cases h)⟩, _, rfl⟩

set_option maxRecDepth 100000 in
set_option maxHeartbeats 400000 in
theorem l02NumA_calls (x : Nat) (w : World) : Calls Try.prog 99 #[.float .f32 x] w fun e w' => ∃ r ok, e = .returned (.tuple #[.float .f32 r, .bool ok]) ∧ NumA x r ok ∧ ∃ n, w' = w.drewN n := by
  cases hf : fin .f32 x
  all_goals
    go_enter Try.func99, Try.ntmps99
    go_wp2_with (go_at_call 144; refine (l01Finite_calls _ _).mono ?_; rintro e w' ⟨rfl, n, rfl⟩; rw [hf])
    go_ret2
  · exact ⟨_, _, rfl, ⟨hf.symm, fun h => (by cases h), fun _ => rfl⟩, _, rfl⟩
  · exact ⟨_, _, rfl, ⟨hf.symm, fun _ => rfl, fun h => (by cases h)⟩, _, rfl⟩

end Go.Proofs.Ytnbgnaenlbphcaa
