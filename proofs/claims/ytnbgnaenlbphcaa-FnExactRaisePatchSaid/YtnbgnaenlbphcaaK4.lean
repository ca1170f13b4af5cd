/-
  MoveSpot: the program's side.
-/
import Derived.Test.YtnbgnaenlbphcaaK3
namespace Go.Proofs.Ytnbgnaenlbphcaa
open Go.RowKit Fl Go.WideShapes Go.Deep
attribute [local go_sem] kstore_f kalloc_drewN kset_drewN hstore_i hstore_s

theorem shB_len {a b : Int} {xs : List (Nat × Nat × Nat)} (h : shB a b xs = true) : 1 ≤ xs.length ∧ xs.length ≤ 36 := by
  unfold shB at h
  simp only [Bool.and_eq_true, decide_eq_true_eq] at h
  obtain ⟨⟨h1, h2⟩, -⟩ := h
  obtain ⟨⟨a1, -⟩, ⟨b1, -⟩, p1, p2⟩ := cntB_mul h1
  have h3 : 2 * 2 ≤ a * b := Int.mul_le_mul a1 b1 (by omega) (by omega)
  obtain ⟨p, hp⟩ : ∃ p : Int, a * b = p := ⟨_, rfl⟩
  rw [hp] at p2 h2 h3
  omega

theorem isSpotW_calls (x y z : Nat) (w : World) : Calls Try.prog 132 #[.agg #[.float .f32 x, .float .f32 y, .float .f32 z]] w fun e w' => e = .returned (.bool (fin3 x y z)) ∧ Below w.heap.size w w' := (isSpot_calls x y z w).mono (by rintro e w' ⟨rfl, n, rfl⟩; exact ⟨rfl, b1 _ _ _⟩)

theorem OwnedS.first {w : World} {B : Nat} {v : Value} {xs : List (Nat × Nat × Nat)} (h : OwnedS w B v xs) (h1 : 1 ≤ xs.length) : ∃ g cap, v = .slice (some ⟨g, 0, none⟩) xs.length cap ∧ B ≤ g ∧ g < w.heap.size ∧ (∀ i, w.frozen? ⟨g, i, none⟩ = false) ∧ ∀ k, k < xs.length → w.cell? ⟨g, k * 3, none⟩ = some (.float .f32 (sx xs k)) ∧ w.cell? ⟨g, k * 3 + 1, none⟩ = some (.float .f32 (sy xs k)) ∧ w.cell? ⟨g, k * 3 + 2, none⟩ = some (.float .f32 (sz xs k)) := by
  obtain ⟨A, c, e, hr⟩ := h.rd
  obtain ⟨b, off, e', hlt, hc⟩ := hr.h (by omega)
  subst e'
  rcases h.ow.h with ⟨h2, _⟩ | ⟨g', cap', cs, hv, hg, hh, hs⟩
  · rw [e] at h2; cases h2
  · rw [e] at hv
    injection hv with hv _ _
    injection hv with hv
    injection hv with hv1 hv2 _
    subst hv1 hv2
    exact ⟨b, c, e, hg, hlt, fun i => frozen_rowS hh, fun k hk => by have q := hc k hk; rw [Nat.zero_add] at q; exact ⟨q.c0, q.c1, q.c2⟩⟩

end Go.Proofs.Ytnbgnaenlbphcaa
