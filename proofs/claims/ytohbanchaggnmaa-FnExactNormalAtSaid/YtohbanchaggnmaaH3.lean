/-
  EdgeOfSheet, the specification's side.
-/
import Derived.Test.YtohbanchaggnmaaH2
namespace Go.Proofs.Ytohbanchaggnmaa
open Go.RowKit Fl Go.WideShapes Go.Deep
attribute [local go_sem] kstore_f kalloc_drewN kset_drewN hstore_i hstore_s

theorem partL_part (xs : List (Nat × Nat × Nat)) (f g : Nat → Nat) (M m : Nat) (h : ∀ i, i < m → g i < M) : partL (partL xs f M) g m = partL xs (fun i => f (g i)) m := by
  unfold partL
  refine List.map_congr_left fun i hi => ?_
  obtain ⟨h1, h2, h3⟩ := partL_get xs f (h i (List.mem_range.1 hi))
  unfold partL at h1 h2 h3
  rw [h1, h2, h3]
theorem flipL_part (p q : Nat) (xs : List (Nat × Nat × Nat)) : flipL p q xs = partL xs (fun k => k % q * p + k / q) (p * q) := rfl
theorem own1 (W : World) (base g : Nat) (hg : g = W.heap.size) (hb : base ≤ W.heap.size) : (W.alloc (.cells #[] 28)).ownsRow base 28 3 (.slice (some ⟨g, 0, none⟩) 0 0) 0 [] := by
  subst hg
  have h := none_litS W
  exact ⟨h.1, h.2.imp id fun ⟨g, cap, cur, h1, h2, h3⟩ => ⟨g, cap, cur, h1, Nat.le_trans hb h2, h3⟩⟩
theorem RdS.news1 {w : World} {b off : Nat} {xs : List (Nat × Nat × Nat)} (h : RdS w (some ⟨b, off, none⟩) xs) (h1 : 0 < xs.length) (o : Obj) : ∀ j u, (cellsS xs)[j]? = some u → (w.alloc o).cell? ((⟨b, off, none⟩ : Addr).add j) = some u := fun j u hj => by
  obtain ⟨hlt, hn⟩ := h.news h1
  have := hn j u hj
  rw [add_plain] at this ⊢
  rw [World.cell?_alloc_past _ _ _ hlt]
  exact this

theorem l00In_true (n a b : Int) (h : a ≤ n ∧ n ≤ b) (w : World) : Calls Try.prog 144 #[.int .i64 n, .int .i64 a, .int .i64 b] w fun e w' => e = .returned (.bool true) ∧ w = w' := (l00In_calls n a b w).mono (by
  rintro e w' ⟨rfl, rfl⟩
  exact ⟨by rw [decide_eq_true h.1, decide_eq_true h.2]; rfl, rfl⟩)

end Go.Proofs.Ytohbanchaggnmaa
