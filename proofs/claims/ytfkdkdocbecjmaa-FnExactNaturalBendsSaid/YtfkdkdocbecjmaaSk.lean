/-
  Shares, walked on both sides.
-/
import Derived.Test.YtfkdkdocbecjmaaSh
import Derived.OwnWalk
namespace Go.Proofs.Ytfkdkdocbecjmaa
open Go.RowKit Fl Ieee
attribute [local go_sem] run_store_f

theorem OwnF.base_le {w : World} {base g n cap : Nat} {ys : List Nat} (h : OwnF w base (.slice (some ⟨g, 0, none⟩) n cap) ys) : base ≤ g := (World.ownsRow.lt h g rfl).1
theorem before_zero (ys : List Nat) : before ys 0 = 0 := rfl
theorem before_succ (ys : List Nat) (p : Nat) : before ys (p + 1) = ys.getD p 0 := rfl

def ShOut (n t : Nat) (w : World) (v i : Value) (wr : World) : Prop :=
  ∃ j : Nat, j ≤ n ∧ i = .int .i64 j ∧ ∃ g cap ys, v = .slice (some ⟨g, 0, none⟩) (j + 1) cap ∧ ShR t j ys ∧ OwnF wr w.heap.size v ys ∧ Below w.heap.size w wr
def ShIn (t : Nat) (w : World) (ys : List Nat) (j : Nat) (v : Value) (k : Value) (wr : World) : Prop :=
  ∃ i q : Nat, q + i = j + 2 ∧ k = .int .i64 ((q : Int) - 1) ∧ ∃ zs, Half t ys zs i ∧ OwnF wr w.heap.size v zs ∧ Below w.heap.size w wr

theorem own_app {w3 : World} {B m : Nat} {v' : Value} {ys : List Nat} {r : Nat} (hm : ys.length = m) (h : w3.ownsRow B 25 1 v' (m + 1) (fl ys ++ [.float .f32 r])) : ∃ g cap, v' = .slice (some ⟨g, 0, none⟩) (m + 1) cap ∧ OwnF w3 B v' (ys ++ [r]) := by
  have e : fl ys ++ [.float .f32 r] = fl (ys ++ [r]) := by rw [← fl_app]; rfl
  rw [e] at h
  subst hm
  have h' : OwnF w3 B v' (ys ++ [r]) := by unfold OwnF; rw [List.length_append]; exact h
  obtain ⟨g, cap, hv, _⟩ := h'.shape (by simp)
  exact ⟨g, cap, by rw [hv]; simp, h'⟩

theorem own_drew {w : World} {base : Nat} {e : TypeId} {size : Nat} {v : Value} {n : Nat} {xs : List Value} (h : w.ownsRow base e size v n xs) (k : Nat) : (w.drewN k).ownsRow base e size v n xs := h
theorem sp_step {w wr w3 : World} {B g2 g m cap : Nat} {ys : List Nat} (hO : OwnF wr w.heap.size (.slice (some ⟨g, 0, none⟩) m cap) ys) (hgB : g < B) (hB : Below w.heap.size w wr) (hwB : w.heap.size ≤ B) (k : Nat) (o : Obj)
    (hgrow : ((wr.drewN k).alloc o).grownBy w3 (some g2)) (hg2 : B ≤ g2) : OwnF w3 w.heap.size (.slice (some ⟨g, 0, none⟩) m cap) ys ∧ Below w.heap.size w w3 := by
  refine ⟨OwnF.grown (w := (wr.drewN k).alloc o) (World.ownsRow.alloc (own_drew hO k) o) hgrow (fun k' hk g' hg' => ?_), Below.grown ((below_drewN hB k).alloc hB.size o) hgrow (by have := hB.size; simp; omega) (fun k' hk => ?_)⟩
  · injection hk with hk
    injection hg' with hg'
    have hg'' : g = g' := hg'
    omega
  · injection hk with hk
    omega

theorem one_lit (w : World) : OwnF (w.alloc (.cells #[.float .f32 1065353216] 25)) w.heap.size (.slice (some ⟨w.heap.size, 0, none⟩) 1 1) [1065353216] :=
  World.ownsRow_lit w #[.float .f32 1065353216] 1 (Nat.le_refl _) (by unfold maxLen; omega) rfl

def SpOut (n t : Nat) (w : World) (v i : Value) (wr : World) : Prop :=
  ∃ j : Nat, j ≤ n ∧ i = .int .i64 j ∧ ∃ g cap ys, v = .slice (some ⟨g, 0, none⟩) (j + 1) cap ∧ ShR t j ys ∧ OwnF wr w.heap.size v ys ∧ Below w.heap.size w wr
/-- The first numbers of the next list. -/
def Begun (t : Nat) (ys zs : List Nat) (q : Nat) : Prop := zs.length = q ∧ ∀ i, i < q → ShStep t (ys.getD i 0) (before ys i) (zs.getD i 0)
theorem begun_step {t : Nat} {ys zs : List Nat} {q r : Nat} (h : Begun t ys zs q) (hr : ShStep t (ys.getD q 0) (before ys q) r) : Begun t ys (zs ++ [r]) (q + 1) := by
  refine ⟨by simp [h.1], fun i hi => ?_⟩
  rw [getD_snoc, h.1]
  by_cases hq : i = q
  · rw [if_pos hq, hq]; exact hr
  · rw [if_neg hq]; exact h.2 i (by omega)
def SpIn (t : Nat) (w : World) (now : Value) (ys : List Nat) (B j : Nat) (v k : Value) (wr : World) : Prop :=
  ∃ q : Nat, q ≤ j + 2 ∧ k = .int .i64 q ∧ ∃ g cap zs, v = .slice (some ⟨g, 0, none⟩) q cap ∧ Begun t ys zs q ∧ OwnF wr B v zs ∧ OwnF wr w.heap.size now ys ∧ Below w.heap.size w wr ∧ B ≤ wr.heap.size

end Go.Proofs.Ytfkdkdocbecjmaa
