/-
  The law of CornerSheet, walked.
-/
import Derived.Test.YtnbgnaenlbphcaaKz
import Derived.Deep.RegionHeld3
import Derived.Deep.DeepCutAuto
namespace Go.Proofs.Ytnbgnaenlbphcaa
open Go.RowKit Fl Go.WideShapes Go.Deep
attribute [local go_sem] kstore_f kalloc_drewN kset_drewN hstore_i hstore_s

theorem SK_of12 {n : Nat} {wc W : World} {p0 p1 p2 p3 p4 p5 p6 p7 p8 p9 p10 p11 : Addr} {v0 v1 v2 v3 v4 v5 v6 v7 v8 v9 v10 v11 : Value} (h : W.cell? p0 = some v0 ∧ W.cell? p1 = some v1 ∧ W.cell? p2 = some v2 ∧ W.cell? p3 = some v3 ∧ W.cell? p4 = some v4 ∧ W.cell? p5 = some v5 ∧ W.cell? p6 = some v6 ∧ W.cell? p7 = some v7 ∧ W.cell? p8 = some v8 ∧ W.cell? p9 = some v9 ∧ W.cell? p10 = some v10 ∧ W.cell? p11 = some v11 ∧ n ≤ W.heap.size ∧ SK n wc [(p0, v0), (p1, v1), (p2, v2), (p3, v3), (p4, v4), (p5, v5), (p6, v6), (p7, v7), (p8, v8), (p9, v9), (p10, v10), (p11, v11)] W) : SK n wc [(p0, v0), (p1, v1), (p2, v2), (p3, v3), (p4, v4), (p5, v5), (p6, v6), (p7, v7), (p8, v8), (p9, v9), (p10, v10), (p11, v11)] W := h.2.2.2.2.2.2.2.2.2.2.2.2.2
theorem SK_all12 {n : Nat} {wc W : World} {p0 p1 p2 p3 p4 p5 p6 p7 p8 p9 p10 p11 : Addr} {v0 v1 v2 v3 v4 v5 v6 v7 v8 v9 v10 v11 : Value} (h : SK n wc [(p0, v0), (p1, v1), (p2, v2), (p3, v3), (p4, v4), (p5, v5), (p6, v6), (p7, v7), (p8, v8), (p9, v9), (p10, v10), (p11, v11)] W) : W.cell? p0 = some v0 ∧ W.cell? p1 = some v1 ∧ W.cell? p2 = some v2 ∧ W.cell? p3 = some v3 ∧ W.cell? p4 = some v4 ∧ W.cell? p5 = some v5 ∧ W.cell? p6 = some v6 ∧ W.cell? p7 = some v7 ∧ W.cell? p8 = some v8 ∧ W.cell? p9 = some v9 ∧ W.cell? p10 = some v10 ∧ W.cell? p11 = some v11 ∧ n ≤ W.heap.size ∧ SK n wc [(p0, v0), (p1, v1), (p2, v2), (p3, v3), (p4, v4), (p5, v5), (p6, v6), (p7, v7), (p8, v8), (p9, v9), (p10, v10), (p11, v11)] W :=
  ⟨h.c (p0, v0) (by simp), h.c (p1, v1) (by simp), h.c (p2, v2) (by simp), h.c (p3, v3) (by simp), h.c (p4, v4) (by simp), h.c (p5, v5) (by simp), h.c (p6, v6) (by simp), h.c (p7, v7) (by simp), h.c (p8, v8) (by simp), h.c (p9, v9) (by simp), h.c (p10, v10) (by simp), h.c (p11, v11) (by simp), h.s, h⟩

/-- A sheet's variable of the call's own, not written yet, lies at block g. -/
structure NewH (W : World) (g : Nat) : Prop where
  c0 : W.cell? ⟨g, 0, none⟩ = some (.int .i64 0)
  c1 : W.cell? ⟨g, 1, none⟩ = some (.int .i64 0)
  c2 : W.cell? ⟨g, 2, none⟩ = some (.slice none 0 0)
  f : ∀ i, W.frozen? ⟨g, i, none⟩ = false
  l : g < W.heap.size
theorem NewH.here (W : World) (t : TypeId) : NewH (W.alloc (.cells #[.int .i64 0, .int .i64 0, .slice none 0 0] t)) W.heap.size := by
  refine ⟨?_, ?_, ?_, fun i => ?_, by simp⟩ <;> simp [go_sem]
theorem NewH.go {W w' : World} {g : Nat} (h : NewH W g) (hB : Below W.heap.size W w') : NewH w' g ∧ g < W.heap.size := ⟨⟨(hB.cell h.l).trans h.c0, (hB.cell h.l).trans h.c1, (hB.cell h.l).trans h.c2, fun i => (hB.frozen h.l).trans (h.f i), Nat.lt_of_lt_of_le h.l hB.size⟩, h.l⟩
theorem NewH.born {W w' : World} {t : TypeId} (hB : Below (W.alloc (.cells #[.int .i64 0, .int .i64 0, .slice none 0 0] t)).heap.size (W.alloc (.cells #[.int .i64 0, .int .i64 0, .slice none 0 0] t)) w') : NewH w' W.heap.size ∧ W.heap.size < (W.alloc (.cells #[.int .i64 0, .int .i64 0, .slice none 0 0] t)).heap.size := (NewH.here W t).go hB
theorem NewH.bornD {W w' : World} {t : TypeId} (hB : Below (W.alloc (.cells #[.int .i64 0, .int .i64 0, .slice none 0 0] t)).drew.heap.size (W.alloc (.cells #[.int .i64 0, .int .i64 0, .slice none 0 0] t)).drew w') : NewH w' W.heap.size ∧ W.heap.size < (W.alloc (.cells #[.int .i64 0, .int .i64 0, .slice none 0 0] t)).drew.heap.size := (NewH.here W t).go ((Below.refl _ _).drew.trans hB)
theorem NewH.born4 {w w' : World} {o1 o2 o3 o4 : Obj} {t : TypeId} (hB : Below (((((w.alloc o1).alloc o2).alloc o3).alloc o4).alloc (.cells #[.int .i64 0, .int .i64 0, .slice none 0 0] t)).drew.heap.size (((((w.alloc o1).alloc o2).alloc o3).alloc o4).alloc (.cells #[.int .i64 0, .int .i64 0, .slice none 0 0] t)).drew w') : NewH w' (w.heap.size + 1 + 1 + 1 + 1) ∧ w.heap.size + 1 + 1 + 1 + 1 < (((((w.alloc o1).alloc o2).alloc o3).alloc o4).alloc (.cells #[.int .i64 0, .int .i64 0, .slice none 0 0] t)).drew.heap.size := by
  have h := NewH.bornD hB
  have e : ((((w.alloc o1).alloc o2).alloc o3).alloc o4).heap.size = w.heap.size + 1 + 1 + 1 + 1 := by simp
  rw [e] at h
  exact h
theorem NewH.sh {W : World} {g : Nat} (h : NewH W g) (a b : Int) (v : Value) : Sh3 (((W.setCell ⟨g, 0, none⟩ (.int .i64 a)).setCell ⟨g, 1, none⟩ (.int .i64 b)).setCell ⟨g, 2, none⟩ v) g a b v := by
  obtain ⟨e0, e1, e2⟩ := set3_read (w := W) (g := g) (v0 := .int .i64 a) (v1 := .int .i64 b) (v2 := v) h.c0 h.c1 h.c2
  exact ⟨e0, e1, e2, by simpa using h.l⟩
/-- The slice's block is another one. -/
def Apart (A : Option Addr) (k : Nat) : Prop := ∀ h, A = some h → k ≠ h.block
theorem OwS.apart {w : World} {B n c k : Nat} {A : Option Addr} (h : OwS w B (.slice A n c) n) (hk : k < B) : Apart A k := by
  intro a ha
  subst ha
  rcases h.h with ⟨h1, _⟩ | ⟨g, cap, cs, hv, hg, _⟩
  · cases h1
  · injection hv with hv; injection hv with hv; rw [hv]; simp; omega
theorem OwS.apart' {w : World} {B n c k : Nat} {A : Option Addr} (h : OwS w B (.slice A n c) n) (hk : w.heap.size ≤ k) : Apart A k := by
  intro a ha
  subst ha
  rcases h.h with ⟨h1, _⟩ | ⟨g, cap, cs, hv, hg, hh, _⟩
  · cases h1
  · injection hv with hv; injection hv with hv; rw [hv]
    have := (Array.getElem?_eq_some_iff.1 hh).1
    simp; omega
theorem RdS.seta {w : World} {k i : Nat} {A : Option Addr} {v : Value} {xs : List (Nat × Nat × Nat)} (h : RdS w A xs) (hne : Apart A k) : RdS (w.setCell ⟨k, i, none⟩ v) A xs := ⟨fun h0 => by
  obtain ⟨b, off, e, hlt, hc⟩ := h.h h0
  have hkb := hne _ e
  have hn : ∀ o, (⟨k, i, none⟩ : Addr) ≠ ⟨b, o, none⟩ := fun o e => by injection e with e1; exact hkb e1
  refine ⟨b, off, e, by simpa using hlt, fun j hj => ?_⟩
  obtain ⟨c0, c1, c2⟩ := hc j hj
  exact ⟨by rw [World.cell?_setCell_other _ _ _ _ (hn _)]; exact c0, by rw [World.cell?_setCell_other _ _ _ _ (hn _)]; exact c1, by rw [World.cell?_setCell_other _ _ _ _ (hn _)]; exact c2⟩⟩
theorem OwS.seta {w : World} {B n c k i : Nat} {A : Option Addr} {u : Value} (h : OwS w B (.slice A n c) n) (hk : Apart A k) : OwS (w.setCell ⟨k, i, none⟩ u) B (.slice A n c) n := ⟨by
  rcases h.h with h1 | ⟨g, cap, cs, hv, hg, hh, hs⟩
  · exact .inl h1
  · refine .inr ⟨g, cap, cs, hv, hg, ?_, hs⟩
    injection hv with hv
    rw [Below.heap_setCell _ _ _ _ (fun e => hk _ hv e.symm)]
    exact hh⟩
theorem Apart.own {A : Option Addr} {k n c : Nat} (h : Apart A k) : (Value.slice A n c).ownBlock ≠ some k := by
  intro e
  cases A with
  | none => cases e
  | some a => injection e with e; exact h a rfl e.symm
theorem Sh3.same {w w' : World} {g : Nat} {a b : Int} {s : Value} (h : Sh3 w g a b s) (he : w'.heap[g]? = w.heap[g]?) : Sh3 w' g a b s :=
  ⟨(World.cell?_of_block (w := w) (a := ⟨g, 0, none⟩) he).trans h.c0, (World.cell?_of_block (w := w) (a := ⟨g, 1, none⟩) he).trans h.c1, (World.cell?_of_block (w := w) (a := ⟨g, 2, none⟩) he).trans h.c2, by
    have h1 : w.heap[g]? = some (w.heap[g]'h.l) := Array.getElem?_eq_getElem h.l
    rw [h1] at he
    exact (Array.getElem?_eq_some_iff.1 he).1⟩
theorem SK.far {n : Nat} {wc W : World} {L : List (Addr × Value)} (h : SK n wc L wc) (hB : Below n wc W) (hs : n ≤ W.heap.size) : SK n wc L W := ⟨fun p hp => (hB.cell (h.k p hp)).trans (h.c p hp), h.k, hs, hB⟩
theorem SK.here {n : Nat} {wc W : World} {L : List (Addr × Value)} (h : SK n wc L W) : SK W.heap.size W L W := SK.start (Nat.le_refl _) h.c (fun p hp => Nat.lt_of_lt_of_le (h.k p hp) h.s)
/-- What is handed out, read. -/
def outL (ok : Bool) (xs : List (Nat × Nat × Nat)) : List (Nat × Nat × Nat) := if ok then xs else []
def outI (ok : Bool) (a : Int) : Int := if ok then a else 0
theorem ShO.open' {w : World} {B : Nat} {a b a' b' : Int} {xs : List (Nat × Nat × Nat)} {v : Value} {ok : Bool} (h : ShO w B a b xs a' b' v ok) :
    ok = shB a b xs ∧ a' = outI (shB a b xs) a ∧ b' = outI (shB a b xs) b ∧ ∃ A c, v = .slice A (outL (shB a b xs) xs).length c ∧ RdS w A (outL (shB a b xs) xs) ∧ OwS w B v (outL (shB a b xs) xs).length := by
  have hk := h.k
  rw [← hk]
  refine ⟨rfl, ?_⟩
  cases ok
  · obtain ⟨rfl, rfl, rfl⟩ := h.f rfl
    exact ⟨rfl, rfl, none, 0, rfl, ⟨fun h0 => absurd h0 (by simp [outL])⟩, OwS.nilv _ _⟩
  · obtain ⟨rfl, rfl, h3, A, c, h4, h5⟩ := h.t rfl
    exact ⟨rfl, rfl, A, c, h4, h5, h3⟩

/-- What a call hands out. -/
def Out (K : Bool) (a0 b0 : Int) (N : Nat) (Z : List (Nat × Nat × Nat)) (W : World) (e : Ending) (w' : World) : Prop :=
  ∃ A c, e = .returned (.tuple #[.agg #[.int .i64 a0, .int .i64 b0, .slice A N c], .bool K]) ∧ RdS w' A Z ∧ OwS w' W.heap.size (.slice A N c) N ∧ Below W.heap.size W w'

end Go.Proofs.Ytnbgnaenlbphcaa
