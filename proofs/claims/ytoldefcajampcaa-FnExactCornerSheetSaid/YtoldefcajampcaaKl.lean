/-
  The law of CornerSheet, walked.
-/
import Derived.Test.YtoldefcajampcaaKz
import Derived.Deep.RegionHeld3
import Derived.Deep.DeepCutAuto
namespace Go.Proofs.Ytoldefcajampcaa
open Go.RowKit Fl Go.WideShapes Go.Deep
attribute [local go_sem] kstore_f kalloc_drewN kset_drewN hstore_i hstore_s

theorem SK_of12 {n : Nat} {wc W : World} {p0 p1 p2 p3 p4 p5 p6 p7 p8 p9 p10 p11 : Addr} {v0 v1 v2 v3 v4 v5 v6 v7 v8 v9 v10 v11 : Value} (h : W.cell? p0 = some v0 ∧ W.cell? p1 = some v1 ∧ W.cell? p2 = some v2 ∧ W.cell? p3 = some v3 ∧ W.cell? p4 = some v4 ∧ W.cell? p5 = some v5 ∧ W.cell? p6 = some v6 ∧ W.cell? p7 = some v7 ∧ W.cell? p8 = some v8 ∧ W.cell? p9 = some v9 ∧ W.cell? p10 = some v10 ∧ W.cell? p11 = some v11 ∧ n ≤ W.heap.size ∧ SK n wc [(p0, v0), (p1, v1), (p2, v2), (p3, v3), (p4, v4), (p5, v5), (p6, v6), (p7, v7), (p8, v8), (p9, v9), (p10, v10), (p11, v11)] W) : SK n wc [(p0, v0), (p1, v1), (p2, v2), (p3, v3), (p4, v4), (p5, v5), (p6, v6), (p7, v7), (p8, v8), (p9, v9), (p10, v10), (p11, v11)] W := h.2.2.2.2.2.2.2.2.2.2.2.2.2
theorem SK_all12 {n : Nat} {wc W : World} {p0 p1 p2 p3 p4 p5 p6 p7 p8 p9 p10 p11 : Addr} {v0 v1 v2 v3 v4 v5 v6 v7 v8 v9 v10 v11 : Value} (h : SK n wc [(p0, v0), (p1, v1), (p2, v2), (p3, v3), (p4, v4), (p5, v5), (p6, v6), (p7, v7), (p8, v8), (p9, v9), (p10, v10), (p11, v11)] W) : W.cell? p0 = some v0 ∧ W.cell? p1 = some v1 ∧ W.cell? p2 = some v2 ∧ W.cell? p3 = some v3 ∧ W.cell? p4 = some v4 ∧ W.cell? p5 = some v5 ∧ W.cell? p6 = some v6 ∧ W.cell? p7 = some v7 ∧ W.cell? p8 = some v8 ∧ W.cell? p9 = some v9 ∧ W.cell? p10 = some v10 ∧ W.cell? p11 = some v11 ∧ n ≤ W.heap.size ∧ SK n wc [(p0, v0), (p1, v1), (p2, v2), (p3, v3), (p4, v4), (p5, v5), (p6, v6), (p7, v7), (p8, v8), (p9, v9), (p10, v10), (p11, v11)] W :=
  ⟨h.c (p0, v0) (by simp), h.c (p1, v1) (by simp), h.c (p2, v2) (by simp), h.c (p3, v3) (by simp), h.c (p4, v4) (by simp), h.c (p5, v5) (by simp), h.c (p6, v6) (by simp), h.c (p7, v7) (by simp), h.c (p8, v8) (by simp), h.c (p9, v9) (by simp), h.c (p10, v10) (by simp), h.c (p11, v11) (by simp), h.s, h⟩

/-- A sheet's variable of the call's own, not written yet, lies at block g. -/
structure NewH (W : World) (g : Nat) : Prop where
  c0 : W.cell? ⟨g, 0, none⟩ = some (.int .i64 0)
  c1 : W.cell? ⟨g, 1, none⟩ = some (.int .i64 0)
  c2 : W.cell? ⟨g, 2, none⟩ = some (.slice none 0 0)
  f : ∀ i, W.frozen? ⟨g, i, none⟩ = false
  l : g < W.heap.size
theorem NewH.here (W : World) (t : TypeId) : NewH (W.alloc (.cells #[.int .i64 0, .int .i64 0, .slice none 0 0] t)) W.heap.size := by
  refine ⟨?_, ?_, ?_, fun i => ?_, by simp⟩ <;> simp [go_sem]
theorem NewH.go {W w' : World} {g : Nat} (h : NewH W g) (hB : Below W.heap.size W w') : NewH w' g ∧ g < W.heap.size := ⟨⟨(hB.cell h.l).trans h.c0, (hB.cell h.l).trans h.c1, (hB.cell h.l).trans h.c2, fun i => (hB.frozen h.l).trans (h.f i), Nat.lt_of_lt_of_le h.l hB.size⟩, h.l⟩
theorem NewH.born {W w' : World} {t : TypeId} (hB : Below (W.alloc (.cells #[.int .i64 0, .int .i64 0, .slice none 0 0] t)).heap.size (W.alloc (.cells #[.int .i64 0, .int .i64 0, .slice none 0 0] t)) w') : NewH w' W.heap.size ∧ W.heap.size < (W.alloc (.cells #[.int .i64 0, .int .i64 0, .slice none 0 0] t)).heap.size := (NewH.here W t).go hB
theorem NewH.bornD {W w' : World} {t : TypeId} (hB : Below (W.alloc (.cells #[.int .i64 0, .int .i64 0, .slice none 0 0] t)).drew.heap.size (W.alloc (.cells #[.int .i64 0, .int .i64 0, .slice none 0 0] t)).drew w') : NewH w' W.heap.size ∧ W.heap.size < (W.alloc (.cells #[.int .i64 0, .int .i64 0, .slice none 0 0] t)).drew.heap.size := (NewH.here W t).go ((Below.refl _ _).drew.trans hB)
theorem NewH.born4 {w w' : World} {o1 o2 o3 o4 : Obj} {t : TypeId} (hB : Below (((((w.alloc o1).alloc o2).alloc o3).alloc o4).alloc (.cells #[.int .i64 0, .int .i64 0, .slice none 0 0] t)).drew.heap.size (((((w.alloc o1).alloc o2).alloc o3).alloc o4).alloc (.cells #[.int .i64 0, .int .i64 0, .slice none 0 0] t)).drew w') : NewH w' (w.heap.size + 1 + 1 + 1 + 1) ∧ w.heap.size + 1 + 1 + 1 + 1 < (((((w.alloc o1).alloc o2).alloc o3).alloc o4).alloc (.cells #[.int .i64 0, .int .i64 0, .slice none 0 0] t)).drew.heap.size := by
  have h := NewH.bornD hB
  have e : ((((w.alloc o1).alloc o2).alloc o3).alloc o4).heap.size = w.heap.size + 1 + 1 + 1 + 1 := by simp
  rw [e] at h
  exact h
theorem NewH.sh {W : World} {g : Nat} (h : NewH W g) (a b : Int) (v : Value) : Sh3 (((W.setCell ⟨g, 0, none⟩ (.int .i64 a)).setCell ⟨g, 1, none⟩ (.int .i64 b)).setCell ⟨g, 2, none⟩ v) g a b v := by
  obtain ⟨e0, e1, e2⟩ := set3_read (w := W) (g := g) (v0 := .int .i64 a) (v1 := .int .i64 b) (v2 := v) h.c0 h.c1 h.c2
  exact ⟨e0, e1, e2, by simpa using h.l⟩
/-- The slice's block is another one. -/
def Apart (A : Option Addr) (k : Nat) : Prop := ∀ h, A = some h → k ≠ h.block
theorem OwS.apart {w : World} {B n c k : Nat} {A : Option Addr} (h : OwS w B (.slice A n c) n) (hk : k < B) : Apart A k := by
  intro a ha
  subst ha
  rcases h.h with ⟨h1, _⟩ | ⟨g, cap, cs, hv, hg, _⟩
  · cases h1
  · injection hv with hv; injection hv with hv; rw [hv]; simp; omega
theorem OwS.apart' {w : World} {B n c k : Nat} {A : Option Addr} (h : OwS w B (.slice A n c) n) (hk : w.heap.size ≤ k) : Apart A k := by
  intro a ha
  subst ha
  rcases h.h with ⟨h1, _⟩ | ⟨g, cap, cs, hv, hg, hh, _⟩
  · cases h1
  · injection hv with hv; injection hv with hv; rw [hv]
    have := (Array.getElem?_eq_some_iff.1 hh).1
    simp; omega
theorem RdS.seta {w : World} {k i : Nat} {A : Option Addr} {v : Value} {xs : List (Nat × Nat × Nat)} (h : RdS w A xs) (hne : Apart A k) : RdS (w.setCell ⟨k, i, none⟩ v) A xs := ⟨fun h0 => by
  obtain ⟨b, off, e, hlt, hc⟩ := h.h h0
  have hkb := hne _ e
  have hn : ∀ o, (⟨k, i, none⟩ : Addr) ≠ ⟨b, o, none⟩ := fun o e => by injection e with e1; exact hkb e1
  refine ⟨b, off, e, by simpa using hlt, fun j hj => ?_⟩
  obtain ⟨c0, c1, c2⟩ := hc j hj
  exact ⟨by rw [World.cell?_setCell_other _ _ _ _ (hn _)]; exact c0, by rw [World.cell?_setCell_other _ _ _ _ (hn _)]; exact c1, by rw [World.cell?_setCell_other _ _ _ _ (hn _)]; exact c2⟩⟩
theorem OwS.seta {w : World} {B n c k i : Nat} {A : Option Addr} {u : Value} (h : OwS w B (.slice A n c) n) (hk : Apart A k) : OwS (w.setCell ⟨k, i, none⟩ u) B (.slice A n c) n := ⟨by
  rcases h.h with h1 | ⟨g, cap, cs, hv, hg, hh, hs⟩
  · exact .inl h1
  · refine .inr ⟨g, cap, cs, hv, hg, ?_, hs⟩
    injection hv with hv
    rw [Below.heap_setCell _ _ _ _ (fun e => hk _ hv e.symm)]
    exact hh⟩
theorem Apart.own {A : Option Addr} {k n c : Nat} (h : Apart A k) : (Value.slice A n c).ownBlock ≠ some k := by
  intro e
  cases A with
  | none => cases e
  | some a => injection e with e; exact h a rfl e.symm
theorem Sh3.same {w w' : World} {g : Nat} {a b : Int} {s : Value} (h : Sh3 w g a b s) (he : w'.heap[g]? = w.heap[g]?) : Sh3 w' g a b s :=
  ⟨(World.cell?_of_block (w := w) (a := ⟨g, 0, none⟩) he).trans h.c0, (World.cell?_of_block (w := w) (a := ⟨g, 1, none⟩) he).trans h.c1, (World.cell?_of_block (w := w) (a := ⟨g, 2, none⟩) he).trans h.c2, by
    have h1 : w.heap[g]? = some (w.heap[g]'h.l) := Array.getElem?_eq_getElem h.l
    rw [h1] at he
    exact (Array.getElem?_eq_some_iff.1 he).1⟩
theorem SK.far {n : Nat} {wc W : World} {L : List (Addr × Value)} (h : SK n wc L wc) (hB : Below n wc W) (hs : n ≤ W.heap.size) : SK n wc L W := ⟨fun p hp => (hB.cell (h.k p hp)).trans (h.c p hp), h.k, hs, hB⟩
theorem SK.here {n : Nat} {wc W : World} {L : List (Addr × Value)} (h : SK n wc L W) : SK W.heap.size W L W := SK.start (Nat.le_refl _) h.c (fun p hp => Nat.lt_of_lt_of_le (h.k p hp) h.s)
/-- What is handed out, read. -/
def outL (ok : Bool) (xs : List (Nat × Nat × Nat)) : List (Nat × Nat × Nat) := if ok then xs else []
def outI (ok : Bool) (a : Int) : Int := if ok then a else 0
theorem ShO.open' {w : World} {B : Nat} {a b a' b' : Int} {xs : List (Nat × Nat × Nat)} {v : Value} {ok : Bool} (h : ShO w B a b xs a' b' v ok) :
    ok = shB a b xs ∧ a' = outI (shB a b xs) a ∧ b' = outI (shB a b xs) b ∧ ∃ A c, v = .slice A (outL (shB a b xs) xs).length c ∧ RdS w A (outL (shB a b xs) xs) ∧ OwS w B v (outL (shB a b xs) xs).length := by
  have hk := h.k
  rw [← hk]
  refine ⟨rfl, ?_⟩
  cases ok
  · obtain ⟨rfl, rfl, rfl⟩ := h.f rfl
    exact ⟨rfl, rfl, none, 0, rfl, ⟨fun h0 => absurd h0 (by simp [outL])⟩, OwS.nilv _ _⟩
  · obtain ⟨rfl, rfl, h3, A, c, h4, h5⟩ := h.t rfl
    exact ⟨rfl, rfl, A, c, h4, h5, h3⟩

/-- What a call hands out. -/
def Out (K : Bool) (a0 b0 : Int) (N : Nat) (Z : List (Nat × Nat × Nat)) (W : World) (e : Ending) (w' : World) : Prop :=
  ∃ A c, e = .returned (.tuple #[.agg #[.int .i64 a0, .int .i64 b0, .slice A N c], .bool K]) ∧ RdS w' A Z ∧ OwS w' W.heap.size (.slice A N c) N ∧ Below W.heap.size W w'

set_option maxRecDepth 100000 in
set_option maxHeartbeats 8000000 in
theorem fnExactCornerSheet_walk (x0 y0 z0 x1 y1 z1 x2 y2 z2 x3 y3 z3 : Nat) (w : World) : Calls Try.prog 10 #[.agg #[.float .f32 x0, .float .f32 y0, .float .f32 z0], .agg #[.float .f32 x1, .float .f32 y1, .float .f32 z1], .agg #[.float .f32 x2, .float .f32 y2, .float .f32 z2], .agg #[.float .f32 x3, .float .f32 y3, .float .f32 z3]] w fun e w' => e = .returned (.bool true) ∧ Below w.heap.size w w' := by
  obtain ⟨K, hK⟩ : ∃ K, K = shB 2 2 [(x0, y0, z0), (x1, y1, z1), (x2, y2, z2), (x3, y3, z3)] := ⟨_, rfl⟩
  obtain ⟨a0, ha0⟩ : ∃ a0, a0 = outI K 2 := ⟨_, rfl⟩
  obtain ⟨Z, hZ⟩ : ∃ Z, Z = outL K [(x0, y0, z0), (x1, y1, z1), (x2, y2, z2), (x3, y3, z3)] := ⟨_, rfl⟩
  obtain ⟨N, hN⟩ : ∃ N, N = Z.length := ⟨_, rfl⟩
  have hN4 : N ≤ 4 := by rw [hN, hZ]; cases K <;> simp [outL]
  have hcs : ∀ W, Calls Try.prog 37 #[.agg #[.float .f32 x0, .float .f32 y0, .float .f32 z0], .agg #[.float .f32 x1, .float .f32 y1, .float .f32 z1], .agg #[.float .f32 x2, .float .f32 y2, .float .f32 z2], .agg #[.float .f32 x3, .float .f32 y3, .float .f32 z3]] W (Out K a0 a0 N Z W) := fun W => (specCornerSheet_calls x0 y0 z0 x1 y1 z1 x2 y2 z2 x3 y3 z3 W).mono (by
    rintro e w' ⟨a', b', v, ok, rfl, hO, hB⟩
    obtain ⟨rfl, rfl, rfl, A, c, rfl, h1, h2⟩ := hO.open'
    rw [hN, hZ, ha0, hK]
    exact ⟨A, c, rfl, h1, h2, hB⟩)
  have hci : ∀ W, Calls Try.prog 38 #[.agg #[.float .f32 x0, .float .f32 y0, .float .f32 z0], .agg #[.float .f32 x1, .float .f32 y1, .float .f32 z1], .agg #[.float .f32 x2, .float .f32 y2, .float .f32 z2], .agg #[.float .f32 x3, .float .f32 y3, .float .f32 z3]] W (Out K a0 a0 N Z W) := fun W => (cornerSheet_calls x0 y0 z0 x1 y1 z1 x2 y2 z2 x3 y3 z3 W).mono (by
    rintro e w' ⟨a', b', v, ok, rfl, hO, hB⟩
    obtain ⟨rfl, rfl, rfl, A, c, rfl, h1, h2⟩ := hO.open'
    rw [hN, hZ, ha0, hK]
    exact ⟨A, c, rfl, h1, h2, hB⟩)
  have HCS := Frame.hid hcs
  have HCI := Frame.hid hci
  have HN := Frame.hid hN
  clear hcs hci hN hZ ha0 hK
  have hST : SK (w.heap.size + 1 + 1 + 1 + 1) ((((w.alloc (.cells #[.float .f32 x0, .float .f32 y0, .float .f32 z0] 24)).alloc (.cells #[.float .f32 x1, .float .f32 y1, .float .f32 z1] 24)).alloc (.cells #[.float .f32 x2, .float .f32 y2, .float .f32 z2] 24)).alloc (.cells #[.float .f32 x3, .float .f32 y3, .float .f32 z3] 24)) [((⟨w.heap.size, 0, none⟩ : Addr), (.float .f32 x0 : Value)), ((⟨w.heap.size, 1, none⟩ : Addr), (.float .f32 y0 : Value)), ((⟨w.heap.size, 2, none⟩ : Addr), (.float .f32 z0 : Value)), ((⟨w.heap.size + 1, 0, none⟩ : Addr), (.float .f32 x1 : Value)), ((⟨w.heap.size + 1, 1, none⟩ : Addr), (.float .f32 y1 : Value)), ((⟨w.heap.size + 1, 2, none⟩ : Addr), (.float .f32 z1 : Value)), ((⟨w.heap.size + 1 + 1, 0, none⟩ : Addr), (.float .f32 x2 : Value)), ((⟨w.heap.size + 1 + 1, 1, none⟩ : Addr), (.float .f32 y2 : Value)), ((⟨w.heap.size + 1 + 1, 2, none⟩ : Addr), (.float .f32 z2 : Value)), ((⟨w.heap.size + 1 + 1 + 1, 0, none⟩ : Addr), (.float .f32 x3 : Value)), ((⟨w.heap.size + 1 + 1 + 1, 1, none⟩ : Addr), (.float .f32 y3 : Value)), ((⟨w.heap.size + 1 + 1 + 1, 2, none⟩ : Addr), (.float .f32 z3 : Value))] ((((w.alloc (.cells #[.float .f32 x0, .float .f32 y0, .float .f32 z0] 24)).alloc (.cells #[.float .f32 x1, .float .f32 y1, .float .f32 z1] 24)).alloc (.cells #[.float .f32 x2, .float .f32 y2, .float .f32 z2] 24)).alloc (.cells #[.float .f32 x3, .float .f32 y3, .float .f32 z3] 24)) := SK.start (by simp) (by intro p hp; simp at hp; rcases hp with rfl | rfl | rfl | rfl | rfl | rfl | rfl | rfl | rfl | rfl | rfl | rfl <;> simp [go_sem]) (by intro p hp; simp at hp; rcases hp with rfl | rfl | rfl | rfl | rfl | rfl | rfl | rfl | rfl | rfl | rfl | rfl <;> (simp; try omega))
  have HW1 := Frame.hid (by (apply bel_of; (repeat (first | apply below_dn | apply below_al)); exact below_st _) : Below w.heap.size w ((((w.alloc (.cells #[.float .f32 x0, .float .f32 y0, .float .f32 z0] 24)).alloc (.cells #[.float .f32 x1, .float .f32 y1, .float .f32 z1] 24)).alloc (.cells #[.float .f32 x2, .float .f32 y2, .float .f32 z2] 24)).alloc (.cells #[.float .f32 x3, .float .f32 y3, .float .f32 z3] 24)))
  go_enter Try.func10, Try.ntmps10
  go_wp2
  go_cut [9, 10] (fun s9 s10 wx => ∃ g A c, s9 = .pointer (some ⟨g, 0, none⟩) ∧ s10 = .bool K ∧ RdS wx A Z ∧ SK (w.heap.size + 1 + 1 + 1 + 1) ((((w.alloc (.cells #[.float .f32 x0, .float .f32 y0, .float .f32 z0] 24)).alloc (.cells #[.float .f32 x1, .float .f32 y1, .float .f32 z1] 24)).alloc (.cells #[.float .f32 x2, .float .f32 y2, .float .f32 z2] 24)).alloc (.cells #[.float .f32 x3, .float .f32 y3, .float .f32 z3] 24)) [((⟨w.heap.size, 0, none⟩ : Addr), (.float .f32 x0 : Value)), ((⟨w.heap.size, 1, none⟩ : Addr), (.float .f32 y0 : Value)), ((⟨w.heap.size, 2, none⟩ : Addr), (.float .f32 z0 : Value)), ((⟨w.heap.size + 1, 0, none⟩ : Addr), (.float .f32 x1 : Value)), ((⟨w.heap.size + 1, 1, none⟩ : Addr), (.float .f32 y1 : Value)), ((⟨w.heap.size + 1, 2, none⟩ : Addr), (.float .f32 z1 : Value)), ((⟨w.heap.size + 1 + 1, 0, none⟩ : Addr), (.float .f32 x2 : Value)), ((⟨w.heap.size + 1 + 1, 1, none⟩ : Addr), (.float .f32 y2 : Value)), ((⟨w.heap.size + 1 + 1, 2, none⟩ : Addr), (.float .f32 z2 : Value)), ((⟨w.heap.size + 1 + 1 + 1, 0, none⟩ : Addr), (.float .f32 x3 : Value)), ((⟨w.heap.size + 1 + 1 + 1, 1, none⟩ : Addr), (.float .f32 y3 : Value)), ((⟨w.heap.size + 1 + 1 + 1, 2, none⟩ : Addr), (.float .f32 z3 : Value))] wx ∧ Sh3 wx g a0 a0 (.slice A N c) ∧ w.heap.size + 1 + 1 + 1 + 1 ≤ g)
  case first =>
    go_region_held3 (fun W => W.cell? ⟨w.heap.size, 0, none⟩ = some (.float .f32 x0) ∧ W.cell? ⟨w.heap.size, 1, none⟩ = some (.float .f32 y0) ∧ W.cell? ⟨w.heap.size, 2, none⟩ = some (.float .f32 z0) ∧ W.cell? ⟨w.heap.size + 1, 0, none⟩ = some (.float .f32 x1) ∧ W.cell? ⟨w.heap.size + 1, 1, none⟩ = some (.float .f32 y1) ∧ W.cell? ⟨w.heap.size + 1, 2, none⟩ = some (.float .f32 z1) ∧ W.cell? ⟨w.heap.size + 1 + 1, 0, none⟩ = some (.float .f32 x2) ∧ W.cell? ⟨w.heap.size + 1 + 1, 1, none⟩ = some (.float .f32 y2) ∧ W.cell? ⟨w.heap.size + 1 + 1, 2, none⟩ = some (.float .f32 z2) ∧ W.cell? ⟨w.heap.size + 1 + 1 + 1, 0, none⟩ = some (.float .f32 x3) ∧ W.cell? ⟨w.heap.size + 1 + 1 + 1, 1, none⟩ = some (.float .f32 y3) ∧ W.cell? ⟨w.heap.size + 1 + 1 + 1, 2, none⟩ = some (.float .f32 z3) ∧ w.heap.size + 1 + 1 + 1 + 1 ≤ W.heap.size ∧ SK (w.heap.size + 1 + 1 + 1 + 1) ((((w.alloc (.cells #[.float .f32 x0, .float .f32 y0, .float .f32 z0] 24)).alloc (.cells #[.float .f32 x1, .float .f32 y1, .float .f32 z1] 24)).alloc (.cells #[.float .f32 x2, .float .f32 y2, .float .f32 z2] 24)).alloc (.cells #[.float .f32 x3, .float .f32 y3, .float .f32 z3] 24)) [((⟨w.heap.size, 0, none⟩ : Addr), (.float .f32 x0 : Value)), ((⟨w.heap.size, 1, none⟩ : Addr), (.float .f32 y0 : Value)), ((⟨w.heap.size, 2, none⟩ : Addr), (.float .f32 z0 : Value)), ((⟨w.heap.size + 1, 0, none⟩ : Addr), (.float .f32 x1 : Value)), ((⟨w.heap.size + 1, 1, none⟩ : Addr), (.float .f32 y1 : Value)), ((⟨w.heap.size + 1, 2, none⟩ : Addr), (.float .f32 z1 : Value)), ((⟨w.heap.size + 1 + 1, 0, none⟩ : Addr), (.float .f32 x2 : Value)), ((⟨w.heap.size + 1 + 1, 1, none⟩ : Addr), (.float .f32 y2 : Value)), ((⟨w.heap.size + 1 + 1, 2, none⟩ : Addr), (.float .f32 z2 : Value)), ((⟨w.heap.size + 1 + 1 + 1, 0, none⟩ : Addr), (.float .f32 x3 : Value)), ((⟨w.heap.size + 1 + 1 + 1, 1, none⟩ : Addr), (.float .f32 y3 : Value)), ((⟨w.heap.size + 1 + 1 + 1, 2, none⟩ : Addr), (.float .f32 z3 : Value))] W) ((refine SK_all12 ?_; (repeat' first | with_reducible assumption | exact SK_of12 (by with_reducible assumption) | exact hST | apply SK.drew | apply SK.drewN | apply SK.alloc | (refine SK.call ?_ (by with_reducible assumption)) | (refine SK.set ?_ _ _ _ (by omega))))) (first | (go_at_call 16; refine (toSpot_calls _ _ _ _).mono ?_; rintro e w' ⟨rfl, hB⟩; have hge := SK.ge (n := w.heap.size + 1 + 1 + 1 + 1) (wc := ((((w.alloc (.cells #[.float .f32 x0, .float .f32 y0, .float .f32 z0] 24)).alloc (.cells #[.float .f32 x1, .float .f32 y1, .float .f32 z1] 24)).alloc (.cells #[.float .f32 x2, .float .f32 y2, .float .f32 z2] 24)).alloc (.cells #[.float .f32 x3, .float .f32 y3, .float .f32 z3] 24))) (L := [((⟨w.heap.size, 0, none⟩ : Addr), (.float .f32 x0 : Value)), ((⟨w.heap.size, 1, none⟩ : Addr), (.float .f32 y0 : Value)), ((⟨w.heap.size, 2, none⟩ : Addr), (.float .f32 z0 : Value)), ((⟨w.heap.size + 1, 0, none⟩ : Addr), (.float .f32 x1 : Value)), ((⟨w.heap.size + 1, 1, none⟩ : Addr), (.float .f32 y1 : Value)), ((⟨w.heap.size + 1, 2, none⟩ : Addr), (.float .f32 z1 : Value)), ((⟨w.heap.size + 1 + 1, 0, none⟩ : Addr), (.float .f32 x2 : Value)), ((⟨w.heap.size + 1 + 1, 1, none⟩ : Addr), (.float .f32 y2 : Value)), ((⟨w.heap.size + 1 + 1, 2, none⟩ : Addr), (.float .f32 z2 : Value)), ((⟨w.heap.size + 1 + 1 + 1, 0, none⟩ : Addr), (.float .f32 x3 : Value)), ((⟨w.heap.size + 1 + 1 + 1, 1, none⟩ : Addr), (.float .f32 y3 : Value)), ((⟨w.heap.size + 1 + 1 + 1, 2, none⟩ : Addr), (.float .f32 z3 : Value))]) (by repeat' first | with_reducible assumption | exact SK_of12 (by with_reducible assumption) | exact hST | apply SK.drew | apply SK.drewN | apply SK.alloc) hB; (try (first | with_reducible have hNN := NewH.born4 hB | with_reducible have hNN := NewH.bornD hB | with_reducible have hNN := NewH.born hB | with_reducible have hNN := NewH.go (by with_reducible assumption) hB)); (try (have hN := hNN.1; have hgl := hNN.2; have hF := hN.f; have hC0 := hN.c0; have hC1 := hN.c1; have hC2 := hN.c2))) | (go_at_call 37; refine (HCS.out _).mono ?_; rintro e w' ⟨A1, c1, rfl, hR1, hO1, hB⟩; have hge := SK.ge (n := w.heap.size + 1 + 1 + 1 + 1) (wc := ((((w.alloc (.cells #[.float .f32 x0, .float .f32 y0, .float .f32 z0] 24)).alloc (.cells #[.float .f32 x1, .float .f32 y1, .float .f32 z1] 24)).alloc (.cells #[.float .f32 x2, .float .f32 y2, .float .f32 z2] 24)).alloc (.cells #[.float .f32 x3, .float .f32 y3, .float .f32 z3] 24))) (L := [((⟨w.heap.size, 0, none⟩ : Addr), (.float .f32 x0 : Value)), ((⟨w.heap.size, 1, none⟩ : Addr), (.float .f32 y0 : Value)), ((⟨w.heap.size, 2, none⟩ : Addr), (.float .f32 z0 : Value)), ((⟨w.heap.size + 1, 0, none⟩ : Addr), (.float .f32 x1 : Value)), ((⟨w.heap.size + 1, 1, none⟩ : Addr), (.float .f32 y1 : Value)), ((⟨w.heap.size + 1, 2, none⟩ : Addr), (.float .f32 z1 : Value)), ((⟨w.heap.size + 1 + 1, 0, none⟩ : Addr), (.float .f32 x2 : Value)), ((⟨w.heap.size + 1 + 1, 1, none⟩ : Addr), (.float .f32 y2 : Value)), ((⟨w.heap.size + 1 + 1, 2, none⟩ : Addr), (.float .f32 z2 : Value)), ((⟨w.heap.size + 1 + 1 + 1, 0, none⟩ : Addr), (.float .f32 x3 : Value)), ((⟨w.heap.size + 1 + 1 + 1, 1, none⟩ : Addr), (.float .f32 y3 : Value)), ((⟨w.heap.size + 1 + 1 + 1, 2, none⟩ : Addr), (.float .f32 z3 : Value))]) (by repeat' first | with_reducible assumption | exact SK_of12 (by with_reducible assumption) | exact hST | apply SK.drew | apply SK.drewN | apply SK.alloc) hB; (try (first | with_reducible have hNN := NewH.born4 hB | with_reducible have hNN := NewH.bornD hB | with_reducible have hNN := NewH.born hB | with_reducible have hNN := NewH.go (by with_reducible assumption) hB)); (try (have hN := hNN.1; have hgl := hNN.2; have hF := hN.f; have hC0 := hN.c0; have hC1 := hN.c1; have hC2 := hN.c2))))
    all_goals
      have hSK : SK (w.heap.size + 1 + 1 + 1 + 1) ((((w.alloc (.cells #[.float .f32 x0, .float .f32 y0, .float .f32 z0] 24)).alloc (.cells #[.float .f32 x1, .float .f32 y1, .float .f32 z1] 24)).alloc (.cells #[.float .f32 x2, .float .f32 y2, .float .f32 z2] 24)).alloc (.cells #[.float .f32 x3, .float .f32 y3, .float .f32 z3] 24)) [((⟨w.heap.size, 0, none⟩ : Addr), (.float .f32 x0 : Value)), ((⟨w.heap.size, 1, none⟩ : Addr), (.float .f32 y0 : Value)), ((⟨w.heap.size, 2, none⟩ : Addr), (.float .f32 z0 : Value)), ((⟨w.heap.size + 1, 0, none⟩ : Addr), (.float .f32 x1 : Value)), ((⟨w.heap.size + 1, 1, none⟩ : Addr), (.float .f32 y1 : Value)), ((⟨w.heap.size + 1, 2, none⟩ : Addr), (.float .f32 z1 : Value)), ((⟨w.heap.size + 1 + 1, 0, none⟩ : Addr), (.float .f32 x2 : Value)), ((⟨w.heap.size + 1 + 1, 1, none⟩ : Addr), (.float .f32 y2 : Value)), ((⟨w.heap.size + 1 + 1, 2, none⟩ : Addr), (.float .f32 z2 : Value)), ((⟨w.heap.size + 1 + 1 + 1, 0, none⟩ : Addr), (.float .f32 x3 : Value)), ((⟨w.heap.size + 1 + 1 + 1, 1, none⟩ : Addr), (.float .f32 y3 : Value)), ((⟨w.heap.size + 1 + 1 + 1, 2, none⟩ : Addr), (.float .f32 z3 : Value))] _ := SK_of12 (by with_reducible assumption)
      go_wp2_with fail
      go_meet
      refine ⟨_, A1, c1, rfl, rfl, ?_, hSK, ?_, ?_⟩
      · first | exact hR1.below ((Below.refl _ _).alloc (Nat.le_refl _) _) | exact ((hR1.seta (hO1.apart hgl)).seta (hO1.apart hgl)).seta (hO1.apart hgl)
      · first | exact Sh3.here _ _ _ _ _ | exact hN.sh _ _ _
      · omega
  case rest =>
    obtain ⟨g, A, c, rfl, rfl, hR, hSK, hA, hg⟩ := hcut
    obtain ⟨w1, hw1⟩ : ∃ w1, w1 = wc := ⟨_, rfl⟩
    subst hw1
    have HR1 := Frame.hid hR
    have HA1 := Frame.hid hA
    have HB1 := Frame.hid (HW1.out.trans (hSK.m.mono (by omega)))
    have hS1 := hSK.here
    have HS1 := Frame.hid hS1
    clear hST
    have hST := hS1
    clear hR hA hSK hS1
    go_wp2
    go_cut [11, 12] (fun s11 s12 wx => ∃ g' A' c', s11 = .pointer (some ⟨g', 0, none⟩) ∧ s12 = .bool K ∧ RdS wx A' Z ∧ OwS wx w1.heap.size (.slice A' N c') N ∧ Apart A' g' ∧ SK w1.heap.size w1 [((⟨w.heap.size, 0, none⟩ : Addr), (.float .f32 x0 : Value)), ((⟨w.heap.size, 1, none⟩ : Addr), (.float .f32 y0 : Value)), ((⟨w.heap.size, 2, none⟩ : Addr), (.float .f32 z0 : Value)), ((⟨w.heap.size + 1, 0, none⟩ : Addr), (.float .f32 x1 : Value)), ((⟨w.heap.size + 1, 1, none⟩ : Addr), (.float .f32 y1 : Value)), ((⟨w.heap.size + 1, 2, none⟩ : Addr), (.float .f32 z1 : Value)), ((⟨w.heap.size + 1 + 1, 0, none⟩ : Addr), (.float .f32 x2 : Value)), ((⟨w.heap.size + 1 + 1, 1, none⟩ : Addr), (.float .f32 y2 : Value)), ((⟨w.heap.size + 1 + 1, 2, none⟩ : Addr), (.float .f32 z2 : Value)), ((⟨w.heap.size + 1 + 1 + 1, 0, none⟩ : Addr), (.float .f32 x3 : Value)), ((⟨w.heap.size + 1 + 1 + 1, 1, none⟩ : Addr), (.float .f32 y3 : Value)), ((⟨w.heap.size + 1 + 1 + 1, 2, none⟩ : Addr), (.float .f32 z3 : Value))] wx ∧ Sh3 wx g' a0 a0 (.slice A' N c') ∧ w1.heap.size ≤ g')
    case first =>
      go_region_held3 (fun W => W.cell? ⟨w.heap.size, 0, none⟩ = some (.float .f32 x0) ∧ W.cell? ⟨w.heap.size, 1, none⟩ = some (.float .f32 y0) ∧ W.cell? ⟨w.heap.size, 2, none⟩ = some (.float .f32 z0) ∧ W.cell? ⟨w.heap.size + 1, 0, none⟩ = some (.float .f32 x1) ∧ W.cell? ⟨w.heap.size + 1, 1, none⟩ = some (.float .f32 y1) ∧ W.cell? ⟨w.heap.size + 1, 2, none⟩ = some (.float .f32 z1) ∧ W.cell? ⟨w.heap.size + 1 + 1, 0, none⟩ = some (.float .f32 x2) ∧ W.cell? ⟨w.heap.size + 1 + 1, 1, none⟩ = some (.float .f32 y2) ∧ W.cell? ⟨w.heap.size + 1 + 1, 2, none⟩ = some (.float .f32 z2) ∧ W.cell? ⟨w.heap.size + 1 + 1 + 1, 0, none⟩ = some (.float .f32 x3) ∧ W.cell? ⟨w.heap.size + 1 + 1 + 1, 1, none⟩ = some (.float .f32 y3) ∧ W.cell? ⟨w.heap.size + 1 + 1 + 1, 2, none⟩ = some (.float .f32 z3) ∧ w1.heap.size ≤ W.heap.size ∧ SK (w1.heap.size) w1 [((⟨w.heap.size, 0, none⟩ : Addr), (.float .f32 x0 : Value)), ((⟨w.heap.size, 1, none⟩ : Addr), (.float .f32 y0 : Value)), ((⟨w.heap.size, 2, none⟩ : Addr), (.float .f32 z0 : Value)), ((⟨w.heap.size + 1, 0, none⟩ : Addr), (.float .f32 x1 : Value)), ((⟨w.heap.size + 1, 1, none⟩ : Addr), (.float .f32 y1 : Value)), ((⟨w.heap.size + 1, 2, none⟩ : Addr), (.float .f32 z1 : Value)), ((⟨w.heap.size + 1 + 1, 0, none⟩ : Addr), (.float .f32 x2 : Value)), ((⟨w.heap.size + 1 + 1, 1, none⟩ : Addr), (.float .f32 y2 : Value)), ((⟨w.heap.size + 1 + 1, 2, none⟩ : Addr), (.float .f32 z2 : Value)), ((⟨w.heap.size + 1 + 1 + 1, 0, none⟩ : Addr), (.float .f32 x3 : Value)), ((⟨w.heap.size + 1 + 1 + 1, 1, none⟩ : Addr), (.float .f32 y3 : Value)), ((⟨w.heap.size + 1 + 1 + 1, 2, none⟩ : Addr), (.float .f32 z3 : Value))] W) ((refine SK_all12 ?_; (repeat' first | with_reducible assumption | exact SK_of12 (by with_reducible assumption) | exact hST | apply SK.drew | apply SK.drewN | apply SK.alloc | (refine SK.call ?_ (by with_reducible assumption)) | (refine SK.set ?_ _ _ _ (by omega))))) (first | (go_at_call 16; refine (toSpot_calls _ _ _ _).mono ?_; rintro e w' ⟨rfl, hB⟩; have hge := SK.ge (n := w1.heap.size) (wc := w1) (L := [((⟨w.heap.size, 0, none⟩ : Addr), (.float .f32 x0 : Value)), ((⟨w.heap.size, 1, none⟩ : Addr), (.float .f32 y0 : Value)), ((⟨w.heap.size, 2, none⟩ : Addr), (.float .f32 z0 : Value)), ((⟨w.heap.size + 1, 0, none⟩ : Addr), (.float .f32 x1 : Value)), ((⟨w.heap.size + 1, 1, none⟩ : Addr), (.float .f32 y1 : Value)), ((⟨w.heap.size + 1, 2, none⟩ : Addr), (.float .f32 z1 : Value)), ((⟨w.heap.size + 1 + 1, 0, none⟩ : Addr), (.float .f32 x2 : Value)), ((⟨w.heap.size + 1 + 1, 1, none⟩ : Addr), (.float .f32 y2 : Value)), ((⟨w.heap.size + 1 + 1, 2, none⟩ : Addr), (.float .f32 z2 : Value)), ((⟨w.heap.size + 1 + 1 + 1, 0, none⟩ : Addr), (.float .f32 x3 : Value)), ((⟨w.heap.size + 1 + 1 + 1, 1, none⟩ : Addr), (.float .f32 y3 : Value)), ((⟨w.heap.size + 1 + 1 + 1, 2, none⟩ : Addr), (.float .f32 z3 : Value))]) (by repeat' first | with_reducible assumption | exact SK_of12 (by with_reducible assumption) | exact hST | apply SK.drew | apply SK.drewN | apply SK.alloc) hB; (try (first | with_reducible have hNN := NewH.born4 hB | with_reducible have hNN := NewH.bornD hB | with_reducible have hNN := NewH.born hB | with_reducible have hNN := NewH.go (by with_reducible assumption) hB)); (try (have hN := hNN.1; have hgl := hNN.2; have hF := hN.f; have hC0 := hN.c0; have hC1 := hN.c1; have hC2 := hN.c2))) | (go_at_call 38; refine (HCI.out _).mono ?_; rintro e w' ⟨A1, c1, rfl, hR1, hO1, hB⟩; have hge := SK.ge (n := w1.heap.size) (wc := w1) (L := [((⟨w.heap.size, 0, none⟩ : Addr), (.float .f32 x0 : Value)), ((⟨w.heap.size, 1, none⟩ : Addr), (.float .f32 y0 : Value)), ((⟨w.heap.size, 2, none⟩ : Addr), (.float .f32 z0 : Value)), ((⟨w.heap.size + 1, 0, none⟩ : Addr), (.float .f32 x1 : Value)), ((⟨w.heap.size + 1, 1, none⟩ : Addr), (.float .f32 y1 : Value)), ((⟨w.heap.size + 1, 2, none⟩ : Addr), (.float .f32 z1 : Value)), ((⟨w.heap.size + 1 + 1, 0, none⟩ : Addr), (.float .f32 x2 : Value)), ((⟨w.heap.size + 1 + 1, 1, none⟩ : Addr), (.float .f32 y2 : Value)), ((⟨w.heap.size + 1 + 1, 2, none⟩ : Addr), (.float .f32 z2 : Value)), ((⟨w.heap.size + 1 + 1 + 1, 0, none⟩ : Addr), (.float .f32 x3 : Value)), ((⟨w.heap.size + 1 + 1 + 1, 1, none⟩ : Addr), (.float .f32 y3 : Value)), ((⟨w.heap.size + 1 + 1 + 1, 2, none⟩ : Addr), (.float .f32 z3 : Value))]) (by repeat' first | with_reducible assumption | exact SK_of12 (by with_reducible assumption) | exact hST | apply SK.drew | apply SK.drewN | apply SK.alloc) hB; (try (first | with_reducible have hNN := NewH.born4 hB | with_reducible have hNN := NewH.bornD hB | with_reducible have hNN := NewH.born hB | with_reducible have hNN := NewH.go (by with_reducible assumption) hB)); (try (have hN := hNN.1; have hgl := hNN.2; have hF := hN.f; have hC0 := hN.c0; have hC1 := hN.c1; have hC2 := hN.c2))))
      all_goals
        have hSK : SK w1.heap.size w1 [((⟨w.heap.size, 0, none⟩ : Addr), (.float .f32 x0 : Value)), ((⟨w.heap.size, 1, none⟩ : Addr), (.float .f32 y0 : Value)), ((⟨w.heap.size, 2, none⟩ : Addr), (.float .f32 z0 : Value)), ((⟨w.heap.size + 1, 0, none⟩ : Addr), (.float .f32 x1 : Value)), ((⟨w.heap.size + 1, 1, none⟩ : Addr), (.float .f32 y1 : Value)), ((⟨w.heap.size + 1, 2, none⟩ : Addr), (.float .f32 z1 : Value)), ((⟨w.heap.size + 1 + 1, 0, none⟩ : Addr), (.float .f32 x2 : Value)), ((⟨w.heap.size + 1 + 1, 1, none⟩ : Addr), (.float .f32 y2 : Value)), ((⟨w.heap.size + 1 + 1, 2, none⟩ : Addr), (.float .f32 z2 : Value)), ((⟨w.heap.size + 1 + 1 + 1, 0, none⟩ : Addr), (.float .f32 x3 : Value)), ((⟨w.heap.size + 1 + 1 + 1, 1, none⟩ : Addr), (.float .f32 y3 : Value)), ((⟨w.heap.size + 1 + 1 + 1, 2, none⟩ : Addr), (.float .f32 z3 : Value))] _ := SK_of12 (by with_reducible assumption)
        go_wp2_with fail
        go_meet
        refine ⟨_, A1, c1, rfl, rfl, ?_, ?_, ?_, hSK, ?_, ?_⟩
        · first | exact hR1.below ((Below.refl _ _).alloc (Nat.le_refl _) _) | exact ((hR1.seta (hO1.apart hgl)).seta (hO1.apart hgl)).seta (hO1.apart hgl)
        · first | exact (hO1.below ((Below.refl _ _).alloc (Nat.le_refl _) _)).mono (by (try simp); omega) | exact (((hO1.seta (hO1.apart hgl)).seta (hO1.apart hgl)).seta (hO1.apart hgl)).mono (by (try simp); omega)
        · first | exact hO1.apart' (Nat.le_refl _) | exact hO1.apart hgl
        · first | exact Sh3.here _ _ _ _ _ | exact hN.sh _ _ _
        · omega
    case rest =>
      obtain ⟨g', A', c', rfl, rfl, hR', hO', hAp, hSK2, hA', hg'⟩ := hcut
      obtain ⟨w2, hw2⟩ : ∃ w2, w2 = wc := ⟨_, rfl⟩
      subst hw2
      have HAp := Frame.hid hAp
      have HC2 := Frame.hid hSK2.m
      have hs2 := hSK2.s
      have HA2 := Frame.hid (HA1.out.below hSK2.m)
      have HO2 := Frame.hid hO'
      have HR2 := Frame.hid hR'
      have HG2 := Frame.hid hA'
      have k0 := HA2.out.c0
      have k1 := HA2.out.c1
      have k2 := HA2.out.c2
      have j0 := HG2.out.c0
      have j1 := HG2.out.c1
      have j2 := HG2.out.c2
      clear hR' hO' hAp hSK2 hA' hST
      go_wp2_with fail
      refine (eqSheet_calls A' A Z Z a0 a0 c' c N HN.out w2 (by omega) HR2.out (HR1.out.below HC2.out) (LS.refl _)).mono ?_
      rintro e w3 ⟨rfl, hB3⟩
      have HC3 := Frame.hid (HC2.out.trans (hB3.mono hs2))
      have hs3 : w1.heap.size ≤ w3.heap.size := HC3.out.size
      have HG3 := Frame.hid (HG2.out.below hB3)
      have HO3 := Frame.hid (HO2.out.below hB3)
      clear hB3 k0 k1 k2 j0 j1 j2
      have j0 := HG3.out.c0
      have j1 := HG3.out.c1
      have j2 := HG3.out.c2
      go_wp2_with fail
      refine (markSheet_calls w1.heap.size N a0 a0 (.slice A' N c') (by omega) w3 HO3.out hs3).mono ?_
      rintro e w4 ⟨rfl, hM4, hB4, hF4⟩
      have HC4 := Frame.hid (HC3.out.trans hB4)
      have hs4 : w1.heap.size ≤ w4.heap.size := HC4.out.size
      have HG4 := Frame.hid (HG3.out.same (hF4 g' HG3.out.l HAp.out.own))
      have HM4 := Frame.hid hM4
      clear hM4 hB4 hF4 j0 j1 j2
      have j0 := HG4.out.c0
      have j1 := HG4.out.c1
      have j2 := HG4.out.c2
      go_wp2_with fail
      refine (heldSheet_calls w1.heap.size N a0 a0 (.slice A' N c') (by omega) w4 HM4.out).mono ?_
      rintro e w5 ⟨rfl, hB5⟩
      have HC5 := Frame.hid (HC4.out.trans (hB5.mono hs4))
      have hs5 : w1.heap.size ≤ w5.heap.size := HC5.out.size
      have HG5 := Frame.hid (HG4.out.below hB5)
      have HM5 := Frame.hid (HM4.out.below hB5)
      clear hB5 j0 j1 j2
      have hST : SK w5.heap.size w5 [((⟨w.heap.size, 0, none⟩ : Addr), (.float .f32 x0 : Value)), ((⟨w.heap.size, 1, none⟩ : Addr), (.float .f32 y0 : Value)), ((⟨w.heap.size, 2, none⟩ : Addr), (.float .f32 z0 : Value)), ((⟨w.heap.size + 1, 0, none⟩ : Addr), (.float .f32 x1 : Value)), ((⟨w.heap.size + 1, 1, none⟩ : Addr), (.float .f32 y1 : Value)), ((⟨w.heap.size + 1, 2, none⟩ : Addr), (.float .f32 z1 : Value)), ((⟨w.heap.size + 1 + 1, 0, none⟩ : Addr), (.float .f32 x2 : Value)), ((⟨w.heap.size + 1 + 1, 1, none⟩ : Addr), (.float .f32 y2 : Value)), ((⟨w.heap.size + 1 + 1, 2, none⟩ : Addr), (.float .f32 z2 : Value)), ((⟨w.heap.size + 1 + 1 + 1, 0, none⟩ : Addr), (.float .f32 x3 : Value)), ((⟨w.heap.size + 1 + 1 + 1, 1, none⟩ : Addr), (.float .f32 y3 : Value)), ((⟨w.heap.size + 1 + 1 + 1, 2, none⟩ : Addr), (.float .f32 z3 : Value))] w5 := (HS1.out.far HC5.out hs5).here
      go_wp2_with fail
      go_cut [15, 16] (fun s15 s16 wx => ∃ g3 A3 c3, s15 = .pointer (some ⟨g3, 0, none⟩) ∧ s16 = .bool K ∧ RdS wx A3 Z ∧ SK w5.heap.size w5 [((⟨w.heap.size, 0, none⟩ : Addr), (.float .f32 x0 : Value)), ((⟨w.heap.size, 1, none⟩ : Addr), (.float .f32 y0 : Value)), ((⟨w.heap.size, 2, none⟩ : Addr), (.float .f32 z0 : Value)), ((⟨w.heap.size + 1, 0, none⟩ : Addr), (.float .f32 x1 : Value)), ((⟨w.heap.size + 1, 1, none⟩ : Addr), (.float .f32 y1 : Value)), ((⟨w.heap.size + 1, 2, none⟩ : Addr), (.float .f32 z1 : Value)), ((⟨w.heap.size + 1 + 1, 0, none⟩ : Addr), (.float .f32 x2 : Value)), ((⟨w.heap.size + 1 + 1, 1, none⟩ : Addr), (.float .f32 y2 : Value)), ((⟨w.heap.size + 1 + 1, 2, none⟩ : Addr), (.float .f32 z2 : Value)), ((⟨w.heap.size + 1 + 1 + 1, 0, none⟩ : Addr), (.float .f32 x3 : Value)), ((⟨w.heap.size + 1 + 1 + 1, 1, none⟩ : Addr), (.float .f32 y3 : Value)), ((⟨w.heap.size + 1 + 1 + 1, 2, none⟩ : Addr), (.float .f32 z3 : Value))] wx ∧ Sh3 wx g3 a0 a0 (.slice A3 N c3) ∧ w5.heap.size ≤ g3)
      case first =>
        go_region_held3 (fun W => W.cell? ⟨w.heap.size, 0, none⟩ = some (.float .f32 x0) ∧ W.cell? ⟨w.heap.size, 1, none⟩ = some (.float .f32 y0) ∧ W.cell? ⟨w.heap.size, 2, none⟩ = some (.float .f32 z0) ∧ W.cell? ⟨w.heap.size + 1, 0, none⟩ = some (.float .f32 x1) ∧ W.cell? ⟨w.heap.size + 1, 1, none⟩ = some (.float .f32 y1) ∧ W.cell? ⟨w.heap.size + 1, 2, none⟩ = some (.float .f32 z1) ∧ W.cell? ⟨w.heap.size + 1 + 1, 0, none⟩ = some (.float .f32 x2) ∧ W.cell? ⟨w.heap.size + 1 + 1, 1, none⟩ = some (.float .f32 y2) ∧ W.cell? ⟨w.heap.size + 1 + 1, 2, none⟩ = some (.float .f32 z2) ∧ W.cell? ⟨w.heap.size + 1 + 1 + 1, 0, none⟩ = some (.float .f32 x3) ∧ W.cell? ⟨w.heap.size + 1 + 1 + 1, 1, none⟩ = some (.float .f32 y3) ∧ W.cell? ⟨w.heap.size + 1 + 1 + 1, 2, none⟩ = some (.float .f32 z3) ∧ w5.heap.size ≤ W.heap.size ∧ SK (w5.heap.size) w5 [((⟨w.heap.size, 0, none⟩ : Addr), (.float .f32 x0 : Value)), ((⟨w.heap.size, 1, none⟩ : Addr), (.float .f32 y0 : Value)), ((⟨w.heap.size, 2, none⟩ : Addr), (.float .f32 z0 : Value)), ((⟨w.heap.size + 1, 0, none⟩ : Addr), (.float .f32 x1 : Value)), ((⟨w.heap.size + 1, 1, none⟩ : Addr), (.float .f32 y1 : Value)), ((⟨w.heap.size + 1, 2, none⟩ : Addr), (.float .f32 z1 : Value)), ((⟨w.heap.size + 1 + 1, 0, none⟩ : Addr), (.float .f32 x2 : Value)), ((⟨w.heap.size + 1 + 1, 1, none⟩ : Addr), (.float .f32 y2 : Value)), ((⟨w.heap.size + 1 + 1, 2, none⟩ : Addr), (.float .f32 z2 : Value)), ((⟨w.heap.size + 1 + 1 + 1, 0, none⟩ : Addr), (.float .f32 x3 : Value)), ((⟨w.heap.size + 1 + 1 + 1, 1, none⟩ : Addr), (.float .f32 y3 : Value)), ((⟨w.heap.size + 1 + 1 + 1, 2, none⟩ : Addr), (.float .f32 z3 : Value))] W) ((refine SK_all12 ?_; (repeat' first | with_reducible assumption | exact SK_of12 (by with_reducible assumption) | exact hST | apply SK.drew | apply SK.drewN | apply SK.alloc | (refine SK.call ?_ (by with_reducible assumption)) | (refine SK.set ?_ _ _ _ (by omega))))) (first | (go_at_call 16; refine (toSpot_calls _ _ _ _).mono ?_; rintro e w' ⟨rfl, hB⟩; have hge := SK.ge (n := w5.heap.size) (wc := w5) (L := [((⟨w.heap.size, 0, none⟩ : Addr), (.float .f32 x0 : Value)), ((⟨w.heap.size, 1, none⟩ : Addr), (.float .f32 y0 : Value)), ((⟨w.heap.size, 2, none⟩ : Addr), (.float .f32 z0 : Value)), ((⟨w.heap.size + 1, 0, none⟩ : Addr), (.float .f32 x1 : Value)), ((⟨w.heap.size + 1, 1, none⟩ : Addr), (.float .f32 y1 : Value)), ((⟨w.heap.size + 1, 2, none⟩ : Addr), (.float .f32 z1 : Value)), ((⟨w.heap.size + 1 + 1, 0, none⟩ : Addr), (.float .f32 x2 : Value)), ((⟨w.heap.size + 1 + 1, 1, none⟩ : Addr), (.float .f32 y2 : Value)), ((⟨w.heap.size + 1 + 1, 2, none⟩ : Addr), (.float .f32 z2 : Value)), ((⟨w.heap.size + 1 + 1 + 1, 0, none⟩ : Addr), (.float .f32 x3 : Value)), ((⟨w.heap.size + 1 + 1 + 1, 1, none⟩ : Addr), (.float .f32 y3 : Value)), ((⟨w.heap.size + 1 + 1 + 1, 2, none⟩ : Addr), (.float .f32 z3 : Value))]) (by repeat' first | with_reducible assumption | exact SK_of12 (by with_reducible assumption) | exact hST | apply SK.drew | apply SK.drewN | apply SK.alloc) hB; (try (first | with_reducible have hNN := NewH.born4 hB | with_reducible have hNN := NewH.bornD hB | with_reducible have hNN := NewH.born hB | with_reducible have hNN := NewH.go (by with_reducible assumption) hB)); (try (have hN := hNN.1; have hgl := hNN.2; have hF := hN.f; have hC0 := hN.c0; have hC1 := hN.c1; have hC2 := hN.c2))) | (go_at_call 38; refine (HCI.out _).mono ?_; rintro e w' ⟨A1, c1, rfl, hR1, hO1, hB⟩; have hge := SK.ge (n := w5.heap.size) (wc := w5) (L := [((⟨w.heap.size, 0, none⟩ : Addr), (.float .f32 x0 : Value)), ((⟨w.heap.size, 1, none⟩ : Addr), (.float .f32 y0 : Value)), ((⟨w.heap.size, 2, none⟩ : Addr), (.float .f32 z0 : Value)), ((⟨w.heap.size + 1, 0, none⟩ : Addr), (.float .f32 x1 : Value)), ((⟨w.heap.size + 1, 1, none⟩ : Addr), (.float .f32 y1 : Value)), ((⟨w.heap.size + 1, 2, none⟩ : Addr), (.float .f32 z1 : Value)), ((⟨w.heap.size + 1 + 1, 0, none⟩ : Addr), (.float .f32 x2 : Value)), ((⟨w.heap.size + 1 + 1, 1, none⟩ : Addr), (.float .f32 y2 : Value)), ((⟨w.heap.size + 1 + 1, 2, none⟩ : Addr), (.float .f32 z2 : Value)), ((⟨w.heap.size + 1 + 1 + 1, 0, none⟩ : Addr), (.float .f32 x3 : Value)), ((⟨w.heap.size + 1 + 1 + 1, 1, none⟩ : Addr), (.float .f32 y3 : Value)), ((⟨w.heap.size + 1 + 1 + 1, 2, none⟩ : Addr), (.float .f32 z3 : Value))]) (by repeat' first | with_reducible assumption | exact SK_of12 (by with_reducible assumption) | exact hST | apply SK.drew | apply SK.drewN | apply SK.alloc) hB; (try (first | with_reducible have hNN := NewH.born4 hB | with_reducible have hNN := NewH.bornD hB | with_reducible have hNN := NewH.born hB | with_reducible have hNN := NewH.go (by with_reducible assumption) hB)); (try (have hN := hNN.1; have hgl := hNN.2; have hF := hN.f; have hC0 := hN.c0; have hC1 := hN.c1; have hC2 := hN.c2))))
        all_goals
          have hSK : SK w5.heap.size w5 [((⟨w.heap.size, 0, none⟩ : Addr), (.float .f32 x0 : Value)), ((⟨w.heap.size, 1, none⟩ : Addr), (.float .f32 y0 : Value)), ((⟨w.heap.size, 2, none⟩ : Addr), (.float .f32 z0 : Value)), ((⟨w.heap.size + 1, 0, none⟩ : Addr), (.float .f32 x1 : Value)), ((⟨w.heap.size + 1, 1, none⟩ : Addr), (.float .f32 y1 : Value)), ((⟨w.heap.size + 1, 2, none⟩ : Addr), (.float .f32 z1 : Value)), ((⟨w.heap.size + 1 + 1, 0, none⟩ : Addr), (.float .f32 x2 : Value)), ((⟨w.heap.size + 1 + 1, 1, none⟩ : Addr), (.float .f32 y2 : Value)), ((⟨w.heap.size + 1 + 1, 2, none⟩ : Addr), (.float .f32 z2 : Value)), ((⟨w.heap.size + 1 + 1 + 1, 0, none⟩ : Addr), (.float .f32 x3 : Value)), ((⟨w.heap.size + 1 + 1 + 1, 1, none⟩ : Addr), (.float .f32 y3 : Value)), ((⟨w.heap.size + 1 + 1 + 1, 2, none⟩ : Addr), (.float .f32 z3 : Value))] _ := SK_of12 (by with_reducible assumption)
          go_wp2_with fail
          go_meet
          refine ⟨_, A1, c1, rfl, rfl, ?_, hSK, ?_, ?_⟩
          · first | exact hR1.below ((Below.refl _ _).alloc (Nat.le_refl _) _) | exact ((hR1.seta (hO1.apart hgl)).seta (hO1.apart hgl)).seta (hO1.apart hgl)
          · first | exact Sh3.here _ _ _ _ _ | exact hN.sh _ _ _
          · omega
      case rest =>
        obtain ⟨g3, A3, c3, rfl, rfl, hR3, hSK3, hA3, hg3⟩ := hcut
        obtain ⟨w6, hw6⟩ : ∃ w6, w6 = wc := ⟨_, rfl⟩
        subst hw6
        have HC6 := Frame.hid (HC5.out.trans (hSK3.m.mono hs5))
        have hs6 : w1.heap.size ≤ w6.heap.size := HC6.out.size
        have HG6 := Frame.hid (HG5.out.below hSK3.m)
        have HM6 := Frame.hid (HM5.out.below hSK3.m)
        have HR6 := Frame.hid hR3
        have k0 := (HA1.out.below HC6.out).c0
        have k1 := (HA1.out.below HC6.out).c1
        have k2 := (HA1.out.below HC6.out).c2
        have j0 := hA3.c0
        have j1 := hA3.c1
        have j2 := hA3.c2
        clear hR3 hSK3 hA3 hST
        go_wp2_with fail
        refine (eqSheet_calls A3 A Z Z a0 a0 c3 c N HN.out w6 (by omega) HR6.out (HR1.out.below HC6.out) (LS.refl _)).mono ?_
        rintro e w7 ⟨rfl, hB7⟩
        have HG7 := Frame.hid (HG6.out.below hB7)
        have HM7 := Frame.hid (HM6.out.below hB7)
        have HC7 := Frame.hid (HC6.out.trans (hB7.mono hs6))
        have hs7 : w1.heap.size ≤ w7.heap.size := HC7.out.size
        clear hB7 k0 k1 k2 j0 j1 j2
        have j0 := HG7.out.c0
        have j1 := HG7.out.c1
        have j2 := HG7.out.c2
        go_wp2_with fail
        refine (heldSheet_calls w1.heap.size N a0 a0 (.slice A' N c') (by omega) w7 HM7.out).mono ?_
        rintro e w8 ⟨rfl, hB8⟩
        have HC8 := Frame.hid (HB1.out.trans ((HC7.out.trans (hB8.mono hs7)).mono HB1.out.size))
        clear hB8 j0 j1 j2
        go_wp2_with fail
        go_ret
        exact ⟨rfl, HC8.out⟩

end Go.Proofs.Ytoldefcajampcaa
