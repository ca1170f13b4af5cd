/-
  FlipSheet, the specification's side: the sheet with rows and columns exchanged.
-/
import Derived.Test.YtohbanchaggnmaaK8
import Derived.Test.YtohbanchaggnmaaG5
import Derived.Deep.AppendLies
import Derived.Deep.QuietTactic
import Derived.BigQuiet
namespace Go.Proofs.Ytohbanchaggnmaa
open Go.RowKit Fl Go.WideShapes Go.Deep
attribute [local go_sem] kstore_f kalloc_drewN kset_drewN hstore_i hstore_s

theorem Sh3.far {w w' : World} {g B : Nat} {a b : Int} {s : Value} (h : Sh3 w g a b s) (hB : Below B w w') (hg : g < B) : Sh3 w' g a b s := ⟨(hB.cell hg).trans h.c0, (hB.cell hg).trans h.c1, (hB.cell hg).trans h.c2, Nat.lt_of_lt_of_le h.l hB.size⟩
theorem Sh3.putOther {w : World} {g k i : Nat} {a b : Int} {s u : Value} (h : Sh3 w g a b s) (hk : k ≠ g) : Sh3 (w.setCell ⟨k, i, none⟩ u) g a b s := by
  refine ⟨?_, ?_, ?_, by simpa using h.l⟩
  all_goals rw [World.cell?_setCell_other _ _ _ _ (by intro e; injection e with e1; exact hk e1)]
  · exact h.c0
  · exact h.c1
  · exact h.c2
theorem Sh3.putLast {w : World} {g : Nat} {a b : Int} {s : Value} (h : Sh3 w g a b s) (u : Value) : Sh3 (w.setCell ⟨g, 2, none⟩ u) g a b u := by
  refine ⟨?_, ?_, World.cell?_setCell_same' _ _ _ (by rw [h.c2]; rfl), by simpa using h.l⟩
  · rw [World.cell?_setCell_other _ _ _ _ (by simp)]; exact h.c0
  · rw [World.cell?_setCell_other _ _ _ _ (by simp)]; exact h.c1

/-- The spots of a sheet with rows and columns exchanged. -/
def flipL (p q : Nat) (xs : List (Nat × Nat × Nat)) : List (Nat × Nat × Nat) := (List.range (p * q)).map fun k => (sx xs (k % q * p + k / q), sy xs (k % q * p + k / q), sz xs (k % q * p + k / q))
theorem flipL_len (p q : Nat) (xs : List (Nat × Nat × Nat)) : (flipL p q xs).length = p * q := by simp [flipL]
theorem flipL_next (p q : Nat) (xs : List (Nat × Nat × Nat)) (k : Nat) (hk : k < p * q) : (flipL p q xs).take (k + 1) = (flipL p q xs).take k ++ [(sx xs (k % q * p + k / q), sy xs (k % q * p + k / q), sz xs (k % q * p + k / q))] := by
  rw [List.take_succ_eq_append_getElem (by rw [flipL_len]; exact hk)]
  congr 2
  simp [flipL]
theorem flip_at {p q k : Nat} (hq : 0 < q) (hk : k < p * q) : k % q * p + k / q < p * q := by
  have h1 : k % q < q := Nat.mod_lt _ hq
  have h2 : k / q < p := (Nat.div_lt_iff_lt_mul hq).2 hk
  have h3 : k % q * p ≤ (q - 1) * p := Nat.mul_le_mul_right p (by omega)
  have h4 : (q - 1) * p + p = q * p := by rw [← Nat.succ_mul]; congr 1; omega
  rw [Nat.mul_comm p q]
  omega

theorem OwnedS.kept {w W : World} {B : Nat} {v : Value} {xs : List (Nat × Nat × Nat)} (h : OwnedS w B v xs) (hB : Below w.heap.size w W) : OwnedS W B v xs :=
  ⟨h.1, h.2.imp id fun ⟨g, cap, cur, h1, h2, h3, h4⟩ => ⟨g, cap, cur, h1, h2, (by rw [hB.block g (Array.getElem?_eq_some_iff.1 h3).1]; exact h3), h4⟩⟩
theorem OwnedS.drewN' {w : World} {B : Nat} {v : Value} {xs : List (Nat × Nat × Nat)} (h : OwnedS w B v xs) (m : Nat) : OwnedS (w.drewN m) B v xs := h.kept (below_drewN (Below.refl _ _) m)
theorem OwnedS.nil (w : World) (B : Nat) : OwnedS w B (.slice none 0 0) [] := ⟨rfl, .inl ⟨rfl, rfl⟩⟩

theorem OwnedS.drew' {w : World} {B : Nat} {v : Value} {xs : List (Nat × Nat × Nat)} (h : OwnedS w B v xs) : OwnedS w.drew B v xs := h.kept (Below.refl _ _).drew
theorem OwnedS.alloc' {w : World} {B : Nat} {v : Value} {xs : List (Nat × Nat × Nat)} (h : OwnedS w B v xs) (o : Obj) : OwnedS (w.alloc o) B v xs := h.kept ((Below.refl _ _).alloc (Nat.le_refl _) o)
theorem news3 (w : World) (x y z m : Nat) (t : TypeId) : ∀ j u, (cellsS [(x, y, z)])[j]? = some u → ((w.alloc (.cells #[.float .f32 x, .float .f32 y, .float .f32 z] t)).drewN m).cell? ((⟨w.heap.size, 0, none⟩ : Addr).add j) = some u := by
  intro j u h
  rw [add_plain, Nat.zero_add]
  show (w.alloc _).cell? _ = _
  rw [World.cell?_alloc_new]
  simpa [cellsS] using h
theorem news3' (w : World) (x y z : Nat) (t : TypeId) : ∀ j u, (cellsS [(x, y, z)])[j]? = some u → (w.alloc (.cells #[.float .f32 x, .float .f32 y, .float .f32 z] t)).cell? ((⟨w.heap.size, 0, none⟩ : Addr).add j) = some u := news3 w x y z 0 t
theorem ownsRow_drewN {w : World} {base : Nat} {e : TypeId} {size : Nat} {v : Value} {n : Nat} {xs : List Value} (h : w.ownsRow base e size v n xs) (m : Nat) : (w.drewN m).ownsRow base e size v n xs := h
theorem SK.beyond {n : Nat} {wc W W' : World} {L : List (Addr × Value)} (h : SK n wc L W) (hB : Below n W W') : SK n wc L W' := ⟨fun p hp => (hB.cell (h.k p hp)).trans (h.c p hp), h.k, Nat.le_trans h.s hB.size, h.m.trans hB⟩

/-- What lies in memory while spots are put behind one another. -/
structure FillAt (w : World) (g0 : Nat) (a b : Int) (v : Value) (zs : List (Nat × Nat × Nat)) (wr : World) : Prop where
  sh : Sh3 wr g0 a b v
  own : OwnedS wr (g0 + 1) v zs
  lo : w.heap.size < g0
  bel : Below w.heap.size w wr
  fr : ∀ i, wr.frozen? ⟨g0, i, none⟩ = false
  rs : Sh3 wr w.heap.size 0 0 (.slice none 0 0)
  rf : ∀ i, wr.frozen? ⟨w.heap.size, i, none⟩ = false

theorem SK_of7 {n : Nat} {wc W : World} {p0 p1 p2 p3 p4 p5 p6 : Addr} {v0 v1 v2 v3 v4 v5 v6 : Value} (h : W.cell? p0 = some v0 ∧ W.cell? p1 = some v1 ∧ W.cell? p2 = some v2 ∧ W.cell? p3 = some v3 ∧ W.cell? p4 = some v4 ∧ W.cell? p5 = some v5 ∧ W.cell? p6 = some v6 ∧ n ≤ W.heap.size ∧ SK n wc [(p0, v0), (p1, v1), (p2, v2), (p3, v3), (p4, v4), (p5, v5), (p6, v6)] W) : SK n wc [(p0, v0), (p1, v1), (p2, v2), (p3, v3), (p4, v4), (p5, v5), (p6, v6)] W := h.2.2.2.2.2.2.2.2
theorem SK_all7 {n : Nat} {wc W : World} {p0 p1 p2 p3 p4 p5 p6 : Addr} {v0 v1 v2 v3 v4 v5 v6 : Value} (h : SK n wc [(p0, v0), (p1, v1), (p2, v2), (p3, v3), (p4, v4), (p5, v5), (p6, v6)] W) : W.cell? p0 = some v0 ∧ W.cell? p1 = some v1 ∧ W.cell? p2 = some v2 ∧ W.cell? p3 = some v3 ∧ W.cell? p4 = some v4 ∧ W.cell? p5 = some v5 ∧ W.cell? p6 = some v6 ∧ n ≤ W.heap.size ∧ SK n wc [(p0, v0), (p1, v1), (p2, v2), (p3, v3), (p4, v4), (p5, v5), (p6, v6)] W :=
  ⟨h.c (p0, v0) (by simp), h.c (p1, v1) (by simp), h.c (p2, v2) (by simp), h.c (p3, v3) (by simp), h.c (p4, v4) (by simp), h.c (p5, v5) (by simp), h.c (p6, v6) (by simp), h.s, h⟩

theorem FillAt.facts {w wr : World} {a b : Int} {v : Value} {zs : List (Nat × Nat × Nat)} (h : FillAt w (w.heap.size + 1) a b v zs wr) : wr.cell? ⟨w.heap.size + 1, 0, none⟩ = some (.int .i64 a) ∧ wr.cell? ⟨w.heap.size + 1, 1, none⟩ = some (.int .i64 b) ∧ wr.cell? ⟨w.heap.size + 1, 2, none⟩ = some v ∧ (∀ i, wr.frozen? ⟨w.heap.size + 1, i, none⟩ = false) ∧ wr.cell? ⟨w.heap.size, 0, none⟩ = some (.int .i64 0) ∧ wr.cell? ⟨w.heap.size, 1, none⟩ = some (.int .i64 0) ∧ wr.cell? ⟨w.heap.size, 2, none⟩ = some (.slice none 0 0) ∧ (∀ i, wr.frozen? ⟨w.heap.size, i, none⟩ = false) ∧ w.heap.size + 1 < wr.heap.size :=
  ⟨h.sh.c0, h.sh.c1, h.sh.c2, h.fr, h.rs.c0, h.rs.c1, h.rs.c2, h.rf, h.sh.l⟩
theorem FillAt.next {w wr w3 : World} {a b : Int} {v : Value} {zs zs' : List (Nat × Nat × Nat)} {p : Nat × Nat × Nat} {L c : Nat} {A : Option Addr} (h : FillAt w (w.heap.size + 1) a b v zs wr) (hB : Below (w.heap.size + 1 + 1) wr w3)
    (ho : w3.ownsRow (w.heap.size + 1 + 1) 28 3 (.slice A (L + 1) c) (L + 1) (cellsS zs ++ cellsS [p])) (hz : zs' = zs ++ [p]) (hL : L = zs.length) : FillAt w (w.heap.size + 1) a b (.slice A (L + 1) c) zs' (w3.setCell ⟨w.heap.size + 1, 2, none⟩ (.slice A (L + 1) c)) := by
  have hl := h.sh.l
  refine ⟨(h.sh.far hB (by omega)).putLast _, ?_, h.lo, (h.bel.trans (hB.mono (by omega))).setCell (p := ⟨w.heap.size + 1, 2, none⟩) (by simp) _, fun i => ?_, (h.rs.far hB (by omega)).putOther (by omega), fun i => ?_⟩
  · have : OwnedS w3 (w.heap.size + 1 + 1) (.slice A (L + 1) c) zs' := by
      unfold OwnedS
      rw [hz, cellsS_append, List.length_append, ← hL]
      exact ho
    exact this.setO (by omega)
  · rw [World.frozen?_setCell]; exact (hB.frozen (p := ⟨w.heap.size + 1, i, none⟩) (by simp)).trans (h.fr i)
  · rw [World.frozen?_setCell]; exact (hB.frozen (p := ⟨w.heap.size, i, none⟩) (by simp; omega)).trans (h.rf i)

set_option maxRecDepth 100000 in
set_option maxHeartbeats 4000000 in
theorem l04Flip_calls (g p q b off c n : Nat) (xs : List (Nat × Nat × Nat)) (hp : 2 ≤ p ∧ p ≤ 6) (hq : 2 ≤ q ∧ q ≤ 6) (hn : n = xs.length) (hl : n = p * q) (w : World) (hS : Sh3 w g p q (.slice (some ⟨b, off, none⟩) n c)) (hA : RdS w (some ⟨b, off, none⟩) xs) :
    Calls Try.prog 129 #[.pointer (some ⟨g, 0, none⟩)] w fun e w' => ∃ v, e = .returned (.agg #[.int .i64 q, .int .i64 p, v]) ∧ OwnedS w' w.heap.size v (flipL p q xs) ∧ Below w.heap.size w w' := by
  obtain ⟨i0, hi, hz0, hz1, hz2⟩ := info_parts infoSpot
  obtain ⟨P, hP⟩ : ∃ P, P = p * q := ⟨_, rfl⟩
  have hP36 : P ≤ 36 := by rw [hP]; exact Nat.mul_le_mul hp.2 hq.2
  have hPi : (p : Int) * (q : Int) = (P : Int) := by rw [hP]; push_cast; rfl
  have hPw : IntKind.i64.wrap ((p : Int) * (q : Int)) = (P : Int) := by rw [hPi, IntKind.wrap_i64]; omega
  have HPI := Frame.hid hPi
  have HPW := Frame.hid hPw
  have HP := Frame.hid hP
  have HX := Frame.hid hn
  have HLN := Frame.hid (hl.trans hP.symm)
  have c0 := hS.c0
  have c1 := hS.c1
  have c2 := hS.c2
  have gl := hS.l
  have HA := Frame.hid hA
  have HS := Frame.hid hS
  clear hPi hPw hP hn hl hA hS
  have hne : ¬ (g = w.heap.size) := by omega
  have hST : SK w.heap.size w [((⟨g, 0, none⟩ : Addr), (.int .i64 p : Value)), ((⟨g, 1, none⟩ : Addr), (.int .i64 q : Value)), ((⟨g, 2, none⟩ : Addr), (.slice (some ⟨b, off, none⟩) n c : Value))] w := SK.start (Nat.le_refl _) (by intro p hp; simp at hp; rcases hp with rfl | rfl | rfl <;> assumption) (by intro p hp; simp at hp; rcases hp with rfl | rfl | rfl <;> assumption)
  go_enter Try.func129, Try.ntmps129
  go_wp2_with fail
  go_region_held3 (fun W => W.cell? ⟨g, 0, none⟩ = some (.int .i64 p) ∧ W.cell? ⟨g, 1, none⟩ = some (.int .i64 q) ∧ W.cell? ⟨g, 2, none⟩ = some (.slice (some ⟨b, off, none⟩) n c) ∧ w.heap.size ≤ W.heap.size ∧ SK w.heap.size w [((⟨g, 0, none⟩ : Addr), (.int .i64 p : Value)), ((⟨g, 1, none⟩ : Addr), (.int .i64 q : Value)), ((⟨g, 2, none⟩ : Addr), (.slice (some ⟨b, off, none⟩) n c : Value))] W) ((refine SK_all3 ?_; (repeat' first | with_reducible assumption | exact SK_of3 (by with_reducible assumption) | exact hST | apply SK.drew | apply SK.drewN | apply SK.alloc | (refine SK.call ?_ (by with_reducible assumption)) | (refine SK.set ?_ _ _ _ (by omega))))) (fail)
  go_wp2_with fail
  go_loopw [4] (fun iv wr => ∃ k v, k ≤ P ∧ iv = .int .i64 (k : Nat) ∧ FillAt w (w.heap.size + 1) q p v ((flipL p q xs).take k) wr) (fun iv _ => P - (intOf iv).toNat)
  case atStart =>
    refine ⟨0, .slice none 0 0, Nat.zero_le _, rfl, ⟨?_, OwnedS.nil _ _, by omega, ?_, ?_, ?_, ?_⟩⟩
    · refine ⟨?_, ?_, ?_, by simp; try omega⟩ <;> simp [go_sem]
    · exact (((Below.refl _ w).alloc (Nat.le_refl _) _).alloc (by simp) _).drew
    · intro i; simp [go_sem]
    · refine ⟨?_, ?_, ?_, by simp; try omega⟩ <;> simp [go_sem]
    · intro i; simp [go_sem]
  case round =>
    obtain ⟨k, v, hk, rfl, hF⟩ := hrel
    have HF := Frame.hid hF
    have d0 := (hF.bel.cell (p := ⟨g, 0, none⟩) gl).trans c0
    have d1 := (hF.bel.cell (p := ⟨g, 1, none⟩) gl).trans c1
    have d2 := (hF.bel.cell (p := ⟨g, 2, none⟩) gl).trans c2
    have d3 := hF.sh.c2
    have d4 := hF.fr
    have d11 := hF.sh.c0
    have d12 := hF.sh.c1
    have d5 := hF.sh.l
    have d6 := hF.rs.c0
    have d7 := hF.rs.c1
    have d8 := hF.rs.c2
    have d9 := hF.rf
    have d10 := hF.rs.l
    have hPW := HPW.out
    clear hF hST
    by_cases hlt : k < P
    · obtain ⟨m, hm⟩ : ∃ m, m = k % q * p + k / q := ⟨_, rfl⟩
      have hmP : m < P := by rw [hm, HP.out]; exact flip_at (by omega) (by rw [← HP.out]; exact hlt)
      have hmn : m < n := by rw [HLN.out]; exact hmP
      obtain ⟨b', off', e, hbl, hc⟩ := HA.out.h (by have := HX.out; omega)
      injection e with e
      injection e with e1 e2
      subst e1 e2
      have h3 := (hc m (by have := HX.out; omega)).keep HF.out.bel hbl
      have x0 := h3.c0
      have x1 := h3.c1
      have x2 := h3.c2
      obtain ⟨x, hx⟩ : ∃ x, x = sx xs m := ⟨_, rfl⟩
      obtain ⟨y, hy⟩ : ∃ y, y = sy xs m := ⟨_, rfl⟩
      obtain ⟨z, hz⟩ : ∃ z, z = sz xs m := ⟨_, rfl⟩
      rw [← hx] at x0
      rw [← hy] at x1
      rw [← hz] at x2
      have HXYZ := Frame.hid (And.intro hx (And.intro hy hz))
      have hk1 : (k : Int).tmod (q : Int) = ((k % q : Nat) : Int) := rfl
      have hk2 : (k : Int).tdiv (q : Int) = ((k / q : Nat) : Int) := rfl
      obtain ⟨r, hr⟩ : ∃ r, r = k % q := ⟨_, rfl⟩
      obtain ⟨d, hd⟩ : ∃ d, d = k / q := ⟨_, rfl⟩
      rw [← hr, ← hd] at hm
      rw [← hr] at hk1
      rw [← hd] at hk2
      have hr5 : r * p ≤ m := by omega
      obtain ⟨s, hs⟩ : ∃ s, s = r * p := ⟨_, rfl⟩
      rw [← hs] at hm hr5
      have hq0 : ¬ ((q : Int) = 0) := by omega
      have hq0' : ¬ (q = 0) := by omega
      have hk1' : (k : Int) % (q : Int) = (r : Int) := by rw [hr]; push_cast; rfl
      have hk2' : (k : Int) / (q : Int) = (d : Int) := by rw [hd]; push_cast; rfl
      have hk3 : IntKind.i64.wrap ((r : Int) * (p : Int)) = (s : Int) := by
        rw [show (r : Int) * (p : Int) = (s : Int) by rw [hs]; push_cast; rfl, IntKind.wrap_i64]; omega
      have hk4 : IntKind.i64.wrap ((s : Int) + (d : Int)) = (m : Int) := by
        rw [show (s : Int) + (d : Int) = (m : Int) by omega, IntKind.wrap_i64]; omega
      have hk5 : IntKind.i64.wrap (d : Int) = (d : Int) := by rw [IntKind.wrap_i64]; omega
      have hm0 : (0 : Int) ≤ (m : Int) := by omega
      have hmn' : (m : Int) < (n : Int) := by omega
      obtain ⟨L, hL⟩ : ∃ L, L = (List.take k (flipL p q xs)).length := ⟨_, rfl⟩
      have hLk : L = k := by rw [hL, List.length_take, flipL_len, ← HP.out]; omega
      have hL36 : L ≤ 36 := by omega
      have hown : wr.ownsRow (w.heap.size + 1 + 1) 28 3 v L (cellsS (List.take k (flipL p q xs))) := by rw [hL]; exact HF.out.own
      have HO := Frame.hid hown
      have HLK := Frame.hid (And.intro hL hLk)
      clear hL hLk hown
      have HRM := Frame.hid (And.intro hr (And.intro hd (And.intro hs hm)))
      clear hc h3 hx hy hz hr hd hs hm hr5
      have hST : SK w.heap.size wr [((⟨g, 0, none⟩ : Addr), (.int .i64 p : Value)), ((⟨g, 1, none⟩ : Addr), (.int .i64 q : Value)), ((⟨g, 2, none⟩ : Addr), (.slice (some ⟨b, off, none⟩) n c : Value)), ((⟨b, off + m * 3, none⟩ : Addr), (.float .f32 x : Value)), ((⟨b, off + m * 3 + 1, none⟩ : Addr), (.float .f32 y : Value)), ((⟨b, off + m * 3 + 2, none⟩ : Addr), (.float .f32 z : Value))] wr := SK.start (by omega) (by intro p hp; simp at hp; rcases hp with rfl | rfl | rfl | rfl | rfl | rfl <;> assumption) (by intro p hp; simp at hp; rcases hp with rfl | rfl | rfl | rfl | rfl | rfl <;> (simp <;> omega))
      go_wp2_with fail
      go_quiet (fail)
      have hST := hST.drewN nq
      go_wp2_with fail
      have hk0 : (wr.drewN nq).drew = wr.drewN (nq + 1) := rfl
      have hS0 : Below (w.heap.size + 1 + 1) wr (wr.drewN nq).drew := (below_drewN (Below.refl _ _) nq).drew
      refine region_end 26 (fun W => Below (w.heap.size + 1 + 1) wr W) (by kernel_rfl) (by kernel_rfl) hS0 ?_
      simp only [List.take_succ_cons, List.take_zero, List.drop_succ_cons, List.drop_zero]
      iterate 26
        refine' eLex_cons (Or.inl ⟨by rfl, fun wq hSq => _⟩) _
        rotate_left
        · (have q0 := (hSq.cell (p := ⟨g, 0, none⟩) (by simp; omega)).trans d0; have q1 := (hSq.cell (p := ⟨g, 1, none⟩) (by simp; omega)).trans d1; have q2 := (hSq.cell (p := ⟨g, 2, none⟩) (by simp; omega)).trans d2; have q3 := (hSq.cell (p := ⟨b, off + m * 3, none⟩) (by simp; omega)).trans x0; have q4 := (hSq.cell (p := ⟨b, off + m * 3 + 1, none⟩) (by simp; omega)).trans x1; have q5 := (hSq.cell (p := ⟨b, off + m * 3 + 2, none⟩) (by simp; omega)).trans x2; have q6 := (hSq.cell (p := ⟨w.heap.size + 1, 2, none⟩) (by simp)).trans d3; go_simp; (try with_reducible rfl))
        simp only [Act.put, List.setIfInBounds_toArray, List.set_cons_zero, List.set_cons_succ]
      refine eLex_nil ?_
      have HO2 : Hid ((wr.drewN nq).drew.ownsRow (w.heap.size + 1 + 1) 28 3 v L (cellsS (List.take k (flipL p q xs)))) := Frame.hid (World.ownsRow.drew (ownsRow_drewN HO.out nq))
      generalize (wr.drewN nq).drew = w2 at hS0 HO2 ⊢
      have hs2 := hS0.size
      refine wpTail_cons (fun K hK => ?_)
      go_simp
      have hS1 := hS0.alloc (by omega) (.cells #[.float .f32 x, .float .f32 y, .float .f32 z] 28)
      refine hK.out _ _ (.inr hS1) ?_
      clear hK K
      refine wpTail_cons (fun K hK => ?_)
      refine step_append_any rfl _ _ 31 rfl (w.heap.size + 1 + 1) 28 i0 (.agg #[.float .f32 0, .float .f32 0, .float .f32 0]) 3 12 Try.underlying31 hi hz0 hz1 hz2 rfl (by decide) v L (cellsS (List.take k (flipL p q xs))) rfl ?_ ⟨w2.heap.size, 0, none⟩ 1 1 (cellsS [(x, y, z)]) rfl rfl (news3' _ _ _ _ _) (cellsS_one _) (by unfold maxLen; omega) (by omega) (by simp; omega) ?_
      · exact World.ownsRow.alloc (HO2.out) _
      intro v' w3 hown3 hgrow3 hnil3
      have hS3 := Below.grown hS1 hgrow3 (by simp; omega) (fun k' hk' => (World.ownsRow.lt HO.out k' hk').1)
      obtain ⟨A3, c3, rfl⟩ := OwS.form (OwS.of hown3)
      refine hK.out _ _ (.inr hS3) ?_
      clear hK K hgrow3 hnil3
      have HOX := Frame.hid hown3
      have HBW := Frame.hid hS3
      have f2 := (HBW.out.cell (p := ⟨w.heap.size + 1, 2, none⟩) (by simp)).trans d3
      have f3 : w3.frozen? ⟨w.heap.size + 1, 2, none⟩ = false := (HBW.out.frozen (p := ⟨w.heap.size + 1, 2, none⟩) (by simp)).trans (d4 2)
      refine wpTail_cons (fun K hK => ?_)
      go_simp
      refine hK.out _ _ (.inr HBW.out) ?_
      clear hK K
      refine wpTail_cons (fun K hK => ?_)
      go_simp
      refine hK.out _ _ (.inl rfl) ?_
      clear hK K
      refine wpTail_done ?_
      go_wp2_with fail
      go_roundw
      case rel =>
        have hb := HBW.out
        have ho := HOX.out
        have hF := HF.out
        obtain ⟨hx, hy, hz⟩ := HXYZ.out
        obtain ⟨hr, hd, hs, hm⟩ := HRM.out
        obtain ⟨hL, hLk⟩ := HLK.out
        rw [hs, hr, hd] at hm
        have hnx := flipL_next p q xs k (by rw [← HP.out]; exact hlt)
        rw [← hm, ← hx, ← hy, ← hz] at hnx
        exact ⟨k + 1, _, by omega, by go_num, FillAt.next hF hb ho hnx (by omega)⟩
      case measure => simp [intOf]; omega
    · have hkP : k = P := by omega
      subst hkP
      have hO := HF.out.own
      obtain ⟨A', c', rfl, hR'⟩ := hO.rd
      have HO := Frame.hid hO
      clear hO hR'
      obtain ⟨e0, e1, e2⟩ := set3_read (w := wr) (v0 := .int .i64 q) (v1 := .int .i64 p) (v2 := .slice A' (List.take k (flipL p q xs)).length c') d6 d7 d8
      generalize hL : (List.take k (flipL p q xs)).length = L at *
      have HL := Frame.hid hL
      clear hL
      go_wp2_with fail
      go_quiet (fail)
      go_wp2_with fail
      refine bodyPost_ret (v := .agg #[.int .i64 q, .int .i64 p, .slice A' L c']) (by simp [results, Try.results129, go_sem, e0, e1, e2]) rfl ⟨_, rfl, ?_, ?_⟩
      · have ho := HO.out
        have e : List.take k (flipL p q xs) = flipL p q xs := List.take_of_length_le (by rw [flipL_len]; have := HP.out; omega)
        rw [e] at ho
        exact ((((ho.setO (by omega)).setO (by omega)).setO (by omega)).drewN' _).mono' (by omega)
      · exact below_drewN (((HF.out.bel.setCell (p := ⟨w.heap.size, 0, none⟩) (Nat.le_refl _) _).setCell (p := ⟨w.heap.size, 1, none⟩) (Nat.le_refl _) _).setCell (p := ⟨w.heap.size, 2, none⟩) (Nat.le_refl _) _) _

end Go.Proofs.Ytohbanchaggnmaa
