/-
  The triangles of tiles, as three spots each: the program's list of them.
-/
import Derived.Test.YtnbgnaenlbphcaaA1
import Derived.Test.YtnbgnaenlbphcaaKu
import Derived.Test.YtnbgnaenlbphcaaKp
import Derived.Test.YtnbgnaenlbphcaaKg
import Derived.RangeFuncBox
namespace Go.Proofs.Ytnbgnaenlbphcaa
open Go.RowKit Go.Shelf Fl Go.WideShapes Go.Deep
attribute [local go_sem] Oper.semAt_some

theorem range_one {F : Fence} {n : Nat} {P : Program} {α : Type} {g : Operand} {ps : Array Tmp} {assign body : Code} {Q : Exit → Act → World → Prop} {a : Act} {w : World} (p q : Nat) (f : α → Value)
    (hro : F.round = none) (h1 : 1 ≤ n) {gf : Nat} {lb : Array Value} (hg : a.eval g = .func (.func gf) #[] lb) (hFg : F.fn gf) (eg : ∀ args w, (callFunc gf args).run P w = .ok (.enter gf args) w)
    {encs : α → Array Value} {Kp : World → World → Prop} {S Sp : List α → Prop} {N : Nat} {w0 : World} (hseq : SeqStopsK F (n - 1) P gf lb encs Kp S Sp N w0)
    (hKt : ∀ {A B C : World}, Kp A B → Kp B C → Kp A C) (hKb : ∀ (W : World) (l : Nat) (o o' : Obj), w.heap.size ≤ l → W.heap[l]? = some o → o.isCells = false → o.isWalk = false → Kp W (W.putObj l o')) (hb0 : Below w0.heap.size w0 w) (hps : ∀ x, (encs x).size = ps.size)
    (I : List α → World → Prop) (Ix : Code → List α → World → Prop) (hI : OwnFrom w.heap.size I) (hIx : ∀ c, OwnFrom w.heap.size (Ix c)) (h0 : I [] w)
    (hassign : ∀ (l : Nat) (pre : List α) (x : α) (W : World) (K : Act → World → Prop), I pre W → (∀ a' W', KeepsFrom w.heap.size W W' → Kp W W' → I pre W' → a' = { tmps := (a.tmps.setIfInBounds p (f x)).setIfInBounds q (f x), defers := [] } → K a' W') →
      assign.wpIn (F.inRound l) (n - 1 - 1) P (Exit.then K (fun _ _ _ => False)) { tmps := (ps.zip (encs x)).foldl (fun t (p, v) => t.setIfInBounds p v) a.tmps, defers := [] } W)
    (hbody : ∀ (l : Nat) (pre : List α) (x : α) (W : World), w.heap.size ≤ l → (∃ r, W.heap[l]? = some (.loop r)) → I pre W → pre.length < N → body.wpIn (F.inRound l) (n - 1 - 1) P (ownPostG w.heap.size Kp I Ix (pre ++ [x]) W) { tmps := (a.tmps.setIfInBounds p (f x)).setIfInBounds q (f x), defers := [] } W)
    (hdone : ∀ (D : Nat) (xs : List α) (W : World), w.heap.size ≤ D → S xs → I xs W → W.heap[D]? = some (.deferred (some [])) → Q .normal { a with defers := { target := .collected D, args := #[] } :: a.defers } W)
    (hstop : ∀ (D : Nat) (c : Code) (pre : List α) (W : World), w.heap.size ≤ D → Sp pre → Ix c pre W → W.heap[D]? = some (.deferred (some [])) → c.wpIn F n P Q { a with defers := { target := .collected D, args := #[] } :: a.defers } W) :
    (Code.rangeFunc g ps assign body).wpIn F n P Q a w :=
  wpIn_rangeFunc_ownH hro h1 hg hFg eg hseq hKt hKb hb0 hps I Ix hI hIx h0 (fun x a' _ => a' = { tmps := (a.tmps.setIfInBounds p (f x)).setIfInBounds q (f x), defers := [] }) (fun _ _ _ _ _ _ hs _ _ => hs) hassign
    (fun l pre x a' W hl hr hi ha hlt => by rw [show a' = _ from ha]; exact hbody l pre x W hl hr hi hlt) hdone hstop
theorem fold1 (T : Array Value) (p : Nat) (u : Value) : Array.foldl (fun t (x : Nat × Value) => t.setIfInBounds x.fst x.snd) T (#[p].zip #[u]) = T.setIfInBounds p u := by
  simp
theorem cell_putOther {W : World} {b i l : Nat} {o : Obj} (h : b ≠ l) : (W.putObj l o).cell? ⟨b, i, none⟩ = W.cell? ⟨b, i, none⟩ := by
  simp [World.cell?, World.putObj, Array.getElem?_setIfInBounds_ne, h.symm]
theorem nine_news (W : World) (news : List Value) (t : TypeId) {w : World} (h : w = (W.alloc (.cells news.toArray t)).drew) : ∀ j u, news[j]? = some u → w.cell? ((⟨W.heap.size, 0, none⟩ : Addr).add j) = some u := by
  intro j u hj
  subst h
  rw [Go.WideShapes.add_plain, Nat.zero_add]
  show (W.alloc (.cells news.toArray t)).cell? _ = _
  rw [World.cell?_alloc_new]
  simpa using hj
theorem keeps_drew (W : World) : KeepsOthers W W.drew := ⟨Nat.le_refl _, fun _ _ h _ => h⟩
/-- The cells of triangles, their corners given. -/
def triCells (xs : List (Nat × Nat × Nat)) (p q r : Nat) : List Value := [.float .f32 (sx xs p), .float .f32 (sy xs p), .float .f32 (sz xs p), .float .f32 (sx xs q), .float .f32 (sy xs q), .float .f32 (sz xs q), .float .f32 (sx xs r), .float .f32 (sy xs r), .float .f32 (sz xs r)]
theorem infoTri : (Try.prog.info? 137).map (fun i => (i.zero, i.size, i.bytes)) = some (some (.agg #[.float .f32 0, .float .f32 0, .float .f32 0, .float .f32 0, .float .f32 0, .float .f32 0, .float .f32 0, .float .f32 0, .float .f32 0]), 9, 36) := by kernel_rfl
/-- All blocks but one lie as they lay. -/
structure KeepX (Wl : World) (Bl : Nat) (W : World) : Prop where
  s : Wl.heap.size ≤ W.heap.size
  h : ∀ k, k < Wl.heap.size → k ≠ Bl → W.heap[k]? = Wl.heap[k]?
theorem KeepX.refl (W : World) (Bl : Nat) : KeepX W Bl W := ⟨Nat.le_refl _, fun _ _ _ => rfl⟩
theorem KeepX.grown {Wl W W' : World} {Bl : Nat} {row : Option Nat} (h : KeepX Wl Bl W) (hg : W.grownBy W' row) (hr : ∀ r, row = some r → Wl.heap.size ≤ r) : KeepX Wl Bl W' :=
  ⟨Nat.le_trans h.s hg.size, fun k hk hne => (hg.block k (Nat.lt_of_lt_of_le hk h.s) (fun e => by have := hr k e.symm; omega)).trans (h.h k hk hne)⟩
theorem KeepX.put {Wl W : World} {Bl i : Nat} {v : Value} (h : KeepX Wl Bl W) : KeepX Wl Bl (W.setCell ⟨Bl, i, none⟩ v) :=
  ⟨by simpa using h.s, fun k hk hne => by rw [Below.heap_setCell _ _ _ _ (by simpa using hne)]; exact h.h k hk hne⟩
theorem KeepX.cell {Wl W : World} {Bl : Nat} (h : KeepX Wl Bl W) {b i : Nat} (hb : b < Wl.heap.size) (hne : b ≠ Bl) : W.cell? ⟨b, i, none⟩ = Wl.cell? ⟨b, i, none⟩ := World.cell?_of_block (a := ⟨b, i, none⟩) (h.h b hb hne)
theorem keepX_own {β : Type} (Wl : World) (Bl : Nat) : OwnFrom Wl.heap.size (fun (_ : β) W => KeepX Wl Bl W) := fun _ _ _ _ hs hg hr => hs.grown hg (fun r e => (hr r e).1)

theorem tiles_mem {m j : Nat} : ∀ {i : Nat} {z : Int}, z ∈ tilesI m j i → ∃ a, a < i ∧ z ∈ tileI m j a
  | 0, z, h => by simp [tilesI] at h
  | i + 1, z, h => by
    rw [tilesI, List.mem_append] at h
    rcases h with h | h
    · obtain ⟨a, ha, hz⟩ := tiles_mem h
      exact ⟨a, by omega, hz⟩
    · exact ⟨i, by omega, h⟩
theorem tri_mem {m : Nat} : ∀ {k : Nat} {z : Int}, z ∈ triI m k → ∃ j a, j < k ∧ a < m ∧ z ∈ tileI m j a
  | 0, z, h => by simp [triI] at h
  | k + 1, z, h => by
    rw [triI, List.mem_append] at h
    rcases h with h | h
    · obtain ⟨j, a, hj, ha, hz⟩ := tri_mem h
      exact ⟨j, a, by omega, ha, hz⟩
    · obtain ⟨a, ha, hz⟩ := tiles_mem h
      exact ⟨k, a, by omega, ha, hz⟩
/-- A corner of the triangles. -/
def crn (m k i : Nat) : Nat := ((triI m k).getD i 0).toNat
theorem crn_bd {m k i : Nat} (h : i < (triI m k).length) : (triI m k).getD i 0 = (crn m k i : Int) ∧ crn m k i < (m + 1) * (k + 1) := by
  have hm : (triI m k).getD i 0 ∈ triI m k := by
    rw [List.getD_eq_getElem?_getD, List.getElem?_eq_getElem h]
    exact List.getElem_mem h
  unfold crn
  generalize (triI m k).getD i 0 = z at hm ⊢
  obtain ⟨j, a, hj, ha, hz⟩ := tri_mem hm
  have h1 : (j + 2) * (m + 1) ≤ (k + 1) * (m + 1) := Nat.mul_le_mul_right _ (by omega)
  rw [Nat.mul_comm (k + 1)] at h1
  have h2 : (j + 2) * (m + 1) = j * (m + 1) + 2 * (m + 1) := Nat.add_mul _ _ _
  unfold tileI at hz
  simp only [List.mem_cons, List.not_mem_nil, or_false] at hz
  generalize j * (m + 1) = q at *
  generalize (m + 1) * (k + 1) = R at *
  rcases hz with rfl | rfl | rfl | rfl | rfl | rfl <;> (refine ⟨?_, ?_⟩ <;> first | (rw [Int.toNat_natCast]; done) | (rw [Int.toNat_natCast]; omega) | omega)
/-- The triangles, as cells. -/
def triAll (xs : List (Nat × Nat × Nat)) (m k : Nat) {T : Nat} (l : List (Fin T)) : List Value := l.flatMap fun x => triCells xs (crn m k (3 * x.val)) (crn m k (3 * x.val + 1)) (crn m k (3 * x.val + 2))
theorem triAll_snoc (xs : List (Nat × Nat × Nat)) (m k : Nat) {T : Nat} (l : List (Fin T)) (x : Fin T) : triAll xs m k (l ++ [x]) = triAll xs m k l ++ triCells xs (crn m k (3 * x.val)) (crn m k (3 * x.val + 1)) (crn m k (3 * x.val + 2)) := by
  unfold triAll; simp
theorem triAll_len (xs : List (Nat × Nat × Nat)) (m k : Nat) {T : Nat} (l : List (Fin T)) : (triAll xs m k l).length = l.length * 9 := by
  unfold triAll
  induction l with
  | nil => rfl
  | cons x l ih => rw [List.flatMap_cons, List.length_append, ih]; simp [triCells]; omega

end Go.Proofs.Ytnbgnaenlbphcaa
