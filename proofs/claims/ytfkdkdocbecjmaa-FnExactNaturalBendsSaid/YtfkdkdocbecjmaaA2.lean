/-
  The triangles of tiles, as three spots each: the program's list of them.
-/
import Derived.Test.YtfkdkdocbecjmaaA1
import Derived.Test.YtfkdkdocbecjmaaKu
import Derived.Test.YtfkdkdocbecjmaaKp
import Derived.Test.YtfkdkdocbecjmaaKg
import Derived.RangeFuncBox
namespace Go.Proofs.Ytfkdkdocbecjmaa
open Go.RowKit Go.Shelf Fl Go.WideShapes Go.Deep
attribute [local go_sem] Oper.semAt_some

theorem range_one {F : Fence} {n : Nat} {P : Program} {α : Type} {g : Operand} {ps : Array Tmp} {assign body : Code} {Q : Exit → Act → World → Prop} {a : Act} {w : World} (p q : Nat) (f : α → Value)
    (hro : F.round = none) (h1 : 1 ≤ n) {gf : Nat} {lb : Array Value} (hg : a.eval g = .func (.func gf) #[] lb) (hFg : F.fn gf) (eg : ∀ args w, (callFunc gf args).run P w = .ok (.enter gf args) w)
    {encs : α → Array Value} {Kp : World → World → Prop} {S Sp : List α → Prop} {N : Nat} {w0 : World} (hseq : SeqStopsK F (n - 1) P gf lb encs Kp S Sp N w0)
    (hKt : ∀ {A B C : World}, Kp A B → Kp B C → Kp A C) (hKb : ∀ (W : World) (l : Nat) (o o' : Obj), w.heap.size ≤ l → W.heap[l]? = some o → o.isCells = false → o.isWalk = false → Kp W (W.putObj l o')) (hb0 : Below w0.heap.size w0 w) (hps : ∀ x, (encs x).size = ps.size)
    (I : List α → World → Prop) (Ix : Code → List α → World → Prop) (hI : OwnFrom w.heap.size I) (hIx : ∀ c, OwnFrom w.heap.size (Ix c)) (h0 : I [] w)
    (hassign : ∀ (l : Nat) (pre : List α) (x : α) (W : World) (K : Act → World → Prop), I pre W → (∀ a' W', KeepsFrom w.heap.size W W' → Kp W W' → I pre W' → a' = { tmps := (a.tmps.setIfInBounds p (f x)).setIfInBounds q (f x), defers := [] } → K a' W') →
      assign.wpIn (F.inRound l) (n - 1 - 1) P (Exit.then K (fun _ _ _ => False)) { tmps := (ps.zip (encs x)).foldl (fun t (p, v) => t.setIfInBounds p v) a.tmps, defers := [] } W)
    (hbody : ∀ (l : Nat) (pre : List α) (x : α) (W : World), w.heap.size ≤ l → (∃ r, W.heap[l]? = some (.loop r)) → I pre W → pre.length < N → body.wpIn (F.inRound l) (n - 1 - 1) P (ownPostG w.heap.size Kp I Ix (pre ++ [x]) W) { tmps := (a.tmps.setIfInBounds p (f x)).setIfInBounds q (f x), defers := [] } W)
    (hdone : ∀ (D : Nat) (xs : List α) (W : World), w.heap.size ≤ D → S xs → I xs W → W.heap[D]? = some (.deferred (some [])) → Q .normal { a with defers := { target := .collected D, args := #[] } :: a.defers } W)
    (hstop : ∀ (D : Nat) (c : Code) (pre : List α) (W : World), w.heap.size ≤ D → Sp pre → Ix c pre W → W.heap[D]? = some (.deferred (some [])) → c.wpIn F n P Q { a with defers := { target := .collected D, args := #[] } :: a.defers } W) :
    (Code.rangeFunc g ps assign body).wpIn F n P Q a w :=
  wpIn_rangeFunc_ownH hro h1 hg hFg eg hseq hKt hKb hb0 hps I Ix hI hIx h0 (fun x a' _ => a' = { tmps := (a.tmps.setIfInBounds p (f x)).setIfInBounds q (f x), defers := [] }) (fun _ _ _ _ _ _ hs _ _ => hs) hassign
    (fun l pre x a' W hl hr hi ha hlt => by rw [show a' = _ from ha]; exact hbody l pre x W hl hr hi hlt) hdone hstop
theorem fold1 (T : Array Value) (p : Nat) (u : Value) : Array.foldl (fun t (x : Nat × Value) => t.setIfInBounds x.fst x.snd) T (#[p].zip #[u]) = T.setIfInBounds p u := by
  simp
theorem cell_putOther {W : World} {b i l : Nat} {o : Obj} (h : b ≠ l) : (W.putObj l o).cell? ⟨b, i, none⟩ = W.cell? ⟨b, i, none⟩ := by
  simp [World.cell?, World.putObj, Array.getElem?_setIfInBounds_ne, h.symm]
theorem nine_news (W : World) (news : List Value) (t : TypeId) {w : World} (h : w = (W.alloc (.cells news.toArray t)).drew) : ∀ j u, news[j]? = some u → w.cell? ((⟨W.heap.size, 0, none⟩ : Addr).add j) = some u := by
  intro j u hj
  subst h
  rw [Go.WideShapes.add_plain, Nat.zero_add]
  show (W.alloc (.cells news.toArray t)).cell? _ = _
  rw [World.cell?_alloc_new]
  simpa using hj
theorem keeps_drew (W : World) : KeepsOthers W W.drew := ⟨Nat.le_refl _, fun _ _ h _ => h⟩
/-- The cells of triangles, their corners given. -/
def triCells (xs : List (Nat × Nat × Nat)) (p q r : Nat) : List Value := [.float .f32 (sx xs p), .float .f32 (sy xs p), .float .f32 (sz xs p), .float .f32 (sx xs q), .float .f32 (sy xs q), .float .f32 (sz xs q), .float .f32 (sx xs r), .float .f32 (sy xs r), .float .f32 (sz xs r)]
theorem infoTri : (Try.prog.info? 79).map (fun i => (i.zero, i.size, i.bytes)) = some (some (.agg #[.float .f32 0, .float .f32 0, .float .f32 0, .float .f32 0, .float .f32 0, .float .f32 0, .float .f32 0, .float .f32 0, .float .f32 0]), 9, 36) := by kernel_rfl
/-- All blocks but one lie as they lay. -/
structure KeepX (Wl : World) (Bl : Nat) (W : World) : Prop where
  s : Wl.heap.size ≤ W.heap.size
  h : ∀ k, k < Wl.heap.size → k ≠ Bl → W.heap[k]? = Wl.heap[k]?
theorem KeepX.refl (W : World) (Bl : Nat) : KeepX W Bl W := ⟨Nat.le_refl _, fun _ _ _ => rfl⟩
theorem KeepX.grown {Wl W W' : World} {Bl : Nat} {row : Option Nat} (h : KeepX Wl Bl W) (hg : W.grownBy W' row) (hr : ∀ r, row = some r → Wl.heap.size ≤ r) : KeepX Wl Bl W' :=
  ⟨Nat.le_trans h.s hg.size, fun k hk hne => (hg.block k (Nat.lt_of_lt_of_le hk h.s) (fun e => by have := hr k e.symm; omega)).trans (h.h k hk hne)⟩
theorem KeepX.put {Wl W : World} {Bl i : Nat} {v : Value} (h : KeepX Wl Bl W) : KeepX Wl Bl (W.setCell ⟨Bl, i, none⟩ v) :=
  ⟨by simpa using h.s, fun k hk hne => by rw [Below.heap_setCell _ _ _ _ (by simpa using hne)]; exact h.h k hk hne⟩
theorem KeepX.cell {Wl W : World} {Bl : Nat} (h : KeepX Wl Bl W) {b i : Nat} (hb : b < Wl.heap.size) (hne : b ≠ Bl) : W.cell? ⟨b, i, none⟩ = Wl.cell? ⟨b, i, none⟩ := World.cell?_of_block (a := ⟨b, i, none⟩) (h.h b hb hne)
theorem keepX_own {β : Type} (Wl : World) (Bl : Nat) : OwnFrom Wl.heap.size (fun (_ : β) W => KeepX Wl Bl W) := fun _ _ _ _ hs hg hr => hs.grown hg (fun r e => (hr r e).1)

theorem tiles_mem {m j : Nat} : ∀ {i : Nat} {z : Int}, z ∈ tilesI m j i → ∃ a, a < i ∧ z ∈ tileI m j a
  | 0, z, h => by simp [tilesI] at h
  | i + 1, z, h => by
    rw [tilesI, List.mem_append] at h
    rcases h with h | h
    · obtain ⟨a, ha, hz⟩ := tiles_mem h
      exact ⟨a, by omega, hz⟩
    · exact ⟨i, by omega, h⟩
theorem tri_mem {m : Nat} : ∀ {k : Nat} {z : Int}, z ∈ triI m k → ∃ j a, j < k ∧ a < m ∧ z ∈ tileI m j a
  | 0, z, h => by simp [triI] at h
  | k + 1, z, h => by
    rw [triI, List.mem_append] at h
    rcases h with h | h
    · obtain ⟨j, a, hj, ha, hz⟩ := tri_mem h
      exact ⟨j, a, by omega, ha, hz⟩
    · obtain ⟨a, ha, hz⟩ := tiles_mem h
      exact ⟨k, a, by omega, ha, hz⟩
/-- A corner of the triangles. -/
def crn (m k i : Nat) : Nat := ((triI m k).getD i 0).toNat
theorem crn_bd {m k i : Nat} (h : i < (triI m k).length) : (triI m k).getD i 0 = (crn m k i : Int) ∧ crn m k i < (m + 1) * (k + 1) := by
  have hm : (triI m k).getD i 0 ∈ triI m k := by
    rw [List.getD_eq_getElem?_getD, List.getElem?_eq_getElem h]
    exact List.getElem_mem h
  unfold crn
  generalize (triI m k).getD i 0 = z at hm ⊢
  obtain ⟨j, a, hj, ha, hz⟩ := tri_mem hm
  have h1 : (j + 2) * (m + 1) ≤ (k + 1) * (m + 1) := Nat.mul_le_mul_right _ (by omega)
  rw [Nat.mul_comm (k + 1)] at h1
  have h2 : (j + 2) * (m + 1) = j * (m + 1) + 2 * (m + 1) := Nat.add_mul _ _ _
  unfold tileI at hz
  simp only [List.mem_cons, List.not_mem_nil, or_false] at hz
  generalize j * (m + 1) = q at *
  generalize (m + 1) * (k + 1) = R at *
  rcases hz with rfl | rfl | rfl | rfl | rfl | rfl <;> (refine ⟨?_, ?_⟩ <;> first | (rw [Int.toNat_natCast]; done) | (rw [Int.toNat_natCast]; omega) | omega)
/-- The triangles, as cells. -/
def triAll (xs : List (Nat × Nat × Nat)) (m k : Nat) {T : Nat} (l : List (Fin T)) : List Value := l.flatMap fun x => triCells xs (crn m k (3 * x.val)) (crn m k (3 * x.val + 1)) (crn m k (3 * x.val + 2))
theorem triAll_snoc (xs : List (Nat × Nat × Nat)) (m k : Nat) {T : Nat} (l : List (Fin T)) (x : Fin T) : triAll xs m k (l ++ [x]) = triAll xs m k l ++ triCells xs (crn m k (3 * x.val)) (crn m k (3 * x.val + 1)) (crn m k (3 * x.val + 2)) := by
  unfold triAll; simp
theorem triAll_len (xs : List (Nat × Nat × Nat)) (m k : Nat) {T : Nat} (l : List (Fin T)) : (triAll xs m k l).length = l.length * 9 := by
  unfold triAll
  induction l with
  | nil => rfl
  | cons x l ih => rw [List.flatMap_cons, List.length_append, ih]; simp [triCells]; omega

set_option maxRecDepth 100000 in
set_option maxHeartbeats 4000000 in
theorem trianglesOfTiles_yes (bs off : Nat) (xs : List (Nat × Nat × Nat)) (n c : Nat) (hxn : n = xs.length) (m k : Nat) (hm : 1 ≤ m ∧ m ≤ 12) (hk : 1 ≤ k ∧ k ≤ 12) (hlen : n = (m + 1) * (k + 1)) (hf : finS xs = true) (w : World) (hr : RdS w (some ⟨bs, off, none⟩) xs) (T : Nat) (hT : (triI m k).length = 3 * T) :
    Calls Try.prog 46 #[.slice (some ⟨bs, off, none⟩) n c, .int .i64 (m : Nat), .int .i64 (k : Nat)] w fun e w' => ∃ v, e = .returned (.tuple #[v, .bool true]) ∧ w'.ownsRow w.heap.size 79 9 v T (triAll xs m k (List.finRange T)) ∧ Below w.heap.size w w' := by
  have hn : n ≤ 1048576 := by
    rw [hlen]
    have : (m + 1) * (k + 1) ≤ 13 * 13 := Nat.mul_le_mul (by omega) (by omega)
    omega
  have HAS := Frame.hid (fun W (hW : Below w.heap.size w W) => by have h := areSpots_calls (some ⟨bs, off, none⟩) xs c W (by omega) (hr.below hW); rw [← hxn, hf] at h; exact h)
  have HX := Frame.hid hxn
  have HR := Frame.hid hr
  have HTT := Frame.hid hT
  have hsm := triI_small hm.2 hk.2
  have hT2 : T ≤ 288 := by omega
  have hT1 : 1 ≤ (triI m k).length := by
    rw [triI_len]
    exact Nat.mul_pos (Nat.mul_pos (by omega) (by omega)) (by omega)
  have hlenI : ((m : Int) + 1) * ((k : Int) + 1) = (n : Int) := by rw [hlen]; push_cast; rfl
  have HLEN := Frame.hid hlen
  clear hxn hr hT hf hlen
  refine (callsIn_wide (n := 9)).1 ?_
  refine callsIn_of_wp_marks Try.func46 rfl trivial ?_
  simp only [Try.ntmps46, List.size_toArray, List.length_cons, List.length_nil, Nat.reduceAdd, Nat.reduceSub, Array.replicate_succ, Array.replicate_zero, List.push_toArray, List.append_toArray, List.nil_append, List.cons_append]
  gi_wp2_with fail
  refine ⟨trivial, (callsIn_wide.2 (trianglesOf_ok m k hm hk _)).mono ?_⟩
  rintro e w1 ⟨v1, rfl, hO1, hB1⟩
  obtain ⟨g1, c1, rfl, hg1, hg1l⟩ : ∃ g1 c1, v1 = .slice (some ⟨g1, 0, none⟩) (triI m k).length c1 ∧ w.heap.size + 1 ≤ g1 ∧ g1 < w1.heap.size := by
    rcases hO1.form with ⟨_, h0⟩ | ⟨g, c, h, h2, h3⟩
    · rw [h0] at hT1; simp at hT1
    · exact ⟨g, c, h, by simpa using h2, h3⟩
  obtain ⟨L, hL⟩ : ∃ L, L = (triI m k).length := ⟨_, rfl⟩
  rw [← hL] at hsm hT1 ⊢
  have hc1 : L ≤ c1 := by
    rcases hO1.2 with ⟨h0, _⟩ | ⟨g', cap', cur, hv, _, _, h1, _⟩
    · cases h0
    · injection hv with _ _ hv
      rw [hL, hv]
      exact h1
  have hw0 : Below w.heap.size w w1 := ((Below.refl _ _).alloc (Nat.le_refl _) _).trans (hB1.mono (by simp))
  have hb0 : Boxed w1 w.heap.size 27 (.slice (some ⟨bs, off, none⟩) n c) := (hB1.block w.heap.size (by simp)).trans (Boxed.new w _ _)
  have hq0 := hb0.cell
  have HO1 := Frame.hid hO1
  have HL := Frame.hid hL
  have HW0 := Frame.hid hw0
  have HB0 := Frame.hid hb0
  clear hO1 hL hw0 hb0 hB1
  have hmul : IntKind.i64.wrap (((m : Int) + 1) * ((k : Int) + 1)) = (n : Int) := by rw [hlenI, IntKind.wrap_i64]; omega
  gi_wp2_with fail
  refine ⟨trivial, (callsIn_wide.2 (HAS.out w1 HW0.out)).mono ?_⟩
  rintro e w2 ⟨rfl, hB2⟩
  have HW2 := Frame.hid (HW0.out.trans (hB2.mono HW0.out.size))
  have HO2 := Frame.hid (HO1.out.below hB2)
  have hb2 : Boxed w2 w.heap.size 27 (.slice (some ⟨bs, off, none⟩) n c) := (hB2.block w.heap.size HB0.out.lt).trans HB0.out
  have HB2 := Frame.hid hb2
  have hg2l : g1 < w2.heap.size := Nat.lt_of_lt_of_le hg1l hB2.size
  clear hB2 hq0 hb2
  gi_wp2_with fail
  refine ⟨trivial, (chunk_in Fence.wide (fun _ => trivial) 8 rfl g1 L c1 _).mono ?_⟩
  rintro e w3 ⟨rfl, hw3⟩
  obtain ⟨Bl, hBl⟩ : ∃ Bl, Bl = w2.heap.size := ⟨_, rfl⟩
  have hsz3 : w3.heap.size = Bl + 3 := by rw [hw3, hBl]; simp
  have hB23 : Below w2.heap.size w2 w3 := by rw [hw3]; exact (((Below.refl _ _).alloc (Nat.le_refl _) _).alloc (by simp) _).alloc (by simp; omega) _
  have hbl : Boxed w3 Bl 75 (.slice none 0 0) := by rw [hw3, hBl]; exact ((Boxed.new w2 _ _).alloc _).alloc _
  have hbS : Boxed w3 (Bl + 1) 66 (.slice (some ⟨g1, 0, none⟩) L c1) := by
    rw [hw3, hBl]
    have h := Boxed.new (w2.alloc (.cells #[.slice none 0 0] 75)) 66 (.slice (some ⟨g1, 0, none⟩) L c1)
    rw [World.size_alloc] at h
    exact h.alloc _
  have hbN : Boxed w3 (Bl + 1 + 1) 3 (.int .i64 3) := by
    rw [hw3, hBl]
    have h := Boxed.new ((w2.alloc (.cells #[.slice none 0 0] 75)).alloc (.cells #[.slice (some ⟨g1, 0, none⟩) L c1] 66)) 3 (.int .i64 3)
    rw [World.size_alloc, World.size_alloc] at h
    exact h
  have eB : (w2.alloc (.cells #[.slice none 0 0] 75)).heap.size = Bl + 1 := by rw [hBl]; simp
  rw [eB, ← hBl]
  have HW3 := Frame.hid (HW2.out.trans (hB23.mono HW2.out.size))
  have HO3 := Frame.hid (HO2.out.below hB23)
  have HBS3 := Frame.hid ((hB23.block w.heap.size HB2.out.lt).trans HB2.out : Boxed w3 w.heap.size 27 (.slice (some ⟨bs, off, none⟩) n c))
  have hwl : w.heap.size < Bl := by have := HB2.out.lt; omega
  rw [← hBl] at hg2l
  clear hw3 hB23 eB hBl HO2 HB2
  gi_wp2_with fail
  have hL3 : L = 3 * T := by rw [HL.out, HTT.out]
  have HLT := Frame.hid hL3
  have hsz : w3.heap.size = Bl + 3 := hsz3
  have HKB := Frame.hid (And.intro hbl (And.intro hbS hbN))
  obtain ⟨i0, hi, hz0, hz1, hz2⟩ := info_parts infoTri
  have hcorn : ∀ i, i < L → w3.cell? ⟨g1, i, none⟩ = some (.int .i64 (crn m k i : Nat)) ∧ crn m k i < n := fun i hi => by
    have h := HO3.out.cell rfl (j := i) (by rw [← HL.out]; exact hi)
    obtain ⟨h1, h2⟩ := crn_bd (m := m) (k := k) (i := i) (by rw [← HL.out]; exact hi)
    rw [h1] at h
    exact ⟨h, by rw [HLEN.out]; exact h2⟩
  obtain ⟨b_, off_, hbo, hblw, hcs⟩ := HR.out.h (by rw [← HX.out, HLEN.out]; exact Nat.mul_pos (by omega) (by omega))
  injection hbo with hbo
  injection hbo with hbo1 hbo2
  subst hbo1 hbo2
  have hspot : ∀ j, j < n → At3o w3 bs (off + j * 3) (sx xs j) (sy xs j) (sz xs j) := fun j hj => (hcs j (by rw [← HX.out]; exact hj)).keep HW3.out hblw
  have HCORN := Frame.hid hcorn
  have HSPOT := Frame.hid hspot
  clear hL3 hcorn hspot hcs hlenI hmul hsz3
  refine range_one 37 11 (fun x : Fin T => .slice (some ⟨g1, 3 * x.val, none⟩) 3 3) rfl (by omega) (gf := 92) (lb := #[.pointer (some ⟨Bl + 1, 0, none⟩), .pointer (some ⟨Bl + 1 + 1, 0, none⟩)]) rfl trivial (enters_of Try.func92 (by kernel_rfl) rfl)
    (chunk_stops Fence.wide (fun _ => trivial) 8 rfl (by omega) (Bl + 1) (Bl + 1 + 1) g1 c1 T L HLT.out (by omega) hc1 w3 hbS.cell hbN.cell) (fun h k => ⟨fun x => k.1 (h.1 x), fun x => k.2 (h.2 x)⟩)
    (fun W l o o' hl _ _ _ => ⟨fun x => (cell_putOther (by omega)).trans x, fun x => (cell_putOther (by omega)).trans x⟩) (Below.refl _ _) (fun _ => rfl)
    (fun pre W => ((∃ v, Boxed W Bl 75 v ∧ W.ownsRow w3.heap.size 79 9 v pre.length (triAll xs m k pre) ∧ True) ∧ KeepX w3 Bl W) ∧ Below w.heap.size w W) (fun _ _ _ => False)
    (OwnFrom.and (OwnFrom.and (Own.from (holdsRow_own _ _ _ _ _ (fun pre : List (Fin T) => pre.length) (fun pre => triAll xs m k pre) (fun _ _ => True)) _) (keepX_own w3 Bl)) (ownFrom_below (Nat.le_refl _) HW3.out.size))
    (fun _ _ _ _ _ h _ _ => h)
    ⟨⟨⟨.slice none 0 0, hbl, ⟨rfl, .inl ⟨rfl, rfl⟩⟩, trivial⟩, KeepX.refl _ _⟩, HW3.out⟩
    ?assign ?body ?done ?stop
  case assign =>
    rintro l pre x W K hI hK
    have HK := Frame.hid hK
    have HI := Frame.hid hI
    clear hK hI
    dsimp only [encCh]
    rw [fold1]
    simp only [List.setIfInBounds_toArray, List.set_cons_zero, List.set_cons_succ]
    gi_wp2
    exact HK.out _ _ (KeepsFrom.refl _ _) ⟨fun h => h, fun h => h⟩ HI.out (by simp only [List.setIfInBounds_toArray, List.set_cons_zero, List.set_cons_succ])
  case body =>
    rintro l pre x W hl ⟨r, hr⟩ ⟨⟨⟨v, hbv, hrow, -⟩, hX⟩, hBW⟩ hlt
    simp only [List.setIfInBounds_toArray, List.set_cons_zero, List.set_cons_succ]
    have hxT : x.val < T := x.isLt
    obtain ⟨j, hj⟩ : ∃ j, j = 3 * x.val := ⟨_, rfl⟩
    have hjL : j + 2 < L := by rw [HLT.out]; omega
    rw [← hj]
    obtain ⟨c0, b0⟩ := HCORN.out j (by omega)
    obtain ⟨c1', b1⟩ := HCORN.out (j + 1) (by omega)
    obtain ⟨c2, b2⟩ := HCORN.out (j + 2) (by omega)
    obtain ⟨p0, hp0⟩ : ∃ p0, p0 = crn m k j := ⟨_, rfl⟩
    obtain ⟨p1, hp1⟩ : ∃ p1, p1 = crn m k (j + 1) := ⟨_, rfl⟩
    obtain ⟨p2, hp2⟩ : ∃ p2, p2 = crn m k (j + 2) := ⟨_, rfl⟩
    rw [← hp0] at c0 b0
    rw [← hp1] at c1' b1
    rw [← hp2] at c2 b2
    have HPX := Frame.hid (And.intro hj (And.intro hp0 (And.intro hp1 hp2)))
    have t0 := HSPOT.out p0 b0
    have t1 := HSPOT.out p1 b1
    have t2 := HSPOT.out p2 b2
    have hq : ∀ W', (W'.cell? ⟨Bl, 0, none⟩ = some v ∧ KeepX w3 Bl W') → W'.cell? ⟨Bl, 0, none⟩ = some v ∧ W'.cell? ⟨w.heap.size, 0, none⟩ = some (.slice (some ⟨bs, off, none⟩) n c) ∧ W'.cell? ⟨g1, j, none⟩ = some (.int .i64 (p0 : Nat)) ∧ W'.cell? ⟨g1, j + 1, none⟩ = some (.int .i64 (p1 : Nat)) ∧ W'.cell? ⟨g1, j + 2, none⟩ = some (.int .i64 (p2 : Nat)) ∧ W'.cell? ⟨bs, off + p0 * 3, none⟩ = some (.float .f32 (sx xs p0)) ∧ W'.cell? ⟨bs, off + p0 * 3 + 1, none⟩ = some (.float .f32 (sy xs p0)) ∧ W'.cell? ⟨bs, off + p0 * 3 + 2, none⟩ = some (.float .f32 (sz xs p0)) ∧ W'.cell? ⟨bs, off + p1 * 3, none⟩ = some (.float .f32 (sx xs p1)) ∧ W'.cell? ⟨bs, off + p1 * 3 + 1, none⟩ = some (.float .f32 (sy xs p1)) ∧ W'.cell? ⟨bs, off + p1 * 3 + 2, none⟩ = some (.float .f32 (sz xs p1)) ∧ W'.cell? ⟨bs, off + p2 * 3, none⟩ = some (.float .f32 (sx xs p2)) ∧ W'.cell? ⟨bs, off + p2 * 3 + 1, none⟩ = some (.float .f32 (sy xs p2)) ∧ W'.cell? ⟨bs, off + p2 * 3 + 2, none⟩ = some (.float .f32 (sz xs p2)) := fun W' ⟨h0, hK⟩ => by
      refine ⟨h0, (hK.cell (by omega) (by omega)).trans (Boxed.cell HBS3.out), (hK.cell (by omega) (by omega)).trans c0, (hK.cell (by omega) (by omega)).trans c1', (hK.cell (by omega) (by omega)).trans c2, ?_, ?_, ?_, ?_, ?_, ?_, ?_, ?_, ?_⟩
      · exact (hK.cell (by omega) (by omega)).trans t0.c0
      · exact (hK.cell (by omega) (by omega)).trans t0.c1
      · exact (hK.cell (by omega) (by omega)).trans t0.c2
      · exact (hK.cell (by omega) (by omega)).trans t1.c0
      · exact (hK.cell (by omega) (by omega)).trans t1.c1
      · exact (hK.cell (by omega) (by omega)).trans t1.c2
      · exact (hK.cell (by omega) (by omega)).trans t2.c0
      · exact (hK.cell (by omega) (by omega)).trans t2.c1
      · exact (hK.cell (by omega) (by omega)).trans t2.c2
    have hTC : ∀ A, A = triCells xs p0 p1 p2 → triAll xs m k (pre ++ [x]) = triAll xs m k pre ++ A := fun A h => by rw [h, triAll_snoc, hp0, hp1, hp2, hj]
    unfold triCells at hTC
    have hpl : pre.length < T := hlt
    have HTC := Frame.hid hTC
    clear t0 t1 t2 c0 c1' c2 hp0 hp1 hp2 hj hTC
    obtain ⟨X0, e0⟩ : ∃ z, z = sx xs p0 := ⟨_, rfl⟩
    obtain ⟨Y0, e1⟩ : ∃ z, z = sy xs p0 := ⟨_, rfl⟩
    obtain ⟨Z0, e2⟩ : ∃ z, z = sz xs p0 := ⟨_, rfl⟩
    obtain ⟨X1, e3⟩ : ∃ z, z = sx xs p1 := ⟨_, rfl⟩
    obtain ⟨Y1, e4⟩ : ∃ z, z = sy xs p1 := ⟨_, rfl⟩
    obtain ⟨Z1, e5⟩ : ∃ z, z = sz xs p1 := ⟨_, rfl⟩
    obtain ⟨X2, e6⟩ : ∃ z, z = sx xs p2 := ⟨_, rfl⟩
    obtain ⟨Y2, e7⟩ : ∃ z, z = sy xs p2 := ⟨_, rfl⟩
    obtain ⟨Z2, e8⟩ : ∃ z, z = sz xs p2 := ⟨_, rfl⟩
    rw [← e0, ← e1, ← e2, ← e3, ← e4, ← e5, ← e6, ← e7, ← e8] at HTC
    simp only [← e0, ← e1, ← e2, ← e3, ← e4, ← e5, ← e6, ← e7, ← e8] at hq
    clear e0 e1 e2 e3 e4 e5 e6 e7 e8
    obtain ⟨A', L', c', rfl⟩ : ∃ A' L' c', v = .slice A' L' c' := by
      rcases hrow.2 with ⟨h, _⟩ | ⟨g, cap, cur, h, _⟩
      · exact ⟨none, 0, 0, h⟩
      · exact ⟨_, _, _, h⟩
    have HBV := Frame.hid hbv
    have HROW := Frame.hid hrow
    have HX3 := Frame.hid hX
    have HBW := Frame.hid hBW
    have hbvc := hbv.cell
    have z0 : (0 : Int) ≤ (p0 : Int) := by omega
    have z1 : (p0 : Int) < (n : Int) := by omega
    have z2 : (0 : Int) ≤ (p1 : Int) := by omega
    have z3 : (p1 : Int) < (n : Int) := by omega
    have z4 : (0 : Int) ≤ (p2 : Int) := by omega
    have z5 : (p2 : Int) < (n : Int) := by omega
    clear hbv hrow hX hBW
    gi_wp2
    have hS0 : W.drew.cell? ⟨Bl, 0, none⟩ = some (.slice A' L' c') ∧ KeepX w3 Bl W.drew := ⟨hbvc, HX3.out.grown (grown_drew W) (fun r e => by cases e)⟩
    refine region_handI 22 (fun W' => W'.cell? ⟨Bl, 0, none⟩ = some (.slice A' L' c') ∧ KeepX w3 Bl W') (by kernel_rfl) ?_
    refine' wpEndI_take (fun _ => trivial) 0 rfl (by kernel_rfl) hS0 (Or.inl ⟨by rfl, fun wq hSq => _⟩) _
    rotate_left
    · (obtain ⟨q0, q1, q2, q3, q4, r0, r1, r2, r3, r4, r5, r6, r7, r8⟩ := hq wq hSq; go_simp; (try with_reducible rfl))
    simp only [Act.put, List.setIfInBounds_toArray, List.set_cons_zero, List.set_cons_succ]
    refine' wpEndI_take (fun _ => trivial) 1 rfl (by kernel_rfl) hS0 (Or.inl ⟨by rfl, fun wq hSq => _⟩) _
    rotate_left
    · (obtain ⟨q0, q1, q2, q3, q4, r0, r1, r2, r3, r4, r5, r6, r7, r8⟩ := hq wq hSq; go_simp; (try with_reducible rfl))
    simp only [Act.put, List.setIfInBounds_toArray, List.set_cons_zero, List.set_cons_succ]
    refine' wpEndI_take (fun _ => trivial) 2 rfl (by kernel_rfl) hS0 (Or.inl ⟨by rfl, fun wq hSq => _⟩) _
    rotate_left
    · (obtain ⟨q0, q1, q2, q3, q4, r0, r1, r2, r3, r4, r5, r6, r7, r8⟩ := hq wq hSq; go_simp; (try with_reducible rfl))
    simp only [Act.put, List.setIfInBounds_toArray, List.set_cons_zero, List.set_cons_succ]
    refine' wpEndI_take (fun _ => trivial) 3 rfl (by kernel_rfl) hS0 (Or.inl ⟨by rfl, fun wq hSq => _⟩) _
    rotate_left
    · (obtain ⟨q0, q1, q2, q3, q4, r0, r1, r2, r3, r4, r5, r6, r7, r8⟩ := hq wq hSq; go_simp; (try with_reducible rfl))
    simp only [Act.put, List.setIfInBounds_toArray, List.set_cons_zero, List.set_cons_succ]
    refine' wpEndI_take (fun _ => trivial) 4 rfl (by kernel_rfl) hS0 (Or.inl ⟨by rfl, fun wq hSq => _⟩) _
    rotate_left
    · (obtain ⟨q0, q1, q2, q3, q4, r0, r1, r2, r3, r4, r5, r6, r7, r8⟩ := hq wq hSq; go_simp; (try with_reducible rfl))
    simp only [Act.put, List.setIfInBounds_toArray, List.set_cons_zero, List.set_cons_succ]
    refine' wpEndI_take (fun _ => trivial) 5 rfl (by kernel_rfl) hS0 (Or.inl ⟨by rfl, fun wq hSq => _⟩) _
    rotate_left
    · (obtain ⟨q0, q1, q2, q3, q4, r0, r1, r2, r3, r4, r5, r6, r7, r8⟩ := hq wq hSq; go_simp; (try with_reducible rfl))
    simp only [Act.put, List.setIfInBounds_toArray, List.set_cons_zero, List.set_cons_succ]
    refine' wpEndI_take (fun _ => trivial) 6 rfl (by kernel_rfl) hS0 (Or.inl ⟨by rfl, fun wq hSq => _⟩) _
    rotate_left
    · (obtain ⟨q0, q1, q2, q3, q4, r0, r1, r2, r3, r4, r5, r6, r7, r8⟩ := hq wq hSq; go_simp; (try with_reducible rfl))
    simp only [Act.put, List.setIfInBounds_toArray, List.set_cons_zero, List.set_cons_succ]
    refine' wpEndI_take (fun _ => trivial) 7 rfl (by kernel_rfl) hS0 (Or.inl ⟨by rfl, fun wq hSq => _⟩) _
    rotate_left
    · (obtain ⟨q0, q1, q2, q3, q4, r0, r1, r2, r3, r4, r5, r6, r7, r8⟩ := hq wq hSq; go_simp; (try with_reducible rfl))
    simp only [Act.put, List.setIfInBounds_toArray, List.set_cons_zero, List.set_cons_succ]
    refine' wpEndI_take (fun _ => trivial) 8 rfl (by kernel_rfl) hS0 (Or.inl ⟨by rfl, fun wq hSq => _⟩) _
    rotate_left
    · (obtain ⟨q0, q1, q2, q3, q4, r0, r1, r2, r3, r4, r5, r6, r7, r8⟩ := hq wq hSq; go_simp; (try with_reducible rfl))
    simp only [Act.put, List.setIfInBounds_toArray, List.set_cons_zero, List.set_cons_succ]
    refine' wpEndI_take (fun _ => trivial) 9 rfl (by kernel_rfl) hS0 (Or.inl ⟨by rfl, fun wq hSq => _⟩) _
    rotate_left
    · (obtain ⟨q0, q1, q2, q3, q4, r0, r1, r2, r3, r4, r5, r6, r7, r8⟩ := hq wq hSq; go_simp; (try with_reducible rfl))
    simp only [Act.put, List.setIfInBounds_toArray, List.set_cons_zero, List.set_cons_succ]
    refine' wpEndI_take (fun _ => trivial) 10 rfl (by kernel_rfl) hS0 (Or.inl ⟨by rfl, fun wq hSq => _⟩) _
    rotate_left
    · (obtain ⟨q0, q1, q2, q3, q4, r0, r1, r2, r3, r4, r5, r6, r7, r8⟩ := hq wq hSq; go_simp; (try with_reducible rfl))
    simp only [Act.put, List.setIfInBounds_toArray, List.set_cons_zero, List.set_cons_succ]
    refine' wpEndI_take (fun _ => trivial) 11 rfl (by kernel_rfl) hS0 (Or.inl ⟨by rfl, fun wq hSq => _⟩) _
    rotate_left
    · (obtain ⟨q0, q1, q2, q3, q4, r0, r1, r2, r3, r4, r5, r6, r7, r8⟩ := hq wq hSq; go_simp; (try with_reducible rfl))
    simp only [Act.put, List.setIfInBounds_toArray, List.set_cons_zero, List.set_cons_succ]
    refine' wpEndI_take (fun _ => trivial) 12 rfl (by kernel_rfl) hS0 (Or.inl ⟨by rfl, fun wq hSq => _⟩) _
    rotate_left
    · (obtain ⟨q0, q1, q2, q3, q4, r0, r1, r2, r3, r4, r5, r6, r7, r8⟩ := hq wq hSq; go_simp; (try with_reducible rfl))
    simp only [Act.put, List.setIfInBounds_toArray, List.set_cons_zero, List.set_cons_succ]
    refine' wpEndI_take (fun _ => trivial) 13 rfl (by kernel_rfl) hS0 (Or.inl ⟨by rfl, fun wq hSq => _⟩) _
    rotate_left
    · (obtain ⟨q0, q1, q2, q3, q4, r0, r1, r2, r3, r4, r5, r6, r7, r8⟩ := hq wq hSq; go_simp; (try with_reducible rfl))
    simp only [Act.put, List.setIfInBounds_toArray, List.set_cons_zero, List.set_cons_succ]
    refine' wpEndI_take (fun _ => trivial) 14 rfl (by kernel_rfl) hS0 (Or.inl ⟨by rfl, fun wq hSq => _⟩) _
    rotate_left
    · (obtain ⟨q0, q1, q2, q3, q4, r0, r1, r2, r3, r4, r5, r6, r7, r8⟩ := hq wq hSq; go_simp; (try with_reducible rfl))
    simp only [Act.put, List.setIfInBounds_toArray, List.set_cons_zero, List.set_cons_succ]
    refine' wpEndI_take (fun _ => trivial) 15 rfl (by kernel_rfl) hS0 (Or.inl ⟨by rfl, fun wq hSq => _⟩) _
    rotate_left
    · (obtain ⟨q0, q1, q2, q3, q4, r0, r1, r2, r3, r4, r5, r6, r7, r8⟩ := hq wq hSq; go_simp; (try with_reducible rfl))
    simp only [Act.put, List.setIfInBounds_toArray, List.set_cons_zero, List.set_cons_succ]
    refine' wpEndI_take (fun _ => trivial) 16 rfl (by kernel_rfl) hS0 (Or.inl ⟨by rfl, fun wq hSq => _⟩) _
    rotate_left
    · (obtain ⟨q0, q1, q2, q3, q4, r0, r1, r2, r3, r4, r5, r6, r7, r8⟩ := hq wq hSq; go_simp; (try with_reducible rfl))
    simp only [Act.put, List.setIfInBounds_toArray, List.set_cons_zero, List.set_cons_succ]
    refine' wpEndI_take (fun _ => trivial) 17 rfl (by kernel_rfl) hS0 (Or.inl ⟨by rfl, fun wq hSq => _⟩) _
    rotate_left
    · (obtain ⟨q0, q1, q2, q3, q4, r0, r1, r2, r3, r4, r5, r6, r7, r8⟩ := hq wq hSq; go_simp; (try with_reducible rfl))
    simp only [Act.put, List.setIfInBounds_toArray, List.set_cons_zero, List.set_cons_succ]
    refine' wpEndI_take (fun _ => trivial) 18 rfl (by kernel_rfl) hS0 (Or.inl ⟨by rfl, fun wq hSq => _⟩) _
    rotate_left
    · (obtain ⟨q0, q1, q2, q3, q4, r0, r1, r2, r3, r4, r5, r6, r7, r8⟩ := hq wq hSq; go_simp; (try with_reducible rfl))
    simp only [Act.put, List.setIfInBounds_toArray, List.set_cons_zero, List.set_cons_succ]
    refine' wpEndI_take (fun _ => trivial) 19 rfl (by kernel_rfl) hS0 (Or.inl ⟨by rfl, fun wq hSq => _⟩) _
    rotate_left
    · (obtain ⟨q0, q1, q2, q3, q4, r0, r1, r2, r3, r4, r5, r6, r7, r8⟩ := hq wq hSq; go_simp; (try with_reducible rfl))
    simp only [Act.put, List.setIfInBounds_toArray, List.set_cons_zero, List.set_cons_succ]
    have HS0 := Frame.hid hS0
    refine wpEndI_ready [20] (by kernel_rfl) rfl (AllI.cons rfl (fun K hK => ?_) AllI.nil)
    gi_wp2
    have hS1 : (W.drew.alloc (.cells #[.float .f32 X0, .float .f32 Y0, .float .f32 Z0, .float .f32 X1, .float .f32 Y1, .float .f32 Z1, .float .f32 X2, .float .f32 Y2, .float .f32 Z2] 79)).cell? ⟨Bl, 0, none⟩ = some (.slice A' L' c') ∧ KeepX w3 Bl (W.drew.alloc (.cells #[.float .f32 X0, .float .f32 Y0, .float .f32 Z0, .float .f32 X1, .float .f32 Y1, .float .f32 Z1, .float .f32 X2, .float .f32 Y2, .float .f32 Z2] 79)) := by
      have hbd : Boxed W.drew Bl 75 (.slice A' L' c') := HBV.out
      exact ⟨(hbd.alloc _).cell, HS0.out.2.grown (World.grownBy_alloc _ _ none) (fun r e => by cases e)⟩
    refine hK.out _ _ (.inr hS1) ?_
    clear hK K
    (try simp only [Act.put, List.setIfInBounds_toArray, List.set_cons_zero, List.set_cons_succ])
    refine wpEndI_ready [21] (by kernel_rfl) rfl (AllI.cons rfl (fun K hK => ?_) AllI.nil)
    have hrowD : ((W.alloc (.cells #[.float .f32 X0, .float .f32 Y0, .float .f32 Z0, .float .f32 X1, .float .f32 Y1, .float .f32 Z1, .float .f32 X2, .float .f32 Y2, .float .f32 Z2] 79)).drew).ownsRow w3.heap.size 79 9 (.slice A' L' c') pre.length (triAll xs m k pre) := World.ownsRow.drew (HROW.out.alloc _)
    have hWs : w3.heap.size ≤ W.heap.size := HX3.out.s
    refine wpListIn_append_own _ rfl _ _ 75 rfl w3.heap.size 79 i0 _ 9 36 Try.underlying75 hi hz0 hz1 hz2 rfl (by decide) (.slice A' L' c') pre.length (triAll xs m k pre) rfl hrowD ⟨W.heap.size, 0, none⟩ 1 1 [.float .f32 X0, .float .f32 Y0, .float .f32 Z0, .float .f32 X1, .float .f32 Y1, .float .f32 Z1, .float .f32 X2, .float .f32 Y2, .float .f32 Z2] rfl rfl (nine_news _ _ _ rfl) (by intro u hu; simp at hu; rcases hu with rfl | rfl | rfl | rfl | rfl | rfl | rfl | rfl | rfl <;> rfl) (by unfold maxLen; omega) (by omega) (by simp; omega) ?_
    intro v' w4 hown4 hgrow4 hnil4
    have hbd : Boxed ((W.alloc (.cells #[.float .f32 X0, .float .f32 Y0, .float .f32 Z0, .float .f32 X1, .float .f32 Y1, .float .f32 Z1, .float .f32 X2, .float .f32 Y2, .float .f32 Z2] 79)).drew) Bl 75 (.slice A' L' c') := HBV.out.alloc _
    have hv4 : Boxed w4 Bl 75 (.slice A' L' c') := hbd.kept hgrow4 (hbd.not_row (by decide) hrowD)
    have hX4 : KeepX w3 Bl w4 := (((HX3.out.grown (World.grownBy_alloc _ _ none) (fun r e => by cases e)).grown (grown_drew _) (fun r e => by cases e))).grown hgrow4 (fun r e => (World.ownsRow.lt hrowD r e).1)
    have hKO : KeepsOthers W w4 := ((KeepsOthers.alloc W _).trans (keeps_drew _)).trans (KeepsOthers.of_grownBy hgrow4 fun j o ej hj => by
      rcases hrowD.2 with ⟨h0, _⟩ | ⟨g, cap, cur, h0, _, hgb, _⟩
      · rw [h0] at ej; simp [Value.ownBlock] at ej
      · rw [h0] at ej
        obtain rfl : g = j := by simpa [Value.ownBlock] using ej
        rw [hgb] at hj; cases hj; rfl)
    obtain ⟨A2, L2, c2, rfl⟩ : ∃ A2 L2 c2, v' = .slice A2 L2 c2 := by
      rcases hown4.2 with ⟨h, _⟩ | ⟨g, cap, cur, h, _⟩
      · exact ⟨none, 0, 0, h⟩
      · exact ⟨_, _, _, h⟩
    have HB4 := Frame.hid (Below.grown ((HBW.out.alloc HBW.out.size (.cells #[.float .f32 X0, .float .f32 Y0, .float .f32 Z0, .float .f32 X1, .float .f32 Y1, .float .f32 Z1, .float .f32 X2, .float .f32 Y2, .float .f32 Z2] 79)).drew) hgrow4 (by have := HBW.out.size; simp; omega) (fun r e => Nat.le_trans HW3.out.size (World.ownsRow.lt hrowD r e).1))
    have HV4 := Frame.hid hv4
    have HX4 := Frame.hid hX4
    have HOWN4 := Frame.hid hown4
    have HKO := Frame.hid hKO
    have d0 := hv4.cell
    have d1 := hv4.frozen
    clear hown4 hgrow4 hnil4 hbd hv4 hX4 hKO hrowD
    refine wpListIn_nil ?_
    refine hK.out _ _ (.inr ⟨d0, HX4.out⟩) ?_
    clear hK K
    (try simp only [Act.put, List.setIfInBounds_toArray, List.set_cons_zero, List.set_cons_succ])
    refine wpEndI_ready [22] (by kernel_rfl) rfl (AllI.cons rfl (fun K hK => ?_) AllI.nil)
    gi_wp2
    refine hK.out _ _ (by first | exact .inl rfl | exact .inl trivial) ?_
    clear hK K
    refine wpEndI_done (by kernel_rfl) ?_
    gi_wp2
    have hX5 : KeepX w3 Bl (w4.setCell ⟨Bl, 0, none⟩ (.slice A2 L2 c2)) := HX4.out.put
    refine ⟨(HKO.out.trans (KeepsOthers.setCell _ _ _)).from _, ⟨fun _ => (hX5.cell (by omega) (by omega)).trans HKB.out.2.1.cell, fun _ => (hX5.cell (by omega) (by omega)).trans HKB.out.2.2.cell⟩, ⟨⟨_, Boxed.set _ HV4.out, ?_, trivial⟩, hX5⟩, HB4.out.setCell (p := ⟨Bl, 0, none⟩) (by show w.heap.size ≤ Bl; omega) _⟩
    rw [List.length_append, List.length_cons, List.length_nil, HTC.out _ rfl]
    exact HOWN4.out.kept (grownBy_setCell' w4 Bl _) (.inr (Boxed.not_row HV4.out (by decide) HOWN4.out).symm)
  case done =>
    rintro D ys W hD rfl ⟨⟨⟨v, hbv, hrow, -⟩, hX⟩, hBW⟩ hK
    rw [List.length_finRange] at hrow
    have hvc := hbv.cell
    have HROW := Frame.hid hrow
    have HBW := Frame.hid hX
    obtain ⟨A', L', c', rfl⟩ : ∃ A' L' c', v = .slice A' L' c' := by
      rcases hrow.2 with ⟨h, _⟩ | ⟨g, cap, cur, h, _⟩
      · exact ⟨none, 0, 0, h⟩
      · exact ⟨_, _, _, h⟩
    have HBB := Frame.hid hBW
    clear hrow hX hBW
    gi_wp2
    refine ⟨by simp, .inl ⟨_, _, rfl, run_takeDeferred hK, ?_⟩⟩
    refine ⟨.tuple #[.slice A' L' c', .bool true], by simp [results, Try.f46, go_sem], _, rfl, ?_, HBB.out.trans (belowK_b (w := w) (Nat.le_refl _) W D _ _ (by have := HW3.out.size; omega) hK rfl rfl)⟩
    refine ownsRow_putObj ?_ _ hK rfl
    exact ⟨HROW.out.1, HROW.out.2.imp id fun ⟨g, cap, cur, e1, e2, e3⟩ => ⟨g, cap, cur, e1, Nat.le_trans HW3.out.size e2, e3⟩⟩
  case stop =>
    rintro D cd pre W hD hpre h hK
    exact h.elim

end Go.Proofs.Ytfkdkdocbecjmaa
