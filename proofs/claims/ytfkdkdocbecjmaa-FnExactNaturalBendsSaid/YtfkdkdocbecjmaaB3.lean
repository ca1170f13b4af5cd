/-
  The rises of a graph: the program's list of them.
-/
import Derived.Test.YtfkdkdocbecjmaaB2
import Derived.Test.YtfkdkdocbecjmaaJg
import Derived.Test.YtfkdkdocbecjmaaRz
namespace Go.Proofs.Ytfkdkdocbecjmaa
open Go.RowKit Go.Shelf Fl Go.WideShapes Go.Deep
attribute [local go_sem] Oper.semAt_some

/-- How wide and how steep a leg is. -/
def RiseR (xs ys : List Nat) (i wide slope : Nat) : Prop := FOp .sub .f32 (xs.getD (i + 1) 0) (xs.getD i 0) wide ∧ ∃ u, FOp .sub .f32 (ys.getD (i + 1) 0) (ys.getD i 0) u ∧ FOp .quo .f32 u wide slope
/-- The rises, as cells. -/
def riseCells : List (Nat × Nat) → List Value
  | [] => []
  | p :: l => .float .f32 p.1 :: .float .f32 p.2 :: riseCells l
theorem riseCells_len (l : List (Nat × Nat)) : (riseCells l).length = l.length * 2 := by
  induction l with
  | nil => rfl
  | cons p l ih => rw [riseCells, List.length_cons, List.length_cons, ih, List.length_cons]; omega
theorem riseCells_snoc (l : List (Nat × Nat)) (p : Nat × Nat) : riseCells (l ++ [p]) = riseCells l ++ [.float .f32 p.1, .float .f32 p.2] := by
  induction l with
  | nil => rfl
  | cons q l ih => rw [List.cons_append, riseCells, riseCells, ih]; rfl
/-- The rises so far. -/
def RiseL (xs ys : List Nat) {m : Nat} (pre : List (Fin m)) (cs : List Value) : Prop := ∃ l : List (Nat × Nat), l.length = pre.length ∧ cs = riseCells l ∧ (∀ i, i < l.length → ∀ x : Fin m, pre[i]? = some x → RiseR xs ys x.val (l.getD i (0, 0)).1 (l.getD i (0, 0)).2)
theorem infoRise : (Try.prog.info? 88).map (fun i => (i.zero, i.size, i.bytes)) = some (some (.agg #[.float .f32 0, .float .f32 0]), 2, 8) := by kernel_rfl
theorem two_news (W : World) (news : List Value) (t : TypeId) {w : World} (h : w = W.alloc (.cells news.toArray t)) : ∀ j u, news[j]? = some u → w.cell? ((⟨W.heap.size, 0, none⟩ : Addr).add j) = some u := by
  intro j u hj
  subst h
  rw [Go.WideShapes.add_plain, Nat.zero_add, World.cell?_alloc_new]
  simpa using hj
theorem KeepX.drewN {Wl W : World} {Bl : Nat} (h : KeepX Wl Bl W) (n : Nat) : KeepX Wl Bl (W.drewN n) := ⟨by simpa using h.s, fun k hk hne => ((below_drewN (Below.refl W.heap.size W) n).block k (Nat.lt_of_lt_of_le hk h.s)).trans (h.h k hk hne)⟩

set_option maxRecDepth 100000 in
set_option maxHeartbeats 4000000 in
theorem risesOf_calls (b off c b2 off2 d m0 : Nat) (xs ys : List Nat) (hm : 1 ≤ m0 ∧ m0 ≤ 1000) (w : World) (hx : ∀ j, j < m0 + 1 → w.cell? ⟨b, off + j, none⟩ = some (.float .f32 (xs.getD j 0))) (hy : ∀ j, j < m0 + 1 → w.cell? ⟨b2, off2 + j, none⟩ = some (.float .f32 (ys.getD j 0))) (hb : b < w.heap.size) (hb2 : b2 < w.heap.size) :
    Calls Try.prog 54 #[.slice (some ⟨b, off, none⟩) (m0 + 1) c, .slice (some ⟨b2, off2, none⟩) (m0 + 1) d] w fun e w' => ∃ v cs, e = .returned v ∧ RiseL xs ys (List.finRange m0) cs ∧ w'.ownsRow w.heap.size 88 2 v m0 cs ∧ Below w.heap.size w w' := by
  have HXC := Frame.hid hx
  have HYC := Frame.hid hy
  clear hx hy
  refine (callsIn_wide (n := 9)).1 ?_
  refine callsIn_of_wp_marks Try.func54 rfl trivial ?_
  simp only [Try.ntmps54, List.size_toArray, List.length_cons, List.length_nil, Nat.reduceAdd, Nat.reduceSub, Array.replicate_succ, Array.replicate_zero, List.push_toArray, List.append_toArray, List.nil_append, List.cons_append]
  gi_wp2_with fail
  refine ⟨trivial, (legs_in Fence.wide _ trivial rfl _ _).mono ?_⟩
  rintro e w3 ⟨rfl, hw3⟩
  simp only [World.size_alloc]
  have hsz3 : w3.heap.size = w.heap.size + 4 := by rw [hw3]; simp
  have hB03 : Below w.heap.size w w3 := by rw [hw3]; exact ((((Below.refl _ _).alloc (Nat.le_refl _) _).alloc (by simp) _).alloc (by simp; omega) _).alloc (by simp; omega) _
  have bX : Boxed w3 w.heap.size 44 (.slice (some ⟨b, off, none⟩) (m0 + 1) c) := by rw [hw3]; exact (((Boxed.new w _ _).alloc _).alloc _).alloc _
  have bY : Boxed w3 (w.heap.size + 1) 44 (.slice (some ⟨b2, off2, none⟩) (m0 + 1) d) := by
    rw [hw3]
    have h := Boxed.new (w.alloc (.cells #[.slice (some ⟨b, off, none⟩) (m0 + 1) c] 44)) 44 (.slice (some ⟨b2, off2, none⟩) (m0 + 1) d)
    rw [World.size_alloc] at h
    exact (h.alloc _).alloc _
  have bL : Boxed w3 (w.heap.size + 1 + 1) 84 (.slice none 0 0) := by
    rw [hw3]
    have h := Boxed.new ((w.alloc (.cells #[.slice (some ⟨b, off, none⟩) (m0 + 1) c] 44)).alloc (.cells #[.slice (some ⟨b2, off2, none⟩) (m0 + 1) d] 44)) 84 (.slice none 0 0)
    rw [World.size_alloc, World.size_alloc] at h
    exact h.alloc _
  have hN : w3.cell? ⟨w.heap.size + 1 + 1 + 1, 0, none⟩ = some (.int .i64 ((m0 : Int) + 1)) := by rw [hw3]; simp [go_sem]
  obtain ⟨i0, hi, hz0, hz1, hz2⟩ := info_parts infoRise
  clear hw3
  gi_wp2_with fail
  refine range_box 11 6 (fun x : Fin m0 => .agg #[.int .i64 (x.val : Int), .int .i64 ((x.val : Int) + 1)]) (fun x : Fin m0 => #[.int .i64 (x.val : Int), .int .i64 ((x.val : Int) + 1)]) 117 rfl (by omega) (gf := 96) (lb := #[.pointer (some ⟨w.heap.size + 1 + 1 + 1, 0, none⟩)]) rfl trivial (enters_of Try.func96 (by kernel_rfl) rfl)
    (legs_stops Fence.wide 8 trivial rfl (by omega) (w.heap.size + 1 + 1 + 1) m0 hm.2 w3 (by omega) hN) (fun _ _ => trivial) (fun _ _ _ _ _ _ _ _ => trivial) (Below.refl _ _) (fun _ => rfl)
    (fun pre W => ((∃ v cs, RiseL xs ys pre cs ∧ Boxed W (w.heap.size + 1 + 1) 84 v ∧ W.ownsRow w3.heap.size 88 2 v pre.length cs) ∧ KeepX w3 (w.heap.size + 1 + 1) W) ∧ Below w.heap.size w W) (fun _ _ _ => False)
    (OwnFrom.and (OwnFrom.and (Own.from (rowsR_own _ _ _ _ _ (fun pre : List (Fin m0) => pre.length) (fun pre cs => RiseL xs ys pre cs)) _) (keepX_own w3 _)) (ownFrom_below (Nat.le_refl _) (by omega)))
    (fun _ _ _ _ _ h _ _ => h)
    ⟨⟨⟨.slice none 0 0, [], ⟨[], rfl, rfl, fun i hi => by simp at hi⟩, bL, ⟨rfl, .inl ⟨rfl, rfl⟩⟩⟩, KeepX.refl _ _⟩, hB03⟩
    ?assign ?body ?done ?stop
  case assign =>
    rintro l pre x W K ⟨⟨⟨v, cs, hR, hbv, hrow⟩, hX⟩, hBW⟩ hK
    have HK := Frame.hid hK
    have HI := Frame.hid (And.intro hR (And.intro hbv (And.intro hrow (And.intro hX hBW))))
    have hs3 := hX.s
    clear hK hR hbv hrow hX hBW
    dsimp only [encLeg]
    rw [fold1]
    simp only [List.setIfInBounds_toArray, List.set_cons_zero, List.set_cons_succ]
    gi_wp2
    exact HK.out _ _ ((KeepsOthers.alloc _ _).from _) trivial ⟨⟨⟨v, cs, HI.out.1, HI.out.2.1.alloc _, HI.out.2.2.1.alloc _⟩, HI.out.2.2.2.1.grown (World.grownBy_alloc _ _ none) (fun r e => by cases e)⟩, HI.out.2.2.2.2.alloc HI.out.2.2.2.2.size _⟩ ⟨W.heap.size, hs3, heap_alloc_new W _, by simp only [List.setIfInBounds_toArray, List.set_cons_zero, List.set_cons_succ]⟩
  case body =>
    rintro l pre x Bx W hl ⟨r, hr⟩ ⟨⟨⟨v, cs, hR, hbv, hrow⟩, hX⟩, hBW⟩ hBx hleg hlt
    simp only [List.setIfInBounds_toArray, List.set_cons_zero, List.set_cons_succ]
    obtain ⟨j, hj⟩ : ∃ j, j = x.val := ⟨_, rfl⟩
    have hjm : j < m0 := by rw [hj]; exact x.isLt
    rw [← hj]
    have hBxs : Bx < W.heap.size := (Array.getElem?_eq_some_iff.1 hleg).1
    have hws : w3.heap.size ≤ W.heap.size := hX.s
    have hsof : ∀ W', Below W.heap.size W W' → (Boxed W' (w.heap.size + 1 + 1) 84 v ∧ KeepX w3 (w.heap.size + 1 + 1) W' ∧ W'.heap[Bx]? = some (.cells #[.int .i64 (x.val : Int), .int .i64 ((x.val : Int) + 1)] 117 (0, 0))) := fun W' hB => ⟨(hB.block _ hbv.lt).trans hbv, ⟨Nat.le_trans hX.s hB.size, fun k hk hne => (hB.block k (Nat.lt_of_lt_of_le hk hX.s)).trans (hX.h k hk hne)⟩, (hB.block Bx hBxs).trans hleg⟩
    have HSO := Frame.hid hsof
    clear hsof
    have hq : ∀ W', (Boxed W' (w.heap.size + 1 + 1) 84 v ∧ KeepX w3 (w.heap.size + 1 + 1) W' ∧ W'.heap[Bx]? = some (.cells #[.int .i64 (x.val : Int), .int .i64 ((x.val : Int) + 1)] 117 (0, 0))) → W'.cell? ⟨w.heap.size + 1 + 1, 0, none⟩ = some v ∧ W'.cell? ⟨w.heap.size, 0, none⟩ = some (.slice (some ⟨b, off, none⟩) (m0 + 1) c) ∧ W'.cell? ⟨w.heap.size + 1, 0, none⟩ = some (.slice (some ⟨b2, off2, none⟩) (m0 + 1) d) ∧ W'.cell? ⟨Bx, 0, none⟩ = some (.int .i64 (j : Int)) ∧ W'.cell? ⟨Bx, 1, none⟩ = some (.int .i64 ((j : Int) + 1)) ∧ W'.cell? ⟨b, off + j, none⟩ = some (.float .f32 (xs.getD j 0)) ∧ W'.cell? ⟨b, off + (j + 1), none⟩ = some (.float .f32 (xs.getD (j + 1) 0)) ∧ W'.cell? ⟨b2, off2 + j, none⟩ = some (.float .f32 (ys.getD j 0)) ∧ W'.cell? ⟨b2, off2 + (j + 1), none⟩ = some (.float .f32 (ys.getD (j + 1) 0)) := by
      rintro W' ⟨h0, hK, hL⟩
      refine ⟨h0.cell, ?_, ?_, by rw [cell_of_row W' Bx 0 _ _ (0, 0) hL, hj]; rfl, by rw [cell_of_row W' Bx 1 _ _ (0, 0) hL, hj]; rfl, ?_, ?_, ?_, ?_⟩
      · exact (hK.cell (by omega) (by omega)).trans bX.cell
      · exact (hK.cell (by omega) (by omega)).trans bY.cell
      · exact (hK.cell (by omega) (by omega)).trans ((hB03.cell (p := ⟨b, off + j, none⟩) hb).trans (HXC.out j (by omega)))
      · exact (hK.cell (by omega) (by omega)).trans ((hB03.cell (p := ⟨b, off + (j + 1), none⟩) hb).trans (HXC.out (j + 1) (by omega)))
      · exact (hK.cell (by omega) (by omega)).trans ((hB03.cell (p := ⟨b2, off2 + j, none⟩) hb2).trans (HYC.out j (by omega)))
      · exact (hK.cell (by omega) (by omega)).trans ((hB03.cell (p := ⟨b2, off2 + (j + 1), none⟩) hb2).trans (HYC.out (j + 1) (by omega)))
    obtain ⟨xa, hxa⟩ : ∃ z, z = xs.getD j 0 := ⟨_, rfl⟩
    obtain ⟨xb, hxb⟩ : ∃ z, z = xs.getD (j + 1) 0 := ⟨_, rfl⟩
    obtain ⟨ya, hya⟩ : ∃ z, z = ys.getD j 0 := ⟨_, rfl⟩
    obtain ⟨yb, hyb⟩ : ∃ z, z = ys.getD (j + 1) 0 := ⟨_, rfl⟩
    simp only [← hxa, ← hxb, ← hya, ← hyb] at hq
    have HQ := Frame.hid hq
    have HXY := Frame.hid (And.intro hj (And.intro hxa (And.intro hxb (And.intro hya hyb))))
    have HR := Frame.hid hR
    have HBV := Frame.hid hbv
    have HROW := Frame.hid hrow
    have HX3 := Frame.hid hX
    have HBWW := Frame.hid hBW
    have hpl : pre.length < m0 := hlt
    have p0 : (0 : Int) ≤ (j : Int) := by omega
    have p1 : (j : Int) < (m0 : Int) + 1 := by omega
    have q0' : ¬ ((j : Int) + 1 < 0) := by omega
    have q1' : (0 : Int) ≤ (j : Int) + 1 := by omega
    have q2' : ((j : Int) + 1).toNat = j + 1 := by omega
    have q4' : (j : Int) + 1 < (m0 : Int) + 1 := by omega
    have HLEG := Frame.hid hleg
    clear hq hleg hR hbv hrow hX hBW hxa hxb hya hyb hj hlt hr
    gi_wp2_with fail
    refine region_handI 11 (fun W' => (Boxed W' (w.heap.size + 1 + 1) 84 v ∧ KeepX w3 (w.heap.size + 1 + 1) W' ∧ W'.heap[Bx]? = some (.cells #[.int .i64 (x.val : Int), .int .i64 ((x.val : Int) + 1)] 117 (0, 0)))) (by kernel_rfl) ?_
    have hBwd : Below W.heap.size W W.drew := (Below.refl _ _).drew
    have hS0 := HSO.out _ hBwd
    generalize W.drew = wd at hS0 hBwd ⊢
    refine' wpEndI_take (fun _ => trivial) 0 rfl (by kernel_rfl) hS0 (Or.inl ⟨by rfl, fun wq hSq => _⟩) _
    rotate_left
    · (obtain ⟨q0, q1, q2, q3, q4, q5, q6, q7, q8⟩ := HQ.out wq hSq; go_simp; (try with_reducible rfl))
    simp only [Act.put, List.setIfInBounds_toArray, List.set_cons_zero, List.set_cons_succ]
    refine' wpEndI_take (fun _ => trivial) 1 rfl (by kernel_rfl) hS0 (Or.inl ⟨by rfl, fun wq hSq => _⟩) _
    rotate_left
    · (obtain ⟨q0, q1, q2, q3, q4, q5, q6, q7, q8⟩ := HQ.out wq hSq; go_simp; (try with_reducible rfl))
    simp only [Act.put, List.setIfInBounds_toArray, List.set_cons_zero, List.set_cons_succ]
    refine' wpEndI_take (fun _ => trivial) 2 rfl (by kernel_rfl) hS0 (Or.inl ⟨by rfl, fun wq hSq => _⟩) _
    rotate_left
    · (obtain ⟨q0, q1, q2, q3, q4, q5, q6, q7, q8⟩ := HQ.out wq hSq; go_simp; (try with_reducible rfl))
    simp only [Act.put, List.setIfInBounds_toArray, List.set_cons_zero, List.set_cons_succ]
    refine' wpEndI_take (fun _ => trivial) 3 rfl (by kernel_rfl) hS0 (Or.inl ⟨by rfl, fun wq hSq => _⟩) _
    rotate_left
    · (obtain ⟨q0, q1, q2, q3, q4, q5, q6, q7, q8⟩ := HQ.out wq hSq; go_simp; (try with_reducible rfl))
    simp only [Act.put, List.setIfInBounds_toArray, List.set_cons_zero, List.set_cons_succ]
    refine' wpEndI_take (fun _ => trivial) 4 rfl (by kernel_rfl) hS0 (Or.inl ⟨by rfl, fun wq hSq => _⟩) _
    rotate_left
    · (obtain ⟨q0, q1, q2, q3, q4, q5, q6, q7, q8⟩ := HQ.out wq hSq; go_simp; (try with_reducible rfl))
    simp only [Act.put, List.setIfInBounds_toArray, List.set_cons_zero, List.set_cons_succ]
    refine' wpEndI_take (fun _ => trivial) 5 rfl (by kernel_rfl) hS0 (Or.inl ⟨by rfl, fun wq hSq => _⟩) _
    rotate_left
    · (obtain ⟨q0, q1, q2, q3, q4, q5, q6, q7, q8⟩ := HQ.out wq hSq; go_simp; (try with_reducible rfl))
    simp only [Act.put, List.setIfInBounds_toArray, List.set_cons_zero, List.set_cons_succ]
    refine' wpEndI_take (fun _ => trivial) 6 rfl (by kernel_rfl) hS0 (Or.inl ⟨by rfl, fun wq hSq => _⟩) _
    rotate_left
    · (obtain ⟨q0, q1, q2, q3, q4, q5, q6, q7, q8⟩ := HQ.out wq hSq; go_simp; (try with_reducible rfl))
    simp only [Act.put, List.setIfInBounds_toArray, List.set_cons_zero, List.set_cons_succ]
    refine' wpEndI_take (fun _ => trivial) 7 rfl (by kernel_rfl) hS0 (Or.inl ⟨by rfl, fun wq hSq => _⟩) _
    rotate_left
    · (obtain ⟨q0, q1, q2, q3, q4, q5, q6, q7, q8⟩ := HQ.out wq hSq; go_simp; (try with_reducible rfl))
    simp only [Act.put, List.setIfInBounds_toArray, List.set_cons_zero, List.set_cons_succ]
    refine' wpEndI_take (fun _ => trivial) 8 rfl (by kernel_rfl) hS0 (Or.inl ⟨by rfl, fun wq hSq => _⟩) _
    rotate_left
    · (obtain ⟨q0, q1, q2, q3, q4, q5, q6, q7, q8⟩ := HQ.out wq hSq; go_simp; (try with_reducible rfl))
    simp only [Act.put, List.setIfInBounds_toArray, List.set_cons_zero, List.set_cons_succ]
    refine' wpEndI_take (fun _ => trivial) 9 rfl (by kernel_rfl) hS0 (Or.inl ⟨by rfl, fun wq hSq => _⟩) _
    rotate_left
    · (obtain ⟨q0, q1, q2, q3, q4, q5, q6, q7, q8⟩ := HQ.out wq hSq; go_simp; (try with_reducible rfl))
    simp only [Act.put, List.setIfInBounds_toArray, List.set_cons_zero, List.set_cons_succ]
    clear hS0
    refine wpEndI_ready [10] (by kernel_rfl) rfl (AllI.cons rfl (fun K hK => ?_) AllI.nil)
    refine wpListIn_arithY rfl _ _ _ _ _ rfl rfl _ _ _ rfl rfl ?_
    intro wide n1 hwide _
    have hBwa : Below W.heap.size W (wd.drewN n1) := below_drewN hBwd _
    generalize wd.drewN n1 = wa at hBwa ⊢
    refine wpListIn_nil ?_
    refine hK.out _ _ (.inr (HSO.out _ hBwa)) ?_
    clear hK K
    (try simp only [Act.put, List.setIfInBounds_toArray, List.set_cons_zero, List.set_cons_succ])
    refine wpEndI_ready [11] (by kernel_rfl) rfl (AllI.cons rfl (fun K hK => ?_) AllI.nil)
    gi_wp2
    refine hK.out _ _ (by first | exact .inl rfl | exact .inl trivial) ?_
    clear hK K
    refine wpEndI_done (by kernel_rfl) ?_
    gi_wp2_with fail
    refine region_handI 18 (fun W' => (Boxed W' (w.heap.size + 1 + 1) 84 v ∧ KeepX w3 (w.heap.size + 1 + 1) W' ∧ W'.heap[Bx]? = some (.cells #[.int .i64 (x.val : Int), .int .i64 ((x.val : Int) + 1)] 117 (0, 0)))) (by kernel_rfl) ?_
    have hBwe : Below W.heap.size W wa.drew := hBwa.drew
    have hS0 := HSO.out _ hBwe
    generalize wa.drew = we at hS0 hBwe ⊢
    refine' wpEndI_take (fun _ => trivial) 0 rfl (by kernel_rfl) hS0 (Or.inl ⟨by rfl, fun wq hSq => _⟩) _
    rotate_left
    · (obtain ⟨q0, q1, q2, q3, q4, q5, q6, q7, q8⟩ := HQ.out wq hSq; go_simp; (try with_reducible rfl))
    simp only [Act.put, List.setIfInBounds_toArray, List.set_cons_zero, List.set_cons_succ]
    refine' wpEndI_take (fun _ => trivial) 1 rfl (by kernel_rfl) hS0 (Or.inl ⟨by rfl, fun wq hSq => _⟩) _
    rotate_left
    · (obtain ⟨q0, q1, q2, q3, q4, q5, q6, q7, q8⟩ := HQ.out wq hSq; go_simp; (try with_reducible rfl))
    simp only [Act.put, List.setIfInBounds_toArray, List.set_cons_zero, List.set_cons_succ]
    refine' wpEndI_take (fun _ => trivial) 2 rfl (by kernel_rfl) hS0 (Or.inl ⟨by rfl, fun wq hSq => _⟩) _
    rotate_left
    · (obtain ⟨q0, q1, q2, q3, q4, q5, q6, q7, q8⟩ := HQ.out wq hSq; go_simp; (try with_reducible rfl))
    simp only [Act.put, List.setIfInBounds_toArray, List.set_cons_zero, List.set_cons_succ]
    refine' wpEndI_take (fun _ => trivial) 3 rfl (by kernel_rfl) hS0 (Or.inl ⟨by rfl, fun wq hSq => _⟩) _
    rotate_left
    · (obtain ⟨q0, q1, q2, q3, q4, q5, q6, q7, q8⟩ := HQ.out wq hSq; go_simp; (try with_reducible rfl))
    simp only [Act.put, List.setIfInBounds_toArray, List.set_cons_zero, List.set_cons_succ]
    refine' wpEndI_take (fun _ => trivial) 4 rfl (by kernel_rfl) hS0 (Or.inl ⟨by rfl, fun wq hSq => _⟩) _
    rotate_left
    · (obtain ⟨q0, q1, q2, q3, q4, q5, q6, q7, q8⟩ := HQ.out wq hSq; go_simp; (try with_reducible rfl))
    simp only [Act.put, List.setIfInBounds_toArray, List.set_cons_zero, List.set_cons_succ]
    refine' wpEndI_take (fun _ => trivial) 5 rfl (by kernel_rfl) hS0 (Or.inl ⟨by rfl, fun wq hSq => _⟩) _
    rotate_left
    · (obtain ⟨q0, q1, q2, q3, q4, q5, q6, q7, q8⟩ := HQ.out wq hSq; go_simp; (try with_reducible rfl))
    simp only [Act.put, List.setIfInBounds_toArray, List.set_cons_zero, List.set_cons_succ]
    refine' wpEndI_take (fun _ => trivial) 6 rfl (by kernel_rfl) hS0 (Or.inl ⟨by rfl, fun wq hSq => _⟩) _
    rotate_left
    · (obtain ⟨q0, q1, q2, q3, q4, q5, q6, q7, q8⟩ := HQ.out wq hSq; go_simp; (try with_reducible rfl))
    simp only [Act.put, List.setIfInBounds_toArray, List.set_cons_zero, List.set_cons_succ]
    refine' wpEndI_take (fun _ => trivial) 7 rfl (by kernel_rfl) hS0 (Or.inl ⟨by rfl, fun wq hSq => _⟩) _
    rotate_left
    · (obtain ⟨q0, q1, q2, q3, q4, q5, q6, q7, q8⟩ := HQ.out wq hSq; go_simp; (try with_reducible rfl))
    simp only [Act.put, List.setIfInBounds_toArray, List.set_cons_zero, List.set_cons_succ]
    refine' wpEndI_take (fun _ => trivial) 8 rfl (by kernel_rfl) hS0 (Or.inl ⟨by rfl, fun wq hSq => _⟩) _
    rotate_left
    · (obtain ⟨q0, q1, q2, q3, q4, q5, q6, q7, q8⟩ := HQ.out wq hSq; go_simp; (try with_reducible rfl))
    simp only [Act.put, List.setIfInBounds_toArray, List.set_cons_zero, List.set_cons_succ]
    refine' wpEndI_take (fun _ => trivial) 9 rfl (by kernel_rfl) hS0 (Or.inl ⟨by rfl, fun wq hSq => _⟩) _
    rotate_left
    · (obtain ⟨q0, q1, q2, q3, q4, q5, q6, q7, q8⟩ := HQ.out wq hSq; go_simp; (try with_reducible rfl))
    simp only [Act.put, List.setIfInBounds_toArray, List.set_cons_zero, List.set_cons_succ]
    refine' wpEndI_take (fun _ => trivial) 10 rfl (by kernel_rfl) hS0 (Or.inl ⟨by rfl, fun wq hSq => _⟩) _
    rotate_left
    · (obtain ⟨q0, q1, q2, q3, q4, q5, q6, q7, q8⟩ := HQ.out wq hSq; go_simp; (try with_reducible rfl))
    simp only [Act.put, List.setIfInBounds_toArray, List.set_cons_zero, List.set_cons_succ]
    refine' wpEndI_take (fun _ => trivial) 11 rfl (by kernel_rfl) hS0 (Or.inl ⟨by rfl, fun wq hSq => _⟩) _
    rotate_left
    · (obtain ⟨q0, q1, q2, q3, q4, q5, q6, q7, q8⟩ := HQ.out wq hSq; go_simp; (try with_reducible rfl))
    simp only [Act.put, List.setIfInBounds_toArray, List.set_cons_zero, List.set_cons_succ]
    refine' wpEndI_take (fun _ => trivial) 13 rfl (by kernel_rfl) hS0 (Or.inl ⟨by rfl, fun wq hSq => _⟩) _
    rotate_left
    · (obtain ⟨q0, q1, q2, q3, q4, q5, q6, q7, q8⟩ := HQ.out wq hSq; go_simp; (try with_reducible rfl))
    simp only [Act.put, List.setIfInBounds_toArray, List.set_cons_zero, List.set_cons_succ]
    clear hS0
    refine wpEndI_ready [12] (by kernel_rfl) rfl (AllI.cons rfl (fun K hK => ?_) AllI.nil)
    refine wpListIn_arithY rfl _ _ _ _ _ rfl rfl _ _ _ rfl rfl ?_
    intro up n2 hup _
    have hBwf : Below W.heap.size W (we.drewN n2) := below_drewN hBwe _
    generalize we.drewN n2 = wf at hBwf ⊢
    refine wpListIn_nil ?_
    refine hK.out _ _ (.inr (HSO.out _ hBwf)) ?_
    clear hK K
    (try simp only [Act.put, List.setIfInBounds_toArray, List.set_cons_zero, List.set_cons_succ])
    refine wpEndI_ready [14] (by kernel_rfl) rfl (AllI.cons rfl (fun K hK => ?_) AllI.nil)
    refine wpListIn_arithY rfl _ _ _ _ _ rfl rfl _ _ _ rfl rfl ?_
    intro slope n3 hslope _
    have hBwg : Below W.heap.size W (wf.drewN n3) := below_drewN hBwf _
    generalize wf.drewN n3 = wg at hBwg ⊢
    refine wpListIn_nil ?_
    refine hK.out _ _ (.inr (HSO.out _ hBwg)) ?_
    clear hK K
    (try simp only [Act.put, List.setIfInBounds_toArray, List.set_cons_zero, List.set_cons_succ])
    have hS0 := HSO.out _ hBwg
    refine' wpEndI_take (fun _ => trivial) 15 rfl (by kernel_rfl) hS0 (Or.inl ⟨by rfl, fun wq hSq => _⟩) _
    rotate_left
    · (obtain ⟨q0, q1, q2, q3, q4, q5, q6, q7, q8⟩ := HQ.out wq hSq; go_simp; (try with_reducible rfl))
    simp only [Act.put, List.setIfInBounds_toArray, List.set_cons_zero, List.set_cons_succ]
    clear hS0
    refine wpEndI_ready [16] (by kernel_rfl) rfl (AllI.cons rfl (fun K hK => ?_) AllI.nil)
    gi_wp2
    have hBh := hBwg.alloc hBwg.size (.cells #[.float .f32 wide, .float .f32 slope] 88)
    refine hK.out _ _ (.inr (HSO.out _ hBh)) ?_
    clear hK K
    (try simp only [Act.put, List.setIfInBounds_toArray, List.set_cons_zero, List.set_cons_succ])
    refine wpEndI_ready [17] (by kernel_rfl) rfl (AllI.cons rfl (fun K hK => ?_) AllI.nil)
    obtain ⟨hbd, hXd, hLd⟩ := HSO.out _ hBh
    have hrowD : (wg.alloc (.cells #[.float .f32 wide, .float .f32 slope] 88)).ownsRow w3.heap.size 88 2 v pre.length cs := ownI_below HROW.out hBh
    have hgs := hBwg.size
    refine wpListIn_append_own _ rfl _ _ 84 rfl w3.heap.size 88 i0 _ 2 8 Try.underlying84 hi hz0 hz1 hz2 rfl (by decide) v pre.length cs rfl hrowD ⟨wg.heap.size, 0, none⟩ 1 1 [.float .f32 wide, .float .f32 slope] rfl rfl (two_news _ _ _ rfl) (by intro u hu; simp at hu; rcases hu with rfl | rfl <;> rfl) (by unfold maxLen; omega) (by omega) (by simp; omega) ?_
    intro v' w4 hown4 hgrow4 hnil4
    have hv4 : Boxed w4 (w.heap.size + 1 + 1) 84 v := hbd.kept hgrow4 (hbd.not_row (by decide) hrowD)
    have hX4 : KeepX w3 (w.heap.size + 1 + 1) w4 := hXd.grown hgrow4 (fun r e => (World.ownsRow.lt hrowD r e).1)
    have hL4 : w4.heap[Bx]? = some (.cells #[.int .i64 (x.val : Int), .int .i64 ((x.val : Int) + 1)] 117 (0, 0)) := by
      refine (hgrow4.block Bx (Array.getElem?_eq_some_iff.1 hLd).1 (fun e => ?_)).trans hLd
      rcases hrowD.2 with ⟨h0, _⟩ | ⟨g, cap, cur, h0, _, hgb, _⟩
      · rw [h0] at e; simp [Value.ownBlock] at e
      · rw [h0] at e
        obtain rfl : g = Bx := by simpa [Value.ownBlock] using e.symm
        rw [hLd] at hgb
        injection hgb with hgb
        injection hgb with _ hgb _
        exact absurd hgb (by decide)
    have hKO : KeepsOthers W w4 := (⟨hBh.size, fun i o h _ => (hBh.block i (Array.getElem?_eq_some_iff.1 h).1).trans h⟩ : KeepsOthers W (wg.alloc (.cells #[.float .f32 wide, .float .f32 slope] 88))).trans (KeepsOthers.of_grownBy hgrow4 fun j o ej hj => by
      rcases hrowD.2 with ⟨h0, _⟩ | ⟨g, cap, cur, h0, _, hgb, _⟩
      · rw [h0] at ej; simp [Value.ownBlock] at ej
      · rw [h0] at ej
        obtain rfl : g = j := by simpa [Value.ownBlock] using ej
        rw [hgb] at hj; cases hj; rfl)
    obtain ⟨A2, L2, c2, rfl⟩ : ∃ A2 L2 c2, v' = .slice A2 L2 c2 := by
      rcases hown4.2 with ⟨h, _⟩ | ⟨g, cap, cur, h, _⟩
      · exact ⟨none, 0, 0, h⟩
      · exact ⟨_, _, _, h⟩
    have HB4 := Frame.hid (Below.grown (HBWW.out.trans (hBh.mono HBWW.out.size)) hgrow4 (by have := HBWW.out.size; have := hBh.size; omega) (fun r e => Nat.le_trans hB03.size (World.ownsRow.lt hrowD r e).1))
    have HV4 := Frame.hid hv4
    have HX4 := Frame.hid hX4
    have HOWN4 := Frame.hid hown4
    have HKO := Frame.hid hKO
    have HL4 := Frame.hid hL4
    have d0 := hv4.cell
    have d1 := hv4.frozen
    clear hown4 hgrow4 hnil4 hbd hv4 hX4 hKO hrowD hL4 hXd hLd
    refine wpListIn_nil ?_
    refine hK.out _ _ (.inr ⟨HV4.out, HX4.out, HL4.out⟩) ?_
    clear hK K
    (try simp only [Act.put, List.setIfInBounds_toArray, List.set_cons_zero, List.set_cons_succ])
    refine wpEndI_ready [18] (by kernel_rfl) rfl (AllI.cons rfl (fun K hK => ?_) AllI.nil)
    gi_wp2
    refine hK.out _ _ (by first | exact .inl rfl | exact .inl trivial) ?_
    clear hK K
    refine wpEndI_done (by kernel_rfl) ?_
    gi_wp2
    refine ⟨(HKO.out.trans (KeepsOthers.setCell _ _ _)).from _, trivial, ⟨⟨_, cs ++ [.float .f32 wide, .float .f32 slope], ?_, Boxed.set _ HV4.out, ?_⟩, HX4.out.put⟩, HB4.out.setCell (p := ⟨w.heap.size + 1 + 1, 0, none⟩) (by show w.heap.size ≤ w.heap.size + 1 + 1; omega) _⟩
    · obtain ⟨rl, h1, h2, h3⟩ := HR.out
      obtain ⟨hj, rfl, rfl, rfl, rfl⟩ := HXY.out
      subst hj
      refine ⟨rl ++ [(wide, slope)], by rw [List.length_append, List.length_append, h1]; rfl, by rw [riseCells_snoc, h2], fun i hi y hy => ?_⟩
      rw [List.length_append] at hi
      rcases Nat.lt_or_ge i rl.length with hlt | hge
      · rw [List.getElem?_append_left (by rw [← h1]; exact hlt)] at hy
        rw [List.getD_eq_getElem?_getD, List.getElem?_append_left hlt, ← List.getD_eq_getElem?_getD]
        exact h3 i hlt y hy
      · obtain rfl : i = rl.length := by simp at hi; omega
        rw [h1, List.getElem?_append_right (Nat.le_refl _), Nat.sub_self] at hy
        obtain rfl : x = y := by simpa using hy
        rw [List.getD_eq_getElem?_getD, List.getElem?_append_right (Nat.le_refl _), Nat.sub_self]
        exact ⟨hwide, _, hup, hslope⟩
    · rw [List.length_append]
      exact HOWN4.out.kept (grownBy_setCell' w4 (w.heap.size + 1 + 1) _) (.inr (Boxed.not_row HV4.out (by decide) HOWN4.out).symm)

  case done =>
    rintro D ys' W hD rfl ⟨⟨⟨v, cs, hR, hbv, hrow⟩, hX⟩, hBW⟩ hK
    rw [List.length_finRange] at hrow
    have hvc := hbv.cell
    have HR := Frame.hid hR
    have HROW := Frame.hid hrow
    obtain ⟨A', L', c', rfl⟩ : ∃ A' L' c', v = .slice A' L' c' := by
      rcases hrow.2 with ⟨h, _⟩ | ⟨g, cap, cur, h, _⟩
      · exact ⟨none, 0, 0, h⟩
      · exact ⟨_, _, _, h⟩
    have HBB := Frame.hid hBW
    clear hrow hX hBW hR
    gi_wp2
    refine ⟨by simp, .inl ⟨_, _, rfl, run_takeDeferred hK, ?_⟩⟩
    refine ⟨.slice A' L' c', by simp [results, Try.f54, go_sem], _, cs, rfl, HR.out, ?_, HBB.out.trans (belowK_b (w := w) (Nat.le_refl _) W D _ _ (by omega) hK rfl rfl)⟩
    refine ownsRow_putObj ?_ _ hK rfl
    exact ⟨HROW.out.1, HROW.out.2.imp id fun ⟨g, cap, cur, e1, e2, e3⟩ => ⟨g, cap, cur, e1, Nat.le_trans hB03.size e2, e3⟩⟩
  case stop =>
    rintro D cd pre W hD hpre h hK
    exact h.elim

end Go.Proofs.Ytfkdkdocbecjmaa
