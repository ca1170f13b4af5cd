/-
  JerkPlan: the program's small steps.
-/
import Derived.Test.YtohbanchaggnmaaY6
import Derived.Test.YtohbanchaggnmaaY4
namespace Go.Proofs.Ytohbanchaggnmaa
open Go.RowKit Fl Ieee Go.WideShapes Go.Deep
attribute [local go_sem] kstore_f kalloc_drewN kset_drewN unary_neg_y

set_option maxRecDepth 100000 in
set_option maxHeartbeats 1000000 in
theorem mostSpeed_calls (j s h c : Nat) (w : World) : Calls Try.prog 121 #[.agg #[.float .f32 j, .float .f32 s, .float .f32 h, .float .f32 c]] w fun e w' => ∃ p, e = .returned (.float .f32 p) ∧ PeakR j s h p ∧ Below w.heap.size w w' := by
  go_enter Try.func121, Try.ntmps121
  go_wp2_with (refine wpList_arith rfl _ _ _ _ _ rfl rfl _ _ _ rfl rfl ?_; intro r n hr hl)
  go_ret
  rename_i r1 n1 k1 l1 r2 n2 k2 l2
  exact ⟨_, rfl, ⟨_, _, k1, k2, hr⟩, by (apply bel_of; (repeat (first | apply below_dn | apply below_al)); exact below_st _)⟩

def RelPeak (f : FuncId) (args : Array Value) (v : Value) : Prop := f = 121 ∧ ∃ j r h c p, args = #[.agg #[.float .f32 j, .float .f32 r, .float .f32 h, .float .f32 c]] ∧ v = .float .f32 p ∧ PeakR j r h p
set_option maxRecDepth 100000 in
set_option maxHeartbeats 1000000 in
theorem leastWay_calls (j r h c : Nat) (w : World) : Calls Try.prog 120 #[.agg #[.float .f32 j, .float .f32 r, .float .f32 h, .float .f32 c]] w fun e w' => ∃ q, e = .returned (.float .f32 q) ∧ LeastR j r h q ∧ Below w.heap.size w w' := by
  go_enter Try.func120, Try.ntmps120
  go_wp2_with fail
  obtain ⟨w1, hw1⟩ : ∃ w1, w1 = w.alloc (.cells #[.float .f32 j, .float .f32 r, .float .f32 h, .float .f32 c] 72) := ⟨_, rfl⟩
  rw [← hw1]
  have hP : At4 w1 w.heap.size j r h c := by rw [hw1]; exact ⟨by simp [go_sem], by simp [go_sem], by simp [go_sem], by simp [go_sem]⟩
  have hgl : w.heap.size < w1.heap.size := by rw [hw1]; simp
  have hB1 : Below w.heap.size w w1 := by rw [hw1]; exact (Below.refl _ _).alloc (Nat.le_refl _) _
  have HQ := Frame.hid (fun W (hW : Below w1.heap.size w1 W) => hP.keep hW hgl)
  have hCe : ∃ W, Below w1.heap.size w1 W := ⟨w1, Below.refl _ _⟩
  have hCd : ∀ W n, Below w1.heap.size w1 W → Below w1.heap.size w1 (W.drewN n) := fun W n h => below_drewN h n
  clear hP hw1
  refine region_may_n 9 (fun W => Below w1.heap.size w1 W) RelPeak rfl (by kernel_rfl) (by kernel_rfl) (Below.refl _ _).drew ?_
  refine' rC_read hCe (Or.inl ⟨by rfl, fun wq hSq => _⟩) _
  rotate_left
  · obtain ⟨q0, q1, q2, q3⟩ := HQ.out wq hSq
    go_simp
    try with_reducible rfl
  simp only [Act.put, List.setIfInBounds_toArray, List.set_cons_zero, List.set_cons_succ]
  refine rC_call hCe (by rfl) 121 #[.agg #[.float .f32 j, .float .f32 r, .float .f32 h, .float .f32 c]] (fun wq hSq => ?_) (fun wq hSq => ?_) (fun u hu => ?_)
  · go_simp
  · refine (mostSpeed_calls _ _ _ _ _).mono ?_
    rintro e w' ⟨p, rfl, hp, hB⟩
    exact ⟨_, rfl, ⟨rfl, _, _, _, _, _, rfl, rfl, hp⟩, hSq.trans (hB.mono hSq.size)⟩
  obtain ⟨-, j', r', h', c', p, he, rfl, kp⟩ := hu
  simp at he
  obtain ⟨rfl, rfl, rfl, rfl⟩ := he
  simp only [Act.put, List.setIfInBounds_toArray, List.set_cons_zero, List.set_cons_succ]
  refine' rC_read hCe (Or.inl ⟨by rfl, fun wq hSq => _⟩) _
  rotate_left
  · obtain ⟨q0, q1, q2, q3⟩ := HQ.out wq hSq
    go_simp
    try with_reducible rfl
  simp only [Act.put, List.setIfInBounds_toArray, List.set_cons_zero, List.set_cons_succ]
  refine' rC_read hCe (Or.inl ⟨by rfl, fun wq hSq => _⟩) _
  rotate_left
  · obtain ⟨q0, q1, q2, q3⟩ := HQ.out wq hSq
    go_simp
    try with_reducible rfl
  simp only [Act.put, List.setIfInBounds_toArray, List.set_cons_zero, List.set_cons_succ]
  refine rC_arith hCe hCd rfl _ _ _ _ _ rfl rfl _ _ _ rfl rfl ?_
  intro a ka
  simp only [Act.put, List.setIfInBounds_toArray, List.set_cons_zero, List.set_cons_succ]
  refine' rC_read hCe (Or.inl ⟨by rfl, fun wq hSq => _⟩) _
  rotate_left
  · obtain ⟨q0, q1, q2, q3⟩ := HQ.out wq hSq
    go_simp
    try with_reducible rfl
  simp only [Act.put, List.setIfInBounds_toArray, List.set_cons_zero, List.set_cons_succ]
  refine' rC_read hCe (Or.inl ⟨by rfl, fun wq hSq => _⟩) _
  rotate_left
  · obtain ⟨q0, q1, q2, q3⟩ := HQ.out wq hSq
    go_simp
    try with_reducible rfl
  simp only [Act.put, List.setIfInBounds_toArray, List.set_cons_zero, List.set_cons_succ]
  refine rC_arith hCe hCd rfl _ _ _ _ _ rfl rfl _ _ _ rfl rfl ?_
  intro s ks
  simp only [Act.put, List.setIfInBounds_toArray, List.set_cons_zero, List.set_cons_succ]
  refine rC_arith hCe hCd rfl _ _ _ _ _ rfl rfl _ _ _ rfl rfl ?_
  intro q kq
  simp only [Act.put, List.setIfInBounds_toArray, List.set_cons_zero, List.set_cons_succ]
  refine rC_nil (fun w3 hw3 => ?_)
  refine wpTail_cons (fun K hK => ?_)
  go_simp
  refine hK.out _ _ (.inl rfl) ?_
  clear hK K
  refine wpTail_done ?_
  go_wp2_with fail
  go_ret
  exact ⟨_, rfl, ⟨_, _, _, kp, ka, ks, kq⟩, hB1.trans (hw3.mono hB1.size)⟩

set_option maxRecDepth 100000 in
set_option maxHeartbeats 1000000 in
theorem shorter_calls (j s h c m : Nat) (w : World) : Calls Try.prog 156 #[.agg #[.float .f32 j, .float .f32 s, .float .f32 h, .float .f32 c], .float .f32 m] w fun e w' => ∃ r' h', e = .returned (.agg #[.float .f32 j, .float .f32 r', .float .f32 h', .float .f32 0]) ∧ FOp .mul .f32 m s r' ∧ FOp .mul .f32 m h h' ∧ Below w.heap.size w w' := by
  go_enter Try.func156, Try.ntmps156
  go_wp2_with (refine wpList_arith rfl _ _ _ _ _ rfl rfl _ _ _ rfl rfl ?_; intro r n hr hl)
  rename_i r1 n1 k1 l1
  refine bodyPost_ret (v := .agg #[.float .f32 j, .float .f32 r1, .float .f32 r, .float .f32 0]) (by simp [results, Try.results156, go_sem]) rfl ⟨_, _, rfl, k1, hr, by (apply bel_of; (repeat (first | apply below_dn | apply below_al)); exact below_st _)⟩

theorem set4_read {w : World} {g : Nat} {u0 u1 u2 u3 v0 v1 v2 v3 : Value} (h0 : w.cell? ⟨g, 0, none⟩ = some u0) (h1 : w.cell? ⟨g, 1, none⟩ = some u1) (h2 : w.cell? ⟨g, 2, none⟩ = some u2) (h3 : w.cell? ⟨g, 3, none⟩ = some u3) :
    let W := (((w.setCell ⟨g, 0, none⟩ v0).setCell ⟨g, 1, none⟩ v1).setCell ⟨g, 2, none⟩ v2).setCell ⟨g, 3, none⟩ v3
    W.cell? ⟨g, 0, none⟩ = some v0 ∧ W.cell? ⟨g, 1, none⟩ = some v1 ∧ W.cell? ⟨g, 2, none⟩ = some v2 ∧ W.cell? ⟨g, 3, none⟩ = some v3 := by
  intro W
  obtain ⟨a0, a1, a2⟩ := set3_readY (w := w) (v0 := v0) (v1 := v1) (v2 := v2) h0 h1 h2
  refine ⟨?_, ?_, ?_, ?_⟩
  · rw [World.cell?_setCell_other _ _ _ _ (by simp)]; exact a0
  · rw [World.cell?_setCell_other _ _ _ _ (by simp)]; exact a1
  · rw [World.cell?_setCell_other _ _ _ _ (by simp)]; exact a2
  · exact World.cell?_setCell_same' _ _ _ (by rw [World.cell?_setCell_other _ _ _ _ (by simp), World.cell?_setCell_other _ _ _ _ (by simp), World.cell?_setCell_other _ _ _ _ (by simp), h3]; rfl)

set_option maxRecDepth 100000 in
set_option maxHeartbeats 4000000 in
theorem fitting_calls (j r h c long : Nat) (w : World) : Calls Try.prog 122 #[.agg #[.float .f32 j, .float .f32 r, .float .f32 h, .float .f32 c], .float .f32 long] w fun e w' => ∃ lo hi r' h', e = .returned (.agg #[.float .f32 j, .float .f32 r', .float .f32 h', .float .f32 0]) ∧ ShareK j r h long 30 lo hi ∧ FOp .mul .f32 lo r r' ∧ FOp .mul .f32 lo h h' ∧ Below w.heap.size w w' := by
  go_enter Try.func122, Try.ntmps122
  go_wp2_with fail
  obtain ⟨w0, hw0⟩ : ∃ w0, w0 = (w.alloc (.cells #[.float .f32 j, .float .f32 r, .float .f32 h, .float .f32 c] 72)).alloc (.cells #[.float .f32 0, .float .f32 0, .float .f32 0, .float .f32 0] 72) := ⟨_, rfl⟩
  rw [← hw0]
  have hP : At4 w0 w.heap.size j r h c := by rw [hw0]; exact ⟨by simp [go_sem], by simp [go_sem], by simp [go_sem], by simp [go_sem]⟩
  have hO : At4 w0 (w.heap.size + 1) 0 0 0 0 := by rw [hw0]; exact ⟨by simp [go_sem], by simp [go_sem], by simp [go_sem], by simp [go_sem]⟩
  have hf : ∀ i, w0.frozen? ⟨w.heap.size + 1, i, none⟩ = false := fun i => by rw [hw0]; simp [go_sem]
  have hg1 : w.heap.size + 1 < w0.heap.size := by rw [hw0]; simp
  have hg0 : w.heap.size < w0.heap.size := by omega
  have hB0 : Below w.heap.size w w0 := by rw [hw0]; exact ((Below.refl _ _).alloc (Nat.le_refl _) _).alloc (by simp) _
  have HP := Frame.hid (fun W (hW : Below w0.heap.size w0 W) => And.intro (hP.keep hW hg0) (And.intro (hO.keep hW hg1) (fun i => (hW.frozen (p := ⟨w.heap.size + 1, i, none⟩) hg1).trans (hf i))))
  have HB0 := Frame.hid hB0
  clear hP hO hf hB0 hw0
  go_loopw [5, 6, 8] (fun l u i wr => ∃ (k lo hi : Nat), k ≤ 30 ∧ i = .int .i64 k ∧ l = .float .f32 lo ∧ u = .float .f32 hi ∧ ShareK j r h long k lo hi ∧ Below w0.heap.size w0 wr) (fun _ _ i _ => 30 - (intOf i).toNat)
  case atStart => exact ⟨0, 0, 1065353216, by omega, rfl, rfl, rfl, ⟨rfl, rfl⟩, Below.refl _ _⟩
  case round =>
    obtain ⟨k, lo, hi, hk, rfl, rfl, rfl, hK, hW⟩ := hrel
    obtain ⟨⟨p0, p1, p2, p3⟩, -, -⟩ := HP.out wr hW
    by_cases h30 : k = 30
    · subst h30
      have HK := Frame.hid hK
      have HW := Frame.hid hW
      clear hK hW
      go_wp2_with fail
      refine (shorter_calls _ _ _ _ _ _).mono ?_
      rintro e w1 ⟨r', h', rfl, k1, k2, hB1⟩
      have hW1 := HW.out.trans (hB1.mono HW.out.size)
      obtain ⟨-, ⟨o0, o1, o2, o3⟩, kf⟩ := HP.out w1 hW1
      obtain ⟨e0, e1, e2, e3⟩ := set4_read (w := w1) (v0 := .float .f32 j) (v1 := .float .f32 r') (v2 := .float .f32 h') (v3 := .float .f32 0) o0 o1 o2 o3
      clear hB1 p0 p1 p2 p3
      go_wp2_with fail
      refine bodyPost_ret (v := .agg #[.float .f32 j, .float .f32 r', .float .f32 h', .float .f32 0]) (by simp [results, Try.results122, go_sem, e0, e1, e2, e3]) rfl ⟨_, _, _, _, rfl, HK.out, k1, k2, ?_⟩
      exact ((((HB0.out.trans (hW1.mono HB0.out.size)).setCell (p := ⟨w.heap.size + 1, 0, none⟩) (by simp) _).setCell (p := ⟨w.heap.size + 1, 1, none⟩) (by simp) _).setCell (p := ⟨w.heap.size + 1, 2, none⟩) (by simp) _).setCell (p := ⟨w.heap.size + 1, 3, none⟩) (by simp) _
    · have hlt : k < 30 := by omega
      have HSI := Frame.hid (fun s m mr mh q lo' hi' h1 h2 h3 h4 h5 h6 => (show ShareK j r h long (k + 1) lo' hi' from ⟨lo, hi, s, m, mr, mh, q, hK, h1, h2, h3, h4, h5, h6⟩))
      have HW := Frame.hid hW
      clear hK hW h30 hk
      go_wp2_with (refine wpList_arith rfl _ _ _ _ _ rfl rfl _ _ _ rfl rfl ?_; intro r n hr hl)
      refine (halfW_calls _ _).mono ?_
      rintro e w1 ⟨m, n1, rfl, hm, rfl⟩
      go_wp2_with fail
      refine (shorter_calls _ _ _ _ _ _).mono ?_
      rintro e w2 ⟨mr, mh, rfl, k1, k2, hB2⟩
      go_wp2_with fail
      refine (leastWay_calls _ _ _ _ _).mono ?_
      rintro e w3 ⟨q, rfl, kq, hB3⟩
      have hWn := below_drewN HW.out (n + n1)
      have hW2 := hWn.trans (hB2.mono hWn.size)
      have HW3 := Frame.hid (hW2.trans (hB3.mono hW2.size))
      clear hB2 hB3 hWn hW2 p0 p1 p2 p3
      cases hb : leqW q long
      · have hb' : (FloatKind.f32.format.order q long == some Ordering.lt || FloatKind.f32.format.order q long == some Ordering.eq) = false := hb
        go_wp2_with fail
        go_roundw
        case rel => exact ⟨k + 1, _, _, by omega, by go_num, rfl, rfl, HSI.out _ _ _ _ _ _ _ hr hm k1 k2 kq (.inr ⟨hb, rfl, rfl⟩), HW3.out⟩
        case measure => simp [intOf]; omega
      · have hb' : (FloatKind.f32.format.order q long == some Ordering.lt || FloatKind.f32.format.order q long == some Ordering.eq) = true := hb
        go_wp2_with fail
        go_roundw
        case rel => exact ⟨k + 1, _, _, by omega, by go_num, rfl, rfl, HSI.out _ _ _ _ _ _ _ hr hm k1 k2 kq (.inl ⟨hb, rfl, rfl⟩), HW3.out⟩
        case measure => simp [intOf]; omega

end Go.Proofs.Ytohbanchaggnmaa
