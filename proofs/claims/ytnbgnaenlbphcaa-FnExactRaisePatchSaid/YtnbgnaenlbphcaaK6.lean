/-
  toSheet: what it hands back is the call's own.
-/
import Derived.Test.YtnbgnaenlbphcaaK5
namespace Go.Proofs.Ytnbgnaenlbphcaa
open Go.RowKit Fl Go.WideShapes Go.Deep
attribute [local go_sem] kstore_f kalloc_drewN kset_drewN hstore_i hstore_s

set_option maxRecDepth 100000 in
set_option maxHeartbeats 2000000 in
theorem toSpotSO_calls (A : Option Addr) (xs : List (Nat × Nat × Nat)) (c : Nat) (w : World) (hn : xs.length ≤ 1048576) (hr : RdS w A xs) :
    Calls Try.prog 49 #[.slice A xs.length c] w fun e w' => ∃ g, e = .returned (.slice (some ⟨g, 0, none⟩) xs.length xs.length) ∧ RdS w' (some ⟨g, 0, none⟩) xs ∧ Below w.heap.size w w' ∧ w.heap.size ≤ g ∧ OwS w' w.heap.size (.slice (some ⟨g, 0, none⟩) xs.length xs.length) xs.length := by
  obtain ⟨i0, hi, hz0, hz1, hz2⟩ := info_parts infoSpot
  have HR := Frame.hid hr
  clear hr
  obtain ⟨n, hxn⟩ : ∃ n, n = xs.length := ⟨_, rfl⟩
  rw [← hxn] at hn ⊢
  have HX := Frame.hid hxn
  clear hxn
  go_enter Try.func49, Try.ntmps49
  go_wp2_with (at_make; refine wpList_make_full _ rfl _ _ 27 rfl w.heap.size 57 i0 (.agg #[.float .f32 0, .float .f32 0, .float .f32 0]) 3 Try.underlying27 hi hz0 hz1 _ _ _ _ n rfl rfl rfl rfl ?c1 ?c2 ?c3 ?_)
  case c1 => rw [hz2]; omega
  case c2 => unfold maxLen; omega
  case c3 => simp
  intro w1 hown hgrow
  obtain ⟨g, hg⟩ : ∃ g, g = w.heap.size := ⟨_, rfl⟩
  have hblk : Hid (CopyS w g n xs 0 w1) := by
    rcases hown.2 with ⟨h0, _⟩ | ⟨g', cap, cur, hv, _, hh, _, _, hsz, _⟩
    · cases h0
    · cases hv
      exact ⟨⟨cur, by rw [hg]; exact hh, by simpa using hsz, fun j hj => absurd hj (by omega)⟩, (Below.refl _ _).grown hgrow (Nat.le_refl _) (by simp)⟩
  clear hown hgrow
  rw [← hg]
  have HGE := Frame.hid hg
  clear hg hi hz0 hz1 hz2
  go_wp2
  go_loopw [4] (fun i wr => ∃ k : Nat, k ≤ n ∧ i = .int .i64 k ∧ CopyS w g n xs k wr) (fun i _ => n - (intOf i).toNat)
  case atStart => exact ⟨0, Nat.zero_le _, rfl, hblk.out⟩
  case round =>
    obtain ⟨k, hk, rfl, hC⟩ := hrel
    by_cases hlt : k < n
    · obtain ⟨b, off, rfl, hb, hc⟩ := HR.out.h (by have := HX.out; omega)
      have h3 := (hc k (by have := HX.out; omega)).keep hC.l hb
      have c0 := h3.c0
      have c1 := h3.c1
      have c2 := h3.c2
      obtain ⟨x, hx⟩ : ∃ x, x = sx xs k := ⟨_, rfl⟩
      obtain ⟨y, hy⟩ : ∃ y, y = sy xs k := ⟨_, rfl⟩
      obtain ⟨z, hz⟩ : ∃ z, z = sz xs k := ⟨_, rfl⟩
      rw [← hx] at c0
      rw [← hy] at c1
      rw [← hz] at c2
      have HXYZ := Frame.hid (And.intro hx (And.intro hy hz))
      have HC := Frame.hid hC
      clear hc h3 hx hy hz hC HX HR
      go_wp2_with (go_at_call 111; refine (toSpot_calls _ _ _ _).mono ?_; rintro e w' ⟨rfl, hB⟩; have hC' := HC.out.go hB; have hh := hC'.here hlt; obtain ⟨⟨u0, k0⟩, ⟨u1, k1⟩, ⟨u2, k2⟩, kf, kl⟩ := hh; have HC' := Frame.hid hC'; clear hC' hB)
      go_roundw
      case rel =>
        refine ⟨k + 1, by omega, by go_num, ?_⟩
        obtain ⟨rfl, rfl, rfl⟩ := HXYZ.out
        exact HC'.out.step (Nat.le_of_eq HGE.out.symm) hlt
      case measure => simp [intOf]; omega
    · have hkn : k = n := by omega
      subst hkn
      have HC := Frame.hid hC
      clear hC
      go_wp2
      go_ret
      have hx := HX.out
      subst hx
      obtain ⟨cs, q1, q2, -⟩ := HC.out.r
      exact ⟨g, rfl, HC.out.done, HC.out.l, Nat.le_of_eq HGE.out.symm, ⟨.inr ⟨g, _, cs, rfl, Nat.le_of_eq HGE.out.symm, q1, by omega⟩⟩⟩

set_option maxRecDepth 100000 in
set_option maxHeartbeats 2000000 in
theorem toSheetO_calls (A : Option Addr) (xs : List (Nat × Nat × Nat)) (c n : Nat) (hxn : n = xs.length) (a b : Int) (w : World) (hn : n ≤ 1048576) (hr : RdS w A xs) :
    Calls Try.prog 17 #[.agg #[.int .i64 a, .int .i64 b, .slice A n c]] w fun e w' => ∃ g, e = .returned (.agg #[.int .i64 a, .int .i64 b, .slice (some ⟨g, 0, none⟩) n n]) ∧ RdS w' (some ⟨g, 0, none⟩) xs ∧ Below w.heap.size w w' ∧ w.heap.size ≤ g ∧ OwS w' w.heap.size (.slice (some ⟨g, 0, none⟩) n n) n := by
  have HC := Frame.hid (fun W (hW : Below w.heap.size w W) => by have h := toSpotSO_calls A xs c W (by omega) (hr.below hW); rw [← hxn] at h; exact h : ∀ W, Below w.heap.size w W → Calls Try.prog 49 #[.slice A n c] W fun e w' => ∃ g, e = .returned (.slice (some ⟨g, 0, none⟩) n n) ∧ RdS w' (some ⟨g, 0, none⟩) xs ∧ Below W.heap.size W w' ∧ W.heap.size ≤ g ∧ OwS w' W.heap.size (.slice (some ⟨g, 0, none⟩) n n) n)
  clear hr hxn
  go_enter Try.func17, Try.ntmps17
  go_wp2_with (go_at_call 49; refine (HC.out _ (by (apply bel_of; (repeat (first | apply below_dn | apply below_al)); exact below_st _))).mono ?_; rintro e w' ⟨g, rfl, hR, hB, hg, hO⟩; have hc := rd_of hB; have hz := fz_of hB; have hs := sz_of hB)
  have k0 : w'.cell? ⟨w.heap.size + 1, 0, none⟩ = some (.int .i64 0) := by rw [hc _ _ (by simp)]; simp [go_sem]
  have k1 : w'.cell? ⟨w.heap.size + 1, 1, none⟩ = some (.int .i64 0) := by rw [hc _ _ (by simp)]; simp [go_sem]
  have k2 : w'.cell? ⟨w.heap.size + 1, 2, none⟩ = some (.slice none 0 0) := by rw [hc _ _ (by simp)]; simp [go_sem]
  have hne : ∀ i, (⟨w.heap.size + 1 + 1, 2, none⟩ : Addr) ≠ ⟨w.heap.size + 1, i, none⟩ := fun i e => by injection e with e1; omega
  have hg' : w.heap.size + 1 + 1 < g := by simp at hg; omega
  obtain ⟨e0, e1, e2⟩ := set3_read (w := w'.setCell ⟨w.heap.size + 1 + 1, 2, none⟩ (.slice (some ⟨g, 0, none⟩) n n)) (v0 := .int .i64 a) (v1 := .int .i64 b) (v2 := .slice (some ⟨g, 0, none⟩) n n)
    (by rw [World.cell?_setCell_other _ _ _ _ (hne _)]; exact k0) (by rw [World.cell?_setCell_other _ _ _ _ (hne _)]; exact k1) (by rw [World.cell?_setCell_other _ _ _ _ (hne _)]; exact k2)
  refine bodyPost_ret (v := .agg #[.int .i64 a, .int .i64 b, .slice (some ⟨g, 0, none⟩) n n]) (by simp [results, Try.results17, go_sem, e0, e1, e2]) rfl ⟨g, rfl, ?_, ?_, by omega, ?_⟩
  · exact (((hR.set (by omega)).set (by omega)).set (by omega)).set (by omega)
  · exact (below_sc (by simp) (below_sc (by simp) (below_sc (by simp) (below_sc (by simp; omega) (below_ch (below_al _ (below_al _ (below_al _ (below_st _)))) hB rfl) _) _) _) _).2
  · exact ((((hO.set (by simp; try omega)).set (by simp; try omega)).set (by simp; try omega)).set (by simp; try omega)).mono (by simp; try omega)

set_option maxRecDepth 100000 in
set_option maxHeartbeats 2000000 in
theorem markSpotSW_some (B g n cap : Nat) (hn : n ≤ 1048576) (w : World) (hM : MkS w B g n 0) :
    Calls Try.prog 54 #[.slice (some ⟨g, 0, none⟩) n cap, .int .i64 1] w fun e w' => e = .returned (.int .i64 (1 + 3 * (n : Int))) ∧ MkS w' B g n n ∧ Below B w w' ∧ ∀ k, k ≠ g → w'.heap[k]? = w.heap[k]? := by
  have HM := Frame.hid hM
  clear hM
  go_enter Try.func54, Try.ntmps54
  go_wp2
  go_loopw [1, 5] (fun kv i wr => ∃ q : Nat, q ≤ n ∧ kv = .int .i64 (1 + 3 * (q : Int)) ∧ i = .int .i64 q ∧ MkS wr B g n q ∧ Below B w wr ∧ ∀ k, k ≠ g → wr.heap[k]? = w.heap[k]?) (fun _ i _ => n - (intOf i).toNat)
  case atStart => exact ⟨0, Nat.zero_le _, rfl, rfl, HM.out, Below.refl _ _, fun _ _ => rfl⟩
  case round =>
    obtain ⟨q, hq, rfl, rfl, hM, hB, hO⟩ := hrel
    by_cases hlt : q < n
    · obtain ⟨u0, c0⟩ := hM.cells (q * 3) (by omega)
      obtain ⟨u1, c1⟩ := hM.cells (q * 3 + 1) (by omega)
      obtain ⟨u2, c2⟩ := hM.cells (q * 3 + 2) (by omega)
      have fz := hM.froz
      have HM := Frame.hid hM
      have HB := Frame.hid hB
      have HO := Frame.hid hO
      clear hM hB hO
      go_wp2
      go_roundw
      case rel =>
        have e0 : floatOfInt .f32 (1 + 3 * (q : Int)) = mkS (q * 3) := by unfold mkS; congr 1; push_cast; omega
        have e1 : floatOfInt .f32 (1 + 3 * (q : Int) + 1) = mkS (q * 3 + 1) := by unfold mkS; congr 1; push_cast; omega
        have e2 : floatOfInt .f32 (1 + 3 * (q : Int) + 1 + 1) = mkS (q * 3 + 2) := by unfold mkS; congr 1; push_cast; omega
        rw [e0, e1, e2]
        refine ⟨q + 1, by omega, ?_, by go_num, HM.out.step hlt, ((HB.out.setCell (p := ⟨g, _, none⟩) HM.out.b _).setCell (p := ⟨g, _, none⟩) HM.out.b _).setCell (p := ⟨g, _, none⟩) HM.out.b _, fun k hk => ?_⟩
        · have : 1 + 3 * (q : Int) + 1 + 1 + 1 = 1 + 3 * ((q + 1 : Nat) : Int) := by push_cast; omega
          rw [this]
        · rw [Below.heap_setCell _ _ _ _ hk, Below.heap_setCell _ _ _ _ hk, Below.heap_setCell _ _ _ _ hk]
          exact HO.out k hk
      case measure => simp [intOf]; omega
    · have hqn : q = n := by omega
      subst hqn
      have HM := Frame.hid hM
      have HB := Frame.hid hB
      have HO := Frame.hid hO
      clear hM hB hO
      go_wp2
      go_ret
      exact ⟨rfl, HM.out, HB.out, HO.out⟩

set_option maxRecDepth 100000 in
set_option maxHeartbeats 2000000 in
theorem markSpotSW_calls (B n : Nat) (v : Value) (hn : n ≤ 1048576) (w : World) (hO : OwS w B v n) :
    Calls Try.prog 54 #[v, .int .i64 1] w fun e w' => e = .returned (.int .i64 (1 + 3 * (n : Int))) ∧ Marked w' B v n ∧ Below B w w' ∧ ∀ k, v.ownBlock ≠ some k → w'.heap[k]? = w.heap[k]? := by
  rcases hO.h with ⟨rfl, rfl⟩ | ⟨g, cap, cs, rfl, hg, hh, hs⟩
  · refine (markSpotS_nil w).mono ?_
    rintro e w' ⟨rfl, rfl⟩
    exact ⟨rfl, ⟨.inl ⟨rfl, rfl⟩⟩, Below.refl _ _, fun _ _ => rfl⟩
  · refine (markSpotSW_some B g n cap (by omega) w ⟨⟨cs, hh, hs, fun p hp => absurd hp (by omega)⟩, hg⟩).mono ?_
    rintro e w' ⟨rfl, hM, hB, hF⟩
    exact ⟨rfl, ⟨.inr ⟨g, cap, rfl, hM⟩⟩, hB, fun k hk => hF k (fun e => hk (by rw [e]; rfl))⟩

set_option maxRecDepth 100000 in
set_option maxHeartbeats 2000000 in
theorem markSheetW_calls (B n : Nat) (a b : Int) (v : Value) (hn : n ≤ 1048576) (w : World) (hO : OwS w B v n) (hB : B ≤ w.heap.size) :
    Calls Try.prog 20 #[.agg #[.int .i64 a, .int .i64 b, v], .int .i64 1] w fun e w' => e = .returned (.int .i64 (1 + 3 * (n : Int))) ∧ Marked w' B v n ∧ Below B w w' ∧ ∀ k, k < w.heap.size → v.ownBlock ≠ some k → w'.heap[k]? = w.heap[k]? := by
  have HC := Frame.hid (markSpotSW_calls B n v hn _ (hO.below ((Below.refl _ _).alloc (Nat.le_refl _) (.cells #[.int .i64 a, .int .i64 b, v] 29))))
  obtain ⟨A, c, rfl⟩ := hO.form
  clear hO
  go_enter Try.func20, Try.ntmps20
  go_wp2_with (go_at_call 54; refine HC.out.mono ?_; rintro e w' ⟨rfl, hM, hB', hF⟩)
  go_ret
  exact ⟨rfl, hM, ((Below.refl _ _).alloc hB _).trans hB', fun k hk hv => (hF k hv).trans (Below.heap_alloc _ _ _ hk)⟩

theorem RdS.other {W W' : World} {A : Option Addr} {xs : List (Nat × Nat × Nat)} {gs : Nat} (h : RdS W A xs) (ap : Apart A gs) (hF : ∀ k, k < W.heap.size → k ≠ gs → W'.heap[k]? = W.heap[k]?) (hs : W.heap.size ≤ W'.heap.size) : RdS W' A xs := ⟨fun h0 => by
  obtain ⟨b, off, e, hlt, hc⟩ := h.h h0
  have he := hF b hlt (fun e' => ap _ e e'.symm)
  refine ⟨b, off, e, Nat.lt_of_lt_of_le hlt hs, fun j hj => ?_⟩
  obtain ⟨c0, c1, c2⟩ := hc j hj
  exact ⟨(World.cell?_of_block (w := W) (a := ⟨b, _, none⟩) he).trans c0, (World.cell?_of_block (w := W) (a := ⟨b, _, none⟩) he).trans c1, (World.cell?_of_block (w := W) (a := ⟨b, _, none⟩) he).trans c2⟩⟩
theorem OwS.other {W W' : World} {B n c : Nat} {A : Option Addr} {gs : Nat} (h : OwS W B (.slice A n c) n) (ap : Apart A gs) (hF : ∀ k, k < W.heap.size → k ≠ gs → W'.heap[k]? = W.heap[k]?) : OwS W' B (.slice A n c) n := ⟨by
  rcases h.h with h1 | ⟨g, cap, cs, hv, hg, hh, hs⟩
  · exact .inl h1
  · refine .inr ⟨g, cap, cs, hv, hg, ?_, hs⟩
    injection hv with hv
    rw [hF g (Array.getElem?_eq_some_iff.1 hh).1 (fun e => ap _ hv e.symm)]
    exact hh⟩

end Go.Proofs.Ytnbgnaenlbphcaa
