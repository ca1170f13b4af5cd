/-
  Nets are valid: the specification's list of sides.
-/
import Derived.Test.YtnbgnaenlbphcaaN8
namespace Go.Proofs.Ytnbgnaenlbphcaa
open Go.RowKit Fl Go.WideShapes Go.Deep
attribute [local go_sem] kstore_f kalloc_drewN kset_drewN hstore_i hstore_s

/-- Three own rows, apart from one another. -/
structure Row3 (w : World) (v1 v2 v3 : Value) (l1 l2 l3 : List Int) (wr : World) : Prop where
  below : Below w.heap.size w wr
  r1 : OwnI wr w.heap.size v1 l1
  r2 : OwnI wr w.heap.size v2 l2
  r3 : wr.ownsRow w.heap.size 3 1 v3 l3.length (l3.map (Value.int .i64))
  n12 : v1.ownBlock ≠ v2.ownBlock
  n13 : v1.ownBlock ≠ v3.ownBlock
  n23 : v2.ownBlock ≠ v3.ownBlock
theorem own_neI {W : World} {base : Nat} {e : TypeId} {size : Nat} {v v' : Value} {n : Nat} {xs : List Value} (h : W.ownsRow base e size v n xs) {x : Value} {k : Nat} (hx : x.ownBlock = v'.ownBlock ∨ x.ownBlock = some k) (hk : W.heap.size ≤ k) (hne : v'.ownBlock ≠ v.ownBlock) : x.ownBlock ≠ v.ownBlock := by
  intro e1
  rcases hx with hx | hx
  · exact hne (hx.symm.trans e1)
  · have := World.ownsRow.lt h k (e1.symm.trans hx)
    omega
theorem Row3.app1 {w wr w' : World} {v1 v2 v3 v' : Value} {l1 l2 l3 : List Int} {x : Int} {k : Nat} (h : Row3 w v1 v2 v3 l1 l2 l3 wr) (o : Obj) (hk : k = l1.length) (hown : w'.ownsRow w.heap.size 2 1 v' (k + 1) (l1.map (Value.int .i64) ++ [.int .i64 x])) (hg : (wr.alloc o).grownBy w' v1.ownBlock) (hat : v'.ownBlock = v1.ownBlock ∨ v'.ownBlock = some (wr.alloc o).heap.size) : Row3 w v' v2 v3 (l1 ++ [x]) l2 l3 w' := by
  have hs : wr.heap.size ≤ (wr.alloc o).heap.size := by simp
  exact ⟨Below.grown (h.below.alloc h.below.size o) hg (by have := h.below.size; simp; omega) (fun k hk => (World.ownsRow.lt h.r1 k hk).1), OwnI.app hk hown, World.ownsRow.kept (World.ownsRow.alloc h.r2 o) hg (.inr fun e => h.n12 e.symm), World.ownsRow.kept (World.ownsRow.alloc h.r3 o) hg (.inr fun e => h.n13 e.symm), own_neI h.r2 hat hs h.n12, own_neI h.r3 hat hs h.n13, h.n23⟩
theorem Row3.app2 {w wr w' : World} {v1 v2 v3 v' : Value} {l1 l2 l3 : List Int} {x : Int} {k : Nat} (h : Row3 w v1 v2 v3 l1 l2 l3 wr) (o : Obj) (hk : k = l2.length) (hown : w'.ownsRow w.heap.size 2 1 v' (k + 1) (l2.map (Value.int .i64) ++ [.int .i64 x])) (hg : (wr.alloc o).grownBy w' v2.ownBlock) (hat : v'.ownBlock = v2.ownBlock ∨ v'.ownBlock = some (wr.alloc o).heap.size) : Row3 w v1 v' v3 l1 (l2 ++ [x]) l3 w' := by
  have hs : wr.heap.size ≤ (wr.alloc o).heap.size := by simp
  exact ⟨Below.grown (h.below.alloc h.below.size o) hg (by have := h.below.size; simp; omega) (fun k hk => (World.ownsRow.lt h.r2 k hk).1), World.ownsRow.kept (World.ownsRow.alloc h.r1 o) hg (.inr fun e => h.n12 e), OwnI.app hk hown, World.ownsRow.kept (World.ownsRow.alloc h.r3 o) hg (.inr fun e => h.n23 e.symm), fun e => own_neI h.r1 hat hs (fun e => h.n12 e.symm) e.symm, h.n13, own_neI h.r3 hat hs h.n23⟩
theorem Row3.app3 {w wr w' : World} {v1 v2 v3 v' : Value} {l1 l2 l3 : List Int} {x : Int} {k : Nat} (h : Row3 w v1 v2 v3 l1 l2 l3 wr) (o : Obj) (hk : k = l3.length) (hown : w'.ownsRow w.heap.size 3 1 v' (k + 1) (l3.map (Value.int .i64) ++ [.int .i64 x])) (hg : (wr.alloc o).grownBy w' v3.ownBlock) (hat : v'.ownBlock = v3.ownBlock ∨ v'.ownBlock = some (wr.alloc o).heap.size) : Row3 w v1 v2 v' l1 l2 (l3 ++ [x]) w' := by
  have hs : wr.heap.size ≤ (wr.alloc o).heap.size := by simp
  refine ⟨Below.grown (h.below.alloc h.below.size o) hg (by have := h.below.size; simp; omega) (fun k hk => (World.ownsRow.lt h.r3 k hk).1), World.ownsRow.kept (World.ownsRow.alloc h.r1 o) hg (.inr fun e => h.n13 e), World.ownsRow.kept (World.ownsRow.alloc h.r2 o) hg (.inr fun e => h.n23 e), ?_, h.n12, fun e => own_neI h.r1 hat hs (fun e => h.n13 e.symm) e.symm, fun e => own_neI h.r2 hat hs (fun e => h.n23 e.symm) e.symm⟩
  rw [List.length_append, List.map_append, ← hk]
  exact hown
theorem Row3.start (w : World) : Row3 w (.slice (some ⟨w.heap.size, 0, none⟩) 0 0) (.slice (some ⟨w.heap.size + 1, 0, none⟩) 0 0) (.slice (some ⟨w.heap.size + 1 + 1, 0, none⟩) 0 0) [] [] [] (((w.alloc (.cells #[] 2)).alloc (.cells #[] 2)).alloc (.cells #[] 3)) := by
  have h1 := World.ownsRow_lit (size := 1) (e := 2) (base := w.heap.size) w #[] 0 (Nat.le_refl _) (by unfold maxLen; omega) rfl
  have h2 := World.ownsRow_lit (size := 1) (e := 2) (base := w.heap.size) (w.alloc (.cells #[] 2)) #[] 0 (by simp) (by unfold maxLen; omega) rfl
  have h3 := World.ownsRow_lit (size := 1) (e := 3) (base := w.heap.size) ((w.alloc (.cells #[] 2)).alloc (.cells #[] 2)) #[] 0 (by simp only [World.size_alloc]; omega) (by unfold maxLen; omega) rfl
  have e1 : (w.alloc (.cells #[] 2)).heap.size = w.heap.size + 1 := by simp
  have e2 : ((w.alloc (.cells #[] 2)).alloc (.cells #[] 2)).heap.size = w.heap.size + 1 + 1 := by simp
  rw [e1] at h2
  rw [e2] at h3
  refine ⟨(((Below.refl _ w).alloc (Nat.le_refl _) _).alloc (by simp) _).alloc (by simp only [World.size_alloc]; omega) _, World.ownsRow.alloc (World.ownsRow.alloc h1 _) _, World.ownsRow.alloc h2 _, h3, ?_, ?_, ?_⟩ <;> simp [Value.ownBlock] <;> omega

/-- The sides of the facets ahead of facet f, and i of this one's. -/
def sdp (fs : List (List Int)) (f i : Nat) : List (Int × Int) := sds (fs.take f) ++ (sdF (crn fs f)).take i
theorem sdp_zero (fs : List (List Int)) : sdp fs 0 0 = [] := rfl
theorem sdp_next (fs : List (List Int)) (f i : Nat) (h : i < (crn fs f).length) : sdp fs f (i + 1) = sdp fs f i ++ [((crn fs f).getD i 0, (crn fs f).getD ((i + 1) % (crn fs f).length) 0)] := by
  unfold sdp
  rw [List.take_add_one, sdF_at _ _ h, ← List.append_assoc]
  rfl
theorem sdp_full (fs : List (List Int)) (f : Nat) (h : f < fs.length) : sdp fs f (crn fs f).length = sdp fs (f + 1) 0 := by
  unfold sdp
  have e : (sdF (crn fs f)).take (crn fs f).length = sdF (crn fs f) := List.take_of_length_le (by rw [sdF_len]; omega)
  rw [e, List.take_zero, List.append_nil, List.take_add_one, List.getElem?_eq_getElem h]
  unfold sds
  rw [List.flatMap_append]
  simp [crn, List.getD_eq_getElem?_getD, h]
theorem sdp_all (fs : List (List Int)) : sdp fs fs.length 0 = sds fs := by
  unfold sdp
  simp

/-- The answer is three rows. -/
def SidesIs (w : World) (L : List (Int × Int)) (e : Ending) (w' : World) : Prop := ∃ v1 v2 v3 l3, e = .returned (.tuple #[v1, v2, v3]) ∧ Row3 w v1 v2 v3 (fstL L) (sndL L) l3 w'

theorem infoInt : (Try.prog.info? 3).map (fun i => (i.zero, i.size, i.bytes)) = some (some (.int .i64 0), 1, 8) := by kernel_rfl

set_option maxRecDepth 100000 in
set_option maxHeartbeats 4000000 in
theorem l06Sides_calls (g : Nat) (s : Value) (B : Option Addr) (fs : List (List Int)) (m d : Nat) (hm : m = fs.length) (hml : m ≤ 256) (hfl : ∀ k, k < m → 3 ≤ (crn fs k).length ∧ (crn fs k).length ≤ 8) (w : World) (hG : Nt2 w g s (.slice B m d)) (hB : RdF w B fs) :
    Calls Try.prog 128 #[.pointer (some ⟨g, 0, none⟩)] w (SidesIs w (sds fs)) := by
  obtain ⟨i0, hi, hz0, hz1, hz2⟩ := info_parts infoI64
  obtain ⟨j0, hj, hy0, hy1, hy2⟩ := info_parts infoInt
  have HM := Frame.hid hm
  have HF := Frame.hid hB
  have HFL := Frame.hid hfl
  have HG := Frame.hid hG
  have HGL := Frame.hid hG.l
  clear hm hB hfl hG
  go_enter Try.func128, Try.ntmps128
  go_wp2
  go_loopw [5, 6, 7, 8] (fun v1 v2 v3 iv wr => ∃ (f : Nat) (l3 : List Int), f ≤ m ∧ iv = .int .i64 f ∧ (sdp fs f 0).length ≤ 8 * f ∧ l3.length = (sdp fs f 0).length ∧ Row3 w v1 v2 v3 (fstL (sdp fs f 0)) (sndL (sdp fs f 0)) l3 wr) (fun _ _ _ iv _ => m - (intOf iv).toNat)
  case atStart => exact ⟨0, [], Nat.zero_le _, rfl, Nat.zero_le _, rfl, Row3.start w⟩
  case round =>
    obtain ⟨f, l3, hf, rfl, hLL, hl3, hR⟩ := hrel
    have k1 := (HG.out.below hR.below).c1
    have kl := (HG.out.below hR.below).l
    have HR := Frame.hid hR
    clear hR
    by_cases hlt : f < m
    · obtain ⟨b, o, rfl, hb, hc⟩ := HF.out.h (by have := HM.out; omega)
      obtain ⟨Ak, ck, h1, h2⟩ := hc f (by have := HM.out; omega)
      have c2 := (HR.out.below.cell (p := ⟨b, o + f, none⟩) hb).trans h1
      have HA2 := Frame.hid h2
      obtain ⟨p, hp⟩ : ∃ p, p = (crn fs f).length := ⟨_, rfl⟩
      rw [← hp] at c2
      have hp3 := HFL.out f hlt
      rw [← hp] at hp3
      obtain ⟨hp3, hp8⟩ := hp3
      have HP := Frame.hid hp
      have HLL := Frame.hid hLL
      have HL3 := Frame.hid hl3
      clear hc h1 h2 hp hLL hl3
      go_wp2
      clear k1 c2 kl
      go_loopw [5, 6, 7, 10] (fun v1 v2 v3 iv wr => ∃ (i : Nat) (l3 : List Int), i ≤ p ∧ iv = .int .i64 i ∧ (sdp fs f i).length ≤ 8 * f + i ∧ l3.length = (sdp fs f i).length ∧ Row3 w v1 v2 v3 (fstL (sdp fs f i)) (sndL (sdp fs f i)) l3 wr) (fun _ _ _ iv _ => p - (intOf iv).toNat)
      case atStart => exact ⟨0, l3, Nat.zero_le _, rfl, HLL.out, HL3.out, HR.out⟩
      case round =>
        obtain ⟨i, l3, hi', rfl, hLL, hl3, hR⟩ := hrel
        have HLL2 := Frame.hid hLL
        have HL32 := Frame.hid hl3
        have HR2 := Frame.hid hR
        clear hLL hl3 hR
        by_cases hlt2 : i < p
        · obtain ⟨b1, o1, rfl, hb1, hc1⟩ := HA2.out (by have := HP.out; omega)
          obtain ⟨q, hq⟩ : ∃ q, q = (i + 1) % p := ⟨_, rfl⟩
          have hqp : q < p := by rw [hq]; exact Nat.mod_lt _ (by omega)
          have hrem : Int.tmod ((i : Int) + 1) (p : Int) = (q : Int) := by rw [hq, Int.ofNat_tmod]; rfl
          obtain ⟨x, hx⟩ : ∃ x, x = (crn fs f).getD i 0 := ⟨_, rfl⟩
          obtain ⟨y, hy⟩ : ∃ y, y = (crn fs f).getD q 0 := ⟨_, rfl⟩
          have c1 := (HR2.out.below.cell (p := ⟨b1, o1 + i, none⟩) hb1).trans (hc1 i (by have := HP.out; omega))
          have C2 := Frame.hid (hc1 q (by have := HP.out; omega))
          rw [← hx] at c1
          rw [← hy] at C2
          have hnx : sdp fs f (i + 1) = sdp fs f i ++ [(x, y)] := by rw [sdp_next _ _ _ (by have := HP.out; omega), hx, hy, hq, HP.out]
          have HNX := Frame.hid hnx
          have HB1 := Frame.hid hb1
          have HI := Frame.hid hi'
          obtain ⟨n1, hn1⟩ : ∃ n1, n1 = (sdp fs f i).length := ⟨_, rfl⟩
          have hn1b : n1 ≤ 2048 := by have := HLL2.out; omega
          have hO1 := HR2.out.r1
          have hO2 := HR2.out.r2
          have hO3 := HR2.out.r3
          unfold OwnI at hO1 hO2
          have hsz := HR2.out.below.size
          have l1n : (fstL (sdp fs f i)).length = n1 := by rw [fstL_len, hn1]
          have l2n : (sndL (sdp fs f i)).length = n1 := by rw [sndL_len, hn1]
          have l3n : l3.length = n1 := by rw [HL32.out, hn1]
          rw [l1n] at hO1
          rw [l2n] at hO2
          rw [l3n] at hO3
          have L1 := Frame.hid l1n
          have L2 := Frame.hid l2n
          have L3 := Frame.hid l3n
          clear hc1 hq hx hy hn1 hnx hb1 hi' l1n l2n l3n hO2 hO3
          go_wp2_with (first
            | (at_builtin; refine wpList_append_own_at _ rfl _ _ 92 rfl w.heap.size 2 i0 (.int .i64 0) 1 8 Try.underlying92 hi hz0 hz1 hz2 rfl (by decide) _ _ _ rfl (hO1.alloc _) ⟨wr.heap.size, 0, none⟩ 1 1 [.int .i64 x] rfl rfl (cell_one_new _ _ _) (fun x hx => by simp at hx; subst hx; rfl) (by unfold maxLen; omega) (by omega) (by simp; omega) ?_; intro v4 w4 hown4 hgrow4 hnil4 hat4; have HT4 := Frame.hid (HR2.out.app1 _ L1.out.symm hown4 hgrow4 hat4); have hsz4 := HT4.out.below.size; clear hown4 hgrow4 hnil4 hat4 hO1; have hO2 := HT4.out.r2; unfold OwnI at hO2; rw [L2.out] at hO2; have c2 := (HT4.out.below.cell (p := ⟨b1, o1 + q, none⟩) HB1.out).trans C2.out; clear c1 hsz)
            | (at_builtin; refine wpList_append_own_at _ rfl _ _ 92 rfl w.heap.size 2 i0 (.int .i64 0) 1 8 Try.underlying92 hi hz0 hz1 hz2 rfl (by decide) _ _ _ rfl (hO2.alloc _) ⟨w4.heap.size, 0, none⟩ 1 1 [.int .i64 y] rfl rfl (cell_one_new _ _ _) (fun x hx => by simp at hx; subst hx; rfl) (by unfold maxLen; omega) (by omega) (by simp; omega) ?_; intro v5 w5 hown5 hgrow5 hnil5 hat5; have HT5 := Frame.hid (HT4.out.app2 _ L2.out.symm hown5 hgrow5 hat5); have hsz5 := HT5.out.below.size; clear hown5 hgrow5 hnil5 hat5 hO2; have hO3 := HT5.out.r3; rw [L3.out] at hO3; clear c2 hsz4)
            | (at_builtin; refine wpList_append_own_at _ rfl _ _ 164 rfl w.heap.size 3 j0 (.int .i64 0) 1 8 Try.underlying164 hj hy0 hy1 hy2 rfl (by decide) _ _ _ rfl (hO3.alloc _) ⟨w5.heap.size, 0, none⟩ 1 1 [.int .i64 f] rfl rfl (cell_one_new _ _ _) (fun x hx => by simp at hx; subst hx; rfl) (by unfold maxLen; omega) (by omega) (by simp; omega) ?_; intro v6 w6 hown6 hgrow6 hnil6 hat6; have HT6 := Frame.hid (HT5.out.app3 _ L3.out.symm hown6 hgrow6 hat6); have hsz6 := HT6.out.below.size; clear hown6 hgrow6 hnil6 hat6 hO3; clear hsz5))
          clear hsz6 hrem
          go_roundw
          case rel =>
            refine ⟨i + 1, l3 ++ [(f : Int)], by omega, by go_num, by rw [HNX.out, List.length_append]; have := HLL2.out; simp only [List.length_cons, List.length_nil]; omega, by rw [HNX.out, List.length_append, List.length_append, HL32.out]; rfl, ?_⟩
            rw [HNX.out]
            have e1 : fstL (sdp fs f i ++ [(x, y)]) = fstL (sdp fs f i) ++ [x] := by simp [fstL]
            have e2 : sndL (sdp fs f i ++ [(x, y)]) = sndL (sdp fs f i) ++ [y] := by simp [sndL]
            rw [e1, e2]
            exact HT6.out
          case measure => simp [intOf]; omega
        · have hip : i = p := by omega
          have HIP := Frame.hid hip
          clear hip
          go_wp2
          go_roundw
          case rel =>
            have e := sdp_full fs f (by have := HM.out; omega)
            have e3 : i = (crn fs f).length := by rw [HIP.out, HP.out]
            rw [← e3] at e
            have hL2 := HLL2.out
            have hi8 : i ≤ 8 := by have := HIP.out; omega
            exact ⟨f + 1, l3, by omega, by go_num, by rw [← e]; omega, by rw [← e]; exact HL32.out, by rw [← e]; exact HR2.out⟩
          case measure => simp [intOf]; omega
    · have hfm : f = m := by omega
      have HFM := Frame.hid hfm
      clear hfm
      go_wp2
      refine bodyPost_ret (v := .tuple #[u5, u6, u7]) (by simp [results, Try.results128, go_sem]) rfl ?_
      have e := sdp_all fs
      rw [← HM.out, ← HFM.out] at e
      have hr := HR.out
      rw [e] at hr
      exact ⟨_, _, _, _, rfl, hr⟩
end Go.Proofs.Ytnbgnaenlbphcaa
