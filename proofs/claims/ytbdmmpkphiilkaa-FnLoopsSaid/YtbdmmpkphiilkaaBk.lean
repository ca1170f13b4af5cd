/-
  The plain curve that a law draws from bytes, walked.
-/
/-
  Plain curves are valid to the specification, too; the curve in the opposite order.
-/
import Derived.Test.YtbdmmpkphiilkaaDr
import Derived.Test.YtbdmmpkphiilkaaCv
import Derived.Deep.RegionLaw
namespace Go.Proofs.Ytbdmmpkphiilkaa
open Go.RowKit Go.WideShapes Fl Ieee
attribute [local go_sem] run_store_c run_store_f

theorem Kept.grownC {g g0 : Nat} {a b c : World} (h : Kept g a b) (hg : b.grownBy c (some g0)) (h0 : a.heap.size ≤ g0) : Kept g a c :=
  ⟨hg.os.trans h.os, hg.tape.trans h.tape, hg.output.trans h.output, Nat.le_trans h.size hg.size, fun i hi hne => (hg.block i (Nat.lt_of_lt_of_le hi h.size) (fun e => by injection e with e; omega)).trans (h.block i hi hne)⟩
theorem Srce.grownC {w0 : World} {A : Option Addr} {zs : List Nat} {c g k g0 : Nat} {w w' : World} (h : Srce w0 A zs c g k w) (hg : w.grownBy w' (some g0)) (h0 : g0 ≠ g) (h1 : w0.heap.size ≤ g0) : Srce w0 A zs c g k w' := by
  obtain ⟨⟨seed, a1⟩, a2, a3, a4, a5⟩ := h
  refine ⟨⟨seed, ?_⟩, a2, a3, a4.grown hg a4.size (fun k hk => by injection hk with hk; omega), a5⟩
  rw [hg.block g (Array.getElem?_eq_some_iff.1 a1).1 (fun e => by injection e with e; omega)]
  exact a1

theorem fromC_calls (A : Option Addr) (zs : List Nat) (c : Nat) (hz : zs.length ≤ 1048576) (w : World) (hA : RdB w A zs) :
    Calls Try.prog 43 #[.slice A zs.length c] w fun e w' => e = .returned (.pointer (some ⟨w.heap.size, 0, none⟩)) ∧ Srce w A zs c w.heap.size 0 w' ∧ Below w.heap.size w w' := by
  have HA := Frame.hid hA
  have HZ := Frame.hid hz
  clear hA hz
  obtain ⟨n, hn⟩ : ∃ n, n = zs.length := ⟨_, rfl⟩
  rw [← hn]
  have HN := Frame.hid hn
  clear hn
  go_enter Try.func43, Try.ntmps43
  go_wp2
  go_ret
  have hn := HN.out
  subst hn
  exact ⟨rfl, ⟨⟨0, heap_alloc_new _ _⟩, Nat.le_refl _, HA.out, (Below.refl _ _).alloc (Nat.le_refl _) _, HZ.out⟩, (Below.refl _ _).alloc (Nat.le_refl _) _⟩

/-- Quarters. -/
def qword (i : Int) : Nat := (floatBits .quo .f32 (floatOfInt .f32 i) 1082130432).getD 0
def qOk (i : Int) : Bool := (floatBits .quo .f32 (floatOfInt .f32 i) 1082130432).isSome && match FloatKind.f32.format.read (qword i) with
  | .number s m p => decide (-7.9 ≤ dv s m p ∧ dv s m p ≤ 7.9)
  | _ => false
theorem qOk_tab : ∀ i : Fin 28, qOk ((i.val : Int) - 8) = true := by decide +kernel
theorem qword_at {i : Int} (h1 : -8 ≤ i) (h2 : i ≤ 19) : floatBits .quo .f32 (floatOfInt .f32 i) 1082130432 = some (qword i) ∧ W8 0 (qword i) := by
  have h := qOk_tab ⟨(i + 8).toNat, by omega⟩
  simp only at h
  rw [show (((i + 8).toNat : Nat) : Int) - 8 = i by omega] at h
  unfold qOk at h
  rw [Bool.and_eq_true] at h
  obtain ⟨r, hr⟩ := Option.isSome_iff_exists.1 h.1
  have e : floatBits .quo .f32 (floatOfInt .f32 i) 1082130432 = some (qword i) := by unfold qword; rw [hr]; rfl
  refine ⟨e, lt32 (bits_lt e), ?_⟩
  have h2 := h.2
  split at h2
  · rename_i s m p hd
    have h3 := of_decide_eq_true h2
    have e0 : ((0 : Nat) : Rat) = 0 := rfl
    exact ⟨_, ⟨s, m, p, hd, rfl⟩, by rw [e0]; grind, by rw [e0]; grind⟩
  · cases h2

theorem OwnC.keptC {w w' : World} {base g0 n cap : Nat} {g : Nat} {ys : List (Nat × Nat)} (h : OwnC w base (.slice (some ⟨g0, 0, none⟩) n cap) ys) (hk : Kept g w w') (hne : g0 ≠ g) : OwnC w' base (.slice (some ⟨g0, 0, none⟩) n cap) ys := by
  refine ⟨h.1, ?_⟩
  rcases h.2 with hn | ⟨g1, cap', cur, hv, hbg, hg, rest⟩
  · exact .inl hn
  · refine .inr ⟨g1, cap', cur, hv, hbg, ?_, rest⟩
    have e : g0 = g1 := by injection hv with h1; injection h1 with h1; injection h1
    rw [hk.block g1 (Array.getElem?_eq_some_iff.1 hg).1 (by omega)]
    exact hg

def PlainAt (w : World) (R O : Nat) (vA : Value) (ps : List (Nat × Nat)) (i : Value) (wr : World) : Prop :=
  ∃ (q : Nat) (vB : Value), q ≤ ps.length ∧ i = .int .i64 q ∧ CvB w R O vA vB ps q wr ∧ ∃ g cap, vB = .slice (some ⟨g, 0, none⟩) q cap

set_option maxRecDepth 100000 in
set_option maxHeartbeats 8000000 in
theorem l02Plain_calls (b off c : Nat) (ps : List (Nat × Nat)) (h1 : 1 ≤ ps.length) (hn : ps.length ≤ 100) (w : World) (hA : RdC w (some ⟨b, off, none⟩) ps) :
    Calls Try.prog 45 #[.slice (some ⟨b, off, none⟩) ps.length c] w fun e w' => ∃ g c1 g' c2, e = .returned (.agg #[.slice (some ⟨g, 0, none⟩) ps.length c1, .slice (some ⟨g', 0, none⟩) ps.length c2]) ∧ RdC w' (some ⟨g, 0, none⟩) ps ∧ RdOne w' (some ⟨g', 0, none⟩) ps.length ∧ Below w.heap.size w w' ∧ w.heap.size ≤ g ∧ w.heap.size ≤ g' := by
  obtain ⟨i0, hi, hz0, hz1, hz2⟩ := info_parts Try.infoC
  obtain ⟨i1, hi1, hy0, hy1, hy2⟩ := info_parts Try.infoF
  obtain ⟨W, hW⟩ : ∃ W, W = w.alloc (Obj.cells #[.slice none 0 0, .slice none 0 0] 37) := ⟨_, rfl⟩
  have hnews : ∀ j u, (cl ps)[j]? = some u → (W.alloc (.cells #[] 26)).cell? ((⟨b, off, none⟩ : Addr).add j) = some u := by
    obtain ⟨b', off', e, hlt, hc⟩ := hA (by omega)
    injection e with e
    injection e with e1 e2
    subst e1 e2
    intro j u hj
    have hjl : j < ps.length := by
      have := (List.getElem?_eq_some_iff.1 hj).1
      rwa [cl_len] at this
    rw [cl_get hjl] at hj
    rw [add_off, hW, World.cell?_alloc_past _ _ _ (by simp; omega), World.cell?_alloc_past _ _ _ hlt, hc j hjl]
    exact hj
  have hlit : OwnC (W.alloc (.cells #[] 26)) w.heap.size (.slice (some ⟨w.heap.size + 1, 0, none⟩) 0 0) [] := by
    have h := OwnC.mono' (none_litP W) (show w.heap.size ≤ W.heap.size by rw [hW]; simp)
    rw [show W.heap.size = w.heap.size + 1 by rw [hW]; simp] at h
    exact h
  have hlsz : w.heap.size ≤ (W.alloc (.cells #[] 26)).heap.size := by rw [hW]; simp; omega
  rw [hW] at hnews hlit hlsz
  have HN := Frame.hid hnews
  have HLI := Frame.hid hlit
  have HLS := Frame.hid hlsz
  clear hA hnews hlit hlsz hW
  go_enter Try.func45, Try.ntmps45
  go_wp2_with (at_builtin; refine wpList_append_own _ rfl _ _ 25 rfl w.heap.size 26 i0 (.complex .f32 0 0) 1 8 Try.underlying25 hi hz0 hz1 hz2 rfl (by decide) _ _ _ rfl HLI.out ⟨b, off, none⟩ ps.length _ (cl ps) rfl (by rw [cl_len, Nat.mul_one]) HN.out cl_one (by show 0 + ps.length ≤ maxLen; unfold maxLen; omega) (by show (0 + ps.length) * 8 ≤ _; omega) HLS.out ?_; intro v' w3 hown' hgrow3 hnil3; obtain ⟨g', cap', rfl, hO2⟩ := own_appP (ys := []) (by simp) (by omega) hown'; clear hnil3 hown')
  have hgrow4 : ((w.alloc (Obj.cells #[.slice none 0 0, .slice none 0 0] 37)).alloc (Obj.cells #[] 26)).grownBy w3 (some (w.heap.size + 1)) := hgrow3
  have HG := Frame.hid hgrow4
  have HO2 := Frame.hid hO2
  clear hgrow3 hgrow4 hO2
  go_loopw [4] (fun i wr => PlainAt w w.heap.size (w3.heap.size + 1) (.slice (some ⟨g', 0, none⟩) (0 + ps.length) cap') ps i wr) (fun i _ => ps.length - (intOf i).toNat)
  case atStart =>
    have hr : w3.heap[w.heap.size]? = some (.cells #[.slice none 0 0, .slice none 0 0] 37 (0, 0)) := by
      rw [HG.out.block w.heap.size (by simp; omega) (by simp), heap_alloc_old _ _ (by simp)]
      exact heap_alloc_new _ _
    have hb : Below w.heap.size w w3 := Below.grown (((Below.refl _ w).alloc (Nat.le_refl _) _).alloc (by simp) _) HG.out (by simp; omega) (fun k hk => by injection hk with hk; omega)
    exact ⟨0, _, Nat.zero_le _, rfl, by simpa using CvB.start hb (Nat.le_refl _) hr HO2.out, _, _, rfl⟩
  case round =>
    obtain ⟨q, vB, hq, rfl, hC, gB, cB, rfl⟩ := hrel
    obtain ⟨k1, k2, k3, ⟨x, k4⟩, ⟨y, k5⟩, k6⟩ := hC.cells
    have HC := Frame.hid hC
    have hsz := hC.below.size
    by_cases hlt : q < ps.length
    · have hO1 := hC.wts
      clear hC
      go_wp2_with (at_builtin; refine wpList_append_own _ rfl _ _ 35 rfl w.heap.size 27 i1 (.float .f32 0) 1 4 Try.underlying35 hi1 hy0 hy1 hy2 rfl (by decide) _ _ _ rfl (hO1.alloc _) ⟨wr.heap.size, 0, none⟩ 1 1 [.float .f32 1065353216] rfl rfl (cell_one_new _ _ _) (fun x hx => by simp at hx; subst hx; rfl) (by unfold maxLen; omega) (by omega) (by simp; omega) ?_; intro v' w4 hown' hgrow4 hnil4; obtain ⟨g2, cap2, rfl⟩ := own_form hown'; obtain ⟨e1, e2, e3⟩ := HC.out.after _ hgrow4 (.inr rfl))
      go_roundw
      case rel => exact ⟨q + 1, _, by omega, by go_num, HC.out.appB _ hgrow4 hown', _, _, rfl⟩
      case measure => simp [intOf]; omega
    · have hqn : q = ps.length := by omega
      subst hqn
      rw [Nat.zero_add] at hC
      obtain ⟨gA, c1, gB', c2, e1, e2, hA, hB, hbel, r1, r2, r3, r4⟩ := hC.done rfl (by omega)
      injection e2 with e3 _ e4
      injection e3 with e3
      injection e3 with e3
      subst e3 e4
      injection e1 with e5 _ e6
      injection e5 with e5
      injection e5 with e5
      subst e5 e6
      have HD := Frame.hid (And.intro hA (And.intro hB (And.intro hbel (And.intro r3 r4))))
      clear hC hA hB hbel
      go_wp2_with fail
      refine bodyPost_ret (v := .agg #[.slice (some ⟨g', 0, none⟩) ps.length cap', .slice (some ⟨gB, 0, none⟩) ps.length cB]) ?_ rfl ?_
      · simp [results, Try.results45, go_sem, r1, r2]
      · exact ⟨g', cap', gB, ⟨cB, rfl⟩, HD.out.1, HD.out.2.1, HD.out.2.2⟩

def CurveDr (w0 : World) (A : Option Addr) (zs : List Nat) (c g n : Nat) (w : World) (v i : Value) (wr : World) : Prop :=
  ∃ (q k' g0 cap : Nat) (xs : List (Nat × Nat)), q ≤ n + 1 ∧ i = .int .i64 q ∧ xs.length = q ∧ v = .slice (some ⟨g0, 0, none⟩) q cap ∧ All8 0 xs ∧ OwnC wr w.heap.size v xs ∧ k' ≤ 4 * q ∧ Srce w0 A zs c g k' wr ∧ Kept g w wr

set_option maxRecDepth 100000 in
set_option maxHeartbeats 8000000 in
theorem b10Curve_calls (A : Option Addr) (zs : List Nat) (c n : Nat) (hn1 : 1 ≤ n) (hn : n ≤ 4) (hz : zs.length ≤ 1048576) (w : World) (hA : RdB w A zs) :
    Calls Try.prog 13 #[.slice A zs.length c, .int .i64 (n : Int)] w fun e w' => ∃ g c1 g' c2 ps, ps.length = n + 1 ∧ All8 0 ps ∧ e = .returned (.agg #[.slice (some ⟨g, 0, none⟩) (n + 1) c1, .slice (some ⟨g', 0, none⟩) (n + 1) c2]) ∧ RdC w' (some ⟨g, 0, none⟩) ps ∧ RdOne w' (some ⟨g', 0, none⟩) ps.length ∧ Below w.heap.size w w' := by
  obtain ⟨i0, hi, hz0, hz1, hz2⟩ := info_parts Try.infoC
  obtain ⟨W0, hW0⟩ : ∃ W, W = w.alloc (Obj.cells #[.slice none 0 0, .slice none 0 0] 37) := ⟨_, rfl⟩
  have hA0 : RdB W0 A zs := by
    rw [hW0]
    intro h0
    obtain ⟨b, off, e, hlt, hc⟩ := hA h0
    exact ⟨b, off, e, by simp; omega, fun j hj => ⟨by rw [World.cell?_alloc_past _ _ _ hlt]; exact (hc j hj).1, (hc j hj).2⟩⟩
  have hB0 : Below w.heap.size w W0 := by rw [hW0]; exact (Below.refl _ w).alloc (Nat.le_refl _) _
  have hr0 : ∃ x y, W0.cell? ⟨w.heap.size, 0, none⟩ = some x ∧ W0.cell? ⟨w.heap.size, 1, none⟩ = some y ∧ ∀ j, W0.frozen? ⟨w.heap.size, j, none⟩ = false := by
    rw [hW0]
    exact ⟨_, _, by rw [World.cell?_alloc_at _ _ _ _ rfl]; rfl, by rw [World.cell?_alloc_at _ _ _ _ rfl]; rfl, fun j => World.frozen?_alloc_at _ _ _ _ rfl⟩
  have hs0 : w.heap.size < W0.heap.size := by rw [hW0]; simp
  have HA := Frame.hid hA0
  have HZ := Frame.hid hz
  have HB0 := Frame.hid hB0
  have HR0 := Frame.hid hr0
  clear hA hz hA0 hB0 hr0
  go_enter Try.func13, Try.ntmps13
  go_wp2_with fail
  rw [← hW0]
  clear hW0
  refine (fromC_calls A zs c HZ.out _ HA.out).mono ?_
  rintro e w1 ⟨rfl, hS, hB⟩
  have HS := Frame.hid hS
  have HB := Frame.hid hB
  obtain ⟨g, hg⟩ : ∃ g, g = W0.heap.size := ⟨_, rfl⟩
  rw [← hg] at HS ⊢
  have HGL := Frame.hid (HS.out.lt)
  clear hS hB hg
  go_wp2_with fail
  go_loopw [6, 7] (fun v i wr => CurveDr W0 A zs c g n w1 v i wr) (fun _ i _ => n + 1 - (intOf i).toNat)
  case atStart => exact ⟨0, 0, w1.heap.size, 0, [], by omega, rfl, rfl, rfl, fun i hi => absurd hi (by simp), none_litP w1, by omega, HS.out.alloc _, (Kept.refl g w1).alloc _⟩
  case round =>
    obtain ⟨q, k', g0, cap, xs, hq, rfl, hxl, rfl, h8, hO, hk', hS, hK⟩ := hrel
    have H8 := Frame.hid h8
    have HO := Frame.hid hO
    have HSS := Frame.hid hS
    have HK := Frame.hid hK
    have HXL := Frame.hid hxl
    have hg0 : w1.heap.size ≤ g0 := (World.ownsRow.lt hO g0 rfl).1
    have HG0 := Frame.hid hg0
    clear h8 hO hS hK hg0 hxl
    by_cases hlt : q < n + 1
    · have h1 : (q : Int) ≤ (n : Int) := by omega
      go_wp2_with fail
      refine (pick_calls W0 A zs c g k' 4 (by omega) (by omega) (by omega) _ HSS.out).mono ?_
      rintro e w2 ⟨r, k1, hr, hk1, rfl, hS, hK⟩
      have HS2 := Frame.hid hS
      have HKA := Frame.hid hK
      clear hS hK
      obtain ⟨f1, hx8⟩ := qword_at (i := 4 * (q : Int) + (r : Int)) (by omega) (by omega)
      have f2 := ta f1
      have HX8 := Frame.hid hx8
      clear f1 hx8
      go_wp2_with fail
      refine (pick_calls W0 A zs c g k1 17 (by omega) (by omega) (by omega) _ HS2.out).mono ?_
      rintro e w3 ⟨r2, k2, hr2, hk2, rfl, hS, hK⟩
      have HS3 := Frame.hid hS
      have HK3 := Frame.hid ((HK.out.trans HKA.out).trans hK)
      have hO1 : w3.ownsRow w1.heap.size 26 1 (.slice (some ⟨g0, 0, none⟩) q cap) q (cl xs) := by
        have h := OwnC.keptC (OwnC.keptC HO.out HKA.out (by have := HGL.out; have := HG0.out; omega)) hK (by have := HGL.out; have := HG0.out; omega)
        unfold OwnC at h
        rwa [HXL.out] at h
      clear hS hK
      obtain ⟨f3, hy8⟩ := qword_at (i := (r2 : Int) - 8) (by omega) (by omega)
      have f4 := ta f3
      have HY8 := Frame.hid hy8
      clear f3 hy8 f2
      obtain ⟨x, hx⟩ : ∃ x, x = qword (4 * (q : Int) + (r : Int)) := ⟨_, rfl⟩
      obtain ⟨y, hy⟩ : ∃ x, x = qword ((r2 : Int) - 8) := ⟨_, rfl⟩
      rw [← hx] at HX8 ⊢
      rw [← hy] at HY8 f4
      clear hx hy
      have hsz : w1.heap.size ≤ w3.heap.size := HK3.out.size
      go_wp2_with (at_builtin; refine wpList_append_own _ rfl _ _ 25 rfl w1.heap.size 26 i0 (.complex .f32 0 0) 1 8 Try.underlying25 hi hz0 hz1 hz2 rfl (by decide) _ _ _ rfl (hO1.alloc _) ⟨w3.heap.size, 0, none⟩ 1 1 [.complex .f32 x y] rfl rfl (cell_one_new _ _ _) (fun x hx => by simp at hx; subst hx; rfl) (by unfold maxLen; omega) (by omega) (by simp; omega) ?_; intro v' w4 hown' hgrow3 hnil3; obtain ⟨g', cap', rfl, hO2⟩ := own_appP (ys := xs) (zs := [(x, y)]) (by rw [HXL.out]; rfl) (by omega) hown')
      have hgrow4 : (w3.alloc (.cells #[.complex .f32 x y] 26)).grownBy w4 (some g0) := hgrow3
      have HS4 : Hid (Srce W0 A zs c g k2 w4) := (HS3.out.alloc _).grownC hgrow4 (by have := HGL.out; have := HG0.out; omega) (by have := HG0.out; have := HB.out.size; omega)
      have HK4 : Hid (Kept g w1 w4) := (HK3.out.alloc _).grownC hgrow4 HG0.out
      have HO4 := Frame.hid hO2
      clear hgrow3 hgrow4 hnil3 hown' hO1 hO2 hsz f4
      go_roundw
      case rel =>
        refine ⟨q + 1, k2, g', cap', xs ++ [(x, y)], by omega, by go_num, by simp [HXL.out], rfl, fun i hi => ?_, HO4.out, by omega, HS4.out, HK4.out⟩
        rw [List.length_append, List.length_singleton] at hi
        by_cases e : i < xs.length
        · rw [List.getD_eq_getElem?_getD, List.getElem?_append_left e, ← List.getD_eq_getElem?_getD]
          exact H8.out i e
        · have e2 : i = xs.length := by omega
          subst e2
          rw [List.getD_eq_getElem?_getD, List.getElem?_append_right (Nat.le_refl _), Nat.sub_self]
          exact ⟨HX8.out, HY8.out⟩
      case measure => simp [intOf]; omega
    · have hqn : q = n + 1 := by omega
      subst hqn
      have h1 : ¬ ((n : Int) + 1 ≤ (n : Int)) := by omega
      have HP := Frame.hid (l02Plain_calls g0 0 cap xs (by have := HXL.out; omega) (by have := HXL.out; omega) wr HO.out.rd')
      have HBR : Hid (Below w.heap.size w wr) := Frame.hid (HB0.out.trans (HSS.out.2.2.2.1.mono HB0.out.size))
      rw [HXL.out] at HP
      go_wp2_with fail
      refine HP.out.mono ?_
      rintro e w5 ⟨gA, cA, gB, cB, rfl, hA, hB, hb, l1, l2⟩
      obtain ⟨x, y, r1, r2, r3⟩ := HR0.out
      have hs1 : w.heap.size < wr.heap.size := Nat.lt_of_lt_of_le hs0 HSS.out.2.2.2.1.size
      have hk : w5.heap[w.heap.size]? = W0.heap[w.heap.size]? := (hb.block w.heap.size hs1).trans (HSS.out.2.2.2.1.block w.heap.size hs0)
      have q1 : w5.cell? ⟨w.heap.size, 0, none⟩ = some x := (World.cell?_of_block hk).trans r1
      have q2 : w5.cell? ⟨w.heap.size, 1, none⟩ = some y := (World.cell?_of_block hk).trans r2
      have q3 : ∀ j, w5.frozen? ⟨w.heap.size, j, none⟩ = false := fun j => (World.frozen?_of_block hk).trans (r3 j)
      have n1 : gA ≠ w.heap.size := by omega
      have n2 : gB ≠ w.heap.size := by omega
      have HE : Hid (RdC ((w5.setCell ⟨w.heap.size, 0, none⟩ (.slice (some ⟨gA, 0, none⟩) (n + 1) cA)).setCell ⟨w.heap.size, 1, none⟩ (.slice (some ⟨gB, 0, none⟩) (n + 1) cB)) (some ⟨gA, 0, none⟩) xs ∧ RdOne ((w5.setCell ⟨w.heap.size, 0, none⟩ (.slice (some ⟨gA, 0, none⟩) (n + 1) cA)).setCell ⟨w.heap.size, 1, none⟩ (.slice (some ⟨gB, 0, none⟩) (n + 1) cB)) (some ⟨gB, 0, none⟩) xs.length ∧ Below w.heap.size w ((w5.setCell ⟨w.heap.size, 0, none⟩ (.slice (some ⟨gA, 0, none⟩) (n + 1) cA)).setCell ⟨w.heap.size, 1, none⟩ (.slice (some ⟨gB, 0, none⟩) (n + 1) cB))) := by
        refine Frame.hid ⟨(hA.set n1).set n1, ?_, ((HBR.out.trans (hb.mono HBR.out.size)).setCell (p := ⟨w.heap.size, 0, none⟩) (Nat.le_refl _) _).setCell (p := ⟨w.heap.size, 1, none⟩) (Nat.le_refl _) _⟩
        rw [HXL.out]
        exact (hB.set n2).set n2
      have s1 : ((w5.setCell ⟨w.heap.size, 0, none⟩ (.slice (some ⟨gA, 0, none⟩) (n + 1) cA)).setCell ⟨w.heap.size, 1, none⟩ (.slice (some ⟨gB, 0, none⟩) (n + 1) cB)).cell? ⟨w.heap.size, 0, none⟩ = some (.slice (some ⟨gA, 0, none⟩) (n + 1) cA) := by
        rw [World.cell?_setCell_other _ _ _ _ (by simp)]
        exact World.cell?_setCell_same' _ _ _ (by rw [q1]; rfl)
      have s2 : ((w5.setCell ⟨w.heap.size, 0, none⟩ (.slice (some ⟨gA, 0, none⟩) (n + 1) cA)).setCell ⟨w.heap.size, 1, none⟩ (.slice (some ⟨gB, 0, none⟩) (n + 1) cB)).cell? ⟨w.heap.size, 1, none⟩ = some (.slice (some ⟨gB, 0, none⟩) (n + 1) cB) := by
        refine World.cell?_setCell_same' _ _ _ ?_
        rw [World.cell?_setCell_other _ _ _ _ (by simp), q2]
        rfl
      clear hA hB hb hk r1 r2 r3
      go_wp2_with fail
      refine bodyPost_ret (v := .agg #[.slice (some ⟨gA, 0, none⟩) (n + 1) cA, .slice (some ⟨gB, 0, none⟩) (n + 1) cB]) ?_ rfl ?_
      · simp [results, Try.results13, go_sem, s1, s2]
      · exact ⟨gA, cA, gB, cB, xs, HXL.out, H8.out, rfl, HE.out.1, HE.out.2.1, HE.out.2.2⟩

end Go.Proofs.Ytbdmmpkphiilkaa

namespace Go.Proofs.Ytbdmmpkphiilkaa
open Go.RowKit Fl Ieee
attribute [local go_sem] run_store_c run_store_f

set_option maxHeartbeats 1000000 in
theorem specFinC_calls (x y : Nat) (hx : fin .f32 x = true) (hy : fin .f32 y = true) (w : World) :
    Calls Try.prog 61 #[.complex .f32 x y] w fun e w' => e = .returned (.bool true) ∧ ∃ n, w' = w.drewN n := by
  go_enter Try.func61, Try.ntmps61
  go_wp2_with fail
  refine (l01Finite_calls _ _).mono ?_
  rintro e w1 ⟨rfl, n1, rfl⟩
  rw [hx]
  go_wp2_with fail
  refine (l01Finite_calls _ _).mono ?_
  rintro e w1 ⟨rfl, n2, rfl⟩
  rw [hy]
  go_wp2_with fail
  go_ret
  exact ⟨rfl, _, rfl⟩

set_option maxHeartbeats 1000000 in
theorem above_calls (w : World) : Calls Try.prog 90 #[.float .f32 1065353216] w fun e w' => e = .returned (.bool true) ∧ ∃ n, w' = w.drewN n := by
  have ho : FloatKind.f32.format.order 1065353216 0 = some .gt := by decide +kernel
  go_enter Try.func90, Try.ntmps90
  go_wp2_with fail
  refine (l01Finite_calls _ _).mono ?_
  rintro e w1 ⟨rfl, n1, rfl⟩
  rw [show fin .f32 1065353216 = true by decide +kernel]
  go_wp2_with fail
  go_ret
  exact ⟨rfl, _, rfl⟩

set_option maxRecDepth 100000 in
set_option maxHeartbeats 4000000 in
theorem l02Is_calls (C : Nat) (A B : Option Addr) (ps : List (Nat × Nat)) (c1 c2 : Nat) (h2 : 2 ≤ ps.length) (hn : ps.length ≤ 8) (hf : FinP ps) (w : World) (hA : RdC w A ps) (hB : RdOne w B ps.length) (d1 : w.cell? ⟨C, 0, none⟩ = some (.slice A ps.length c1)) (d2 : w.cell? ⟨C, 1, none⟩ = some (.slice B ps.length c2)) :
    Calls Try.prog 47 #[.pointer (some ⟨C, 0, none⟩)] w fun e w' => e = .returned (.bool true) ∧ ∃ n, w' = w.drewN n := by
  have h2' : 2 ≤ (ps.length : Int) := by omega
  have hn' : (ps.length : Int) ≤ 8 := by omega
  have HF := Frame.hid hf
  have HA := Frame.hid hA
  have HB := Frame.hid hB
  clear hf hA hB
  obtain ⟨n, hn0⟩ : ∃ n, n = ps.length := ⟨_, rfl⟩
  have HN := Frame.hid hn0
  rw [← hn0] at h2 hn h2' hn' d1 d2
  clear hn0
  go_enter Try.func47, Try.ntmps47
  go_wp2_with fail
  go_loopw [4] (fun i wr => ∃ k : Nat, k ≤ n ∧ i = .int .i64 k ∧ ∃ m, wr = w.drewN m) (fun i _ => n - (intOf i).toNat)
  case atStart => exact ⟨0, Nat.zero_le _, rfl, 0, rfl⟩
  case round =>
    obtain ⟨k, hk, rfl, m, rfl⟩ := hrel
    by_cases hlt : k < n
    · obtain ⟨b, off, rfl, hltb, hc⟩ := HA.out (by rw [← HN.out]; omega)
      obtain ⟨b', off', rfl, hltb', hc'⟩ := HB.out (by rw [← HN.out]; omega)
      have k1 : ∀ m', (w.drewN m').cell? ⟨b, off + k, none⟩ = some (.complex .f32 (ps.getD k (0, 0)).1 (ps.getD k (0, 0)).2) := fun m' => hc k (by rw [← HN.out]; exact hlt)
      have k2 : ∀ m', (w.drewN m').cell? ⟨b', off' + k, none⟩ = some (.float .f32 1065353216) := fun m' => hc' k (by rw [← HN.out]; exact hlt)
      have e1 : ∀ m', (w.drewN m').cell? ⟨C, 0, none⟩ = some (.slice (some ⟨b, off, none⟩) n c1) := fun m' => d1
      have e2 : ∀ m', (w.drewN m').cell? ⟨C, 1, none⟩ = some (.slice (some ⟨b', off', none⟩) n c2) := fun m' => d2
      have hff := HF.out k (by rw [← HN.out]; exact hlt)
      have hlt' : (k : Int) < (n : Int) := by omega
      obtain ⟨x, hx⟩ : ∃ x, x = (ps.getD k (0, 0)).1 := ⟨_, rfl⟩
      obtain ⟨y, hy⟩ : ∃ x, x = (ps.getD k (0, 0)).2 := ⟨_, rfl⟩
      rw [← hx, ← hy] at k1 hff
      clear hc hc' hx hy
      have k1m := k1 m
      have e1m := e1 m
      go_wp2_with fail
      refine (specFinC_calls _ _ hff.1 hff.2 _).mono ?_
      rintro e w1 ⟨rfl, m2, rfl⟩
      try rw [World.drewN_drewN]
      have k2m := k2 (m + m2)
      have e2m := e2 (m + m2)
      go_wp2_with fail
      refine (above_calls _).mono ?_
      rintro e w1 ⟨rfl, m3, rfl⟩
      go_wp2_with fail
      go_roundw
      case rel => exact ⟨k + 1, by omega, by go_num, m + m2 + m3, by first | rfl | rw [World.drewN_drewN]⟩
      case measure => simp [intOf]; omega
    · have hkn : k = n := by omega
      subst hkn
      go_wp2_with fail
      go_ret
      exact ⟨rfl, m, rfl⟩

theorem own_drewP {w : World} {base : Nat} {e : TypeId} {size : Nat} {v : Value} {n : Nat} {xs : List Value} (h : w.ownsRow base e size v n xs) (k : Nat) : (w.drewN k).ownsRow base e size v n xs := h
theorem CvB.drew {w wr : World} {R O : Nat} {vA vB : Value} {ys : List (Nat × Nat)} {q : Nat} (h : CvB w R O vA vB ys q wr) (k : Nat) : CvB w R O vA vB ys q (wr.drewN k) := ⟨below_drewN h.below k, h.lo, h.box, h.res, h.pts, h.wts⟩
theorem CvB.nil {w wr : World} {R O : Nat} {x y : Value} (hb : Below w.heap.size w wr) (hO : w.heap.size ≤ O) (hR : w.heap.size ≤ R) (hne : R ≠ O) (ho : wr.heap[O]? = some (.cells #[.slice none 0 0, .slice none 0 0] 37 (0, 0))) (hr : wr.heap[R]? = some (.cells #[x, y] 37 (0, 0))) : CvB w R O (.slice none 0 0) (.slice none 0 0) [] 0 wr :=
  ⟨hb, ⟨hO, hR, hne⟩, ho, ⟨x, y, hr⟩, World.ownsRow_nil _ _ _ _, World.ownsRow_nil _ _ _ _⟩
/-- Another box of a curve stays as it is. -/
theorem CvB.keepBox {w wr w' : World} {R O K : Nat} {vA vB : Value} {ys : List (Nat × Nat)} {q : Nat} (h : CvB w R O vA vB ys q wr) (o : Obj) {row : Option Nat} (hg : (wr.alloc o).grownBy w' row) (hrow : row = vA.ownBlock ∨ row = vB.ownBlock) (hK : K ≠ O) {cs : Array Value} (hk : wr.heap[K]? = some (.cells cs 37 (0, 0))) (j : Nat) (v : Value) : (w'.setCell ⟨O, j, none⟩ v).heap[K]? = some (.cells cs 37 (0, 0)) := by
  obtain ⟨t1, t2, t3⟩ := tCF
  have hl : K < wr.heap.size := (Array.getElem?_eq_some_iff.1 hk).1
  have hne : some K ≠ row := by
    rcases hrow with rfl | rfl
    · exact fun e => own_apart h.pts hk t2 e.symm
    · exact fun e => own_apart h.wts hk t1 e.symm
  rw [heap_setCell_other w' ⟨O, j, none⟩ K _ hK, hg.block K (by simp; omega) hne, heap_alloc_old wr o hl]
  exact hk

def BackAt (w : World) (vC : Array Value) (ps : List (Nat × Nat)) (O : Nat) (i : Value) (wr : World) : Prop :=
  ∃ (q : Nat) (vA vB : Value), q ≤ ps.length ∧ i = .int .i64 ((ps.length : Int) - 1 - q) ∧ CvB w (w.heap.size + 1) O vA vB (ps.reverse.take q) q wr ∧ wr.heap[w.heap.size]? = some (.cells vC 37 (0, 0)) ∧ (q = 0 → vA = .slice none 0 0 ∧ vB = .slice none 0 0) ∧ (0 < q → ∃ g c g' c', vA = .slice (some ⟨g, 0, none⟩) q c ∧ vB = .slice (some ⟨g', 0, none⟩) q c')

set_option maxRecDepth 100000 in
set_option maxHeartbeats 8000000 in
theorem backCurve_calls (A B : Option Addr) (ps : List (Nat × Nat)) (c1 c2 : Nat) (h2 : 2 ≤ ps.length) (hn : ps.length ≤ 8) (hf : FinP ps) (w : World) (hA : RdC w A ps) (hB : RdOne w B ps.length) :
    Calls Try.prog 15 #[.agg #[.slice A ps.length c1, .slice B ps.length c2]] w fun e w' => ∃ g d1 g' d2, e = .returned (.tuple #[.agg #[.slice (some ⟨g, 0, none⟩) ps.length d1, .slice (some ⟨g', 0, none⟩) ps.length d2], .bool true]) ∧ RdC w' (some ⟨g, 0, none⟩) ps.reverse ∧ RdOne w' (some ⟨g', 0, none⟩) ps.length ∧ Below w.heap.size w w' := by
  obtain ⟨i0, hi, hz0, hz1, hz2⟩ := info_parts Try.infoC
  obtain ⟨i1, hi1, hy0, hy1, hy2⟩ := info_parts Try.infoF
  obtain ⟨W, hW⟩ : ∃ W, W = (w.alloc (Obj.cells #[.slice A ps.length c1, .slice B ps.length c2] 37)).alloc (Obj.cells #[.slice none 0 0, .slice none 0 0] 37) := ⟨_, rfl⟩
  have hBW : Below w.heap.size w W := by rw [hW]; exact ((Below.refl _ w).alloc (Nat.le_refl _) _).alloc (by simp) _
  have hsW : W.heap.size = w.heap.size + 2 := by rw [hW]; simp
  have kC : W.heap[w.heap.size]? = some (.cells #[.slice A ps.length c1, .slice B ps.length c2] 37 (0, 0)) := by
    rw [hW, heap_alloc_old _ _ (by simp)]
    exact heap_alloc_new _ _
  have kR : W.heap[w.heap.size + 1]? = some (.cells #[.slice none 0 0, .slice none 0 0] 37 (0, 0)) := by
    rw [hW]
    exact heap_alloc2_new _ _ _
  have HIS := Frame.hid (l02Is_calls w.heap.size A B ps c1 c2 h2 hn hf W (hA.below hBW) (hB.below hBW) (by rw [cell_of_row _ _ _ _ _ _ kC]; rfl) (by rw [cell_of_row _ _ _ _ _ _ kC]; rfl))
  have HA := Frame.hid (fun (X : World) (hb : Below w.heap.size w X) => RdC.below hA hb)
  have HB := Frame.hid (fun (X : World) (hb : Below w.heap.size w X) => RdOne.below hB hb)
  have HKC := Frame.hid kC
  have HST := Frame.hid (fun m : Nat => show BackAt w #[.slice A ps.length c1, .slice B ps.length c2] ps (w.heap.size + 2) (.int .i64 ((ps.length : Int) - 1)) ((W.drewN m).alloc (Obj.cells #[.slice none 0 0, .slice none 0 0] 37)) from by
    refine ⟨0, _, _, Nat.zero_le _, by simp, CvB.nil (x := .slice none 0 0) (y := .slice none 0 0) ((below_drewN hBW m).alloc hBW.size _) (by omega) (by omega) (by omega) ?_ ?_, ?_, fun _ => ⟨rfl, rfl⟩, fun h => absurd h (by omega)⟩
    · rw [← hsW]; exact heap_alloc_new (W.drewN m) _
    · rw [heap_alloc_old (W.drewN m) _ (show w.heap.size + 1 < W.heap.size by omega)]; exact kR
    · rw [heap_alloc_old (W.drewN m) _ (show w.heap.size < W.heap.size by omega)]; exact kC)
  have hl1 : (2 : Int) ≤ (ps.length : Int) := by omega
  have hl2 : (ps.length : Int) ≤ 8 := by omega
  clear hf hA hB hBW kC kR
  go_enter Try.func15, Try.ntmps15
  go_wp2_with fail
  rw [← hW]
  clear hW
  refine HIS.out.mono ?_
  rintro e w1 ⟨rfl, m, rfl⟩
  have HS1 := Frame.hid (HST.out m)
  have hs1 : (W.drewN m).heap.size = w.heap.size + 2 := hsW
  have eC : (W.drewN m).cell? ⟨w.heap.size, 0, none⟩ = some (.slice A ps.length c1) := by rw [cell_of_row (W.drewN m) _ _ _ _ _ HKC.out]; rfl
  have eC2 : ((W.drewN m).alloc (Obj.cells #[.slice none 0 0, .slice none 0 0] 37)).cell? ⟨w.heap.size, 0, none⟩ = some (.slice A ps.length c1) := by rw [World.cell?_alloc_past _ _ _ (by omega)]; exact eC
  obtain ⟨W1, hW1⟩ : ∃ W1, W1 = W.drewN m := ⟨_, rfl⟩
  rw [← hW1] at HS1 hs1 eC eC2 ⊢
  clear hW1 HST HIS hsW HKC
  go_wp2_with fail
  clear eC eC2
  go_loopw [5] (fun i wr => BackAt w #[.slice A ps.length c1, .slice B ps.length c2] ps (w.heap.size + 2) i wr) (fun i _ => (intOf i + 1).toNat)
  case atStart => exact HS1.out
  case round =>
    obtain ⟨q, vA, vB, hq, rfl, hC, kC, hnil, hsome⟩ := hrel
    have HC := Frame.hid hC
    have HKC := Frame.hid kC
    obtain ⟨k1, k2, k3, ⟨x, k4⟩, ⟨y, k5⟩, k6⟩ := hC.cells
    have e1 : wr.cell? ⟨w.heap.size, 0, none⟩ = some (.slice A ps.length c1) := by rw [cell_of_row _ _ _ _ _ _ kC]; rfl
    have e2 : wr.cell? ⟨w.heap.size, 1, none⟩ = some (.slice B ps.length c2) := by rw [cell_of_row _ _ _ _ _ _ kC]; rfl
    by_cases hlt : q < ps.length
    · obtain ⟨b, off, rfl, hltb, hcA⟩ := HA.out wr hC.below (by omega)
      obtain ⟨b', off', rfl, hltb', hcB⟩ := HB.out wr hC.below (by omega)
      obtain ⟨p, hp⟩ : ∃ p, p = ps.length - 1 - q := ⟨_, rfl⟩
      have hpi : (ps.length : Int) - 1 - (q : Int) = (p : Int) := by omega
      have hpl : (p : Int) < (ps.length : Int) := by omega
      have hplN : p < ps.length := by omega
      rw [hpi]
      obtain ⟨z1, hz1'⟩ : ∃ x, x = (ps.getD p (0, 0)).1 := ⟨_, rfl⟩
      obtain ⟨z2, hz2'⟩ : ∃ x, x = (ps.getD p (0, 0)).2 := ⟨_, rfl⟩
      have k7 : wr.cell? ⟨b, off + p, none⟩ = some (.complex .f32 z1 z2) := by rw [hz1', hz2']; exact hcA p (by omega)
      have hzz : (z1, z2) = ps.getD p (0, 0) := by rw [hz1', hz2']
      have HZZ := Frame.hid hzz
      have hown := hC.pts
      have hlen : (ps.reverse.take q).length = q := by rw [List.length_take, List.length_reverse]; omega
      rw [hlen] at hown
      have hsz := hC.below.size
      have HPD := Frame.hid hp
      have hOlt : w.heap.size + 2 < wr.heap.size := (Array.getElem?_eq_some_iff.1 hC.box).1
      have m1 : (wr.alloc (.cells #[.complex .f32 z1 z2] 26)).cell? ⟨w.heap.size + 2, 0, none⟩ = some vA := by rw [World.cell?_alloc_past _ _ _ hOlt]; exact k1
      clear hcA hz1' hz2' hzz hC kC hp hpi
      go_wp2_with fail
      go_region_law (refine step_append_own rfl _ _ 25 rfl w.heap.size 26 i0 (.complex .f32 0 0) 1 8 Try.underlying25 hi hz0 hz1 hz2 rfl (by decide) _ _ _ rfl (World.ownsRow.alloc (own_drewP hown 1) _) ⟨_, 0, none⟩ 1 1 [.complex .f32 z1 z2] rfl rfl (cell_one_new _ _ _) (fun x hx => by simp at hx; subst hx; rfl) (by unfold maxLen; omega) (by omega) (by simp; omega) ?_; intro v' w4 hown' hgrow4 hnil4; obtain ⟨g2, cap2, rfl⟩ := own_form hown'; obtain ⟨q1, q2, q3⟩ := (HC.out.drew 1).after _ hgrow4 (.inl rfl))
      all_goals
        have hC2 : CvB w (w.heap.size + 1) (w.heap.size + 2) (.slice (some ⟨g2, 0, none⟩) (q + 1) cap2) vB (ps.reverse.take q ++ [(z1, z2)]) q (w4.setCell ⟨w.heap.size + 2, 0, none⟩ (.slice (some ⟨g2, 0, none⟩) (q + 1) cap2)) := (HC.out.drew 1).appA _ hgrow4 (by rw [hlen]; exact hown')
        have kC2 : (w4.setCell ⟨w.heap.size + 2, 0, none⟩ (.slice (some ⟨g2, 0, none⟩) (q + 1) cap2)).heap[w.heap.size]? = some (.cells #[.slice (some ⟨b, off, none⟩) ps.length c1, .slice (some ⟨b', off', none⟩) ps.length c2] 37 (0, 0)) := (HC.out.drew 1).keepBox _ hgrow4 (.inl rfl) (by omega) HKC.out _ _
        have HC2 := Frame.hid hC2
        have HKC2 := Frame.hid kC2
        obtain ⟨W5, hW5⟩ : ∃ W5, W5 = w4.setCell ⟨w.heap.size + 2, 0, none⟩ (.slice (some ⟨g2, 0, none⟩) (q + 1) cap2) := ⟨_, rfl⟩
        rw [← hW5] at HC2 HKC2 hC2 kC2 ⊢
        obtain ⟨b1, off1, e9, hltb1, hcB⟩ := HB.out W5 hC2.below (by omega)
        injection e9 with e9
        injection e9 with e10 e11
        subst e10 e11
        have k8 : W5.cell? ⟨b', off' + p, none⟩ = some (.float .f32 1065353216) := hcB p hplN
        obtain ⟨j1, j2, j3, _, _, _⟩ := hC2.cells
        have f2 : W5.cell? ⟨w.heap.size, 1, none⟩ = some (.slice (some ⟨b', off', none⟩) ps.length c2) := by rw [cell_of_row _ _ _ _ _ _ kC2]; rfl
        have hOlt5 : w.heap.size + 2 < W5.heap.size := (Array.getElem?_eq_some_iff.1 hC2.box).1
        have m2 : (W5.alloc (.cells #[.float .f32 1065353216] 27)).cell? ⟨w.heap.size + 2, 1, none⟩ = some vB := by rw [World.cell?_alloc_past _ _ _ hOlt5]; exact j2
        have hownB := hC2.wts
        have hsz5 := hC2.below.size
        clear hC2 kC2 hcB hW5 hgrow4 hown' hnil4 q1 q2 q3 k1 k2 k3 k4 k5 k6 k7 m1 e1 e2 hown hOlt
        go_wp2_with fail
        go_region_law (refine step_append_own rfl _ _ 35 rfl w.heap.size 27 i1 (.float .f32 0) 1 4 Try.underlying35 hi1 hy0 hy1 hy2 rfl (by decide) _ _ _ rfl (World.ownsRow.alloc (own_drewP hownB 1) _) ⟨_, 0, none⟩ 1 1 [.float .f32 1065353216] rfl rfl (cell_one_new _ _ _) (fun x hx => by simp at hx; subst hx; rfl) (by unfold maxLen; omega) (by omega) (by simp; omega) ?_; intro v' w6 hown' hgrow4 hnil4; obtain ⟨g3, cap3, rfl⟩ := own_form hown'; obtain ⟨q1, q2, q3⟩ := (HC2.out.drew 1).after _ hgrow4 (.inr rfl))
        all_goals
          have hC3 := Frame.hid ((HC2.out.drew 1).appB _ hgrow4 hown')
          have kC3 := Frame.hid ((HC2.out.drew 1).keepBox _ hgrow4 (.inr rfl) (show w.heap.size ≠ w.heap.size + 2 by omega) HKC2.out 1 (.slice (some ⟨g3, 0, none⟩) (q + 1) cap3))
          clear hgrow4 hown' hnil4 q1 q2 q3 m2 f2 k8 j1 j2 j3 hownB hOlt5
          go_wp2_with fail
          go_roundw
          case rel =>
            have ht : ps.reverse.take (q + 1) = ps.reverse.take q ++ [(z1, z2)] := by
              rw [HZZ.out, HPD.out, List.take_add_one, List.getElem?_reverse (by omega), List.getD_eq_getElem?_getD]
              rw [List.getElem?_eq_getElem (by omega)]
              rfl
            have hC4 : CvB w (w.heap.size + 1) (w.heap.size + 2) (.slice (some ⟨g2, 0, none⟩) (q + 1) cap2) (.slice (some ⟨g3, 0, none⟩) (q + 1) cap3) (ps.reverse.take (q + 1)) (q + 1) (w6.setCell ⟨w.heap.size + 2, 1, none⟩ (.slice (some ⟨g3, 0, none⟩) (q + 1) cap3)) := by rw [ht]; exact hC3.out
            have hpi2 : (ps.length : Int) - 1 - ((q + 1 : Nat) : Int) = (p : Int) - 1 := by have := HPD.out; omega
            exact ⟨q + 1, .slice (some ⟨g2, 0, none⟩) (q + 1) cap2, .slice (some ⟨g3, 0, none⟩) (q + 1) cap3, by omega, by rw [hpi2], hC4, kC3.out, fun h => absurd h (by omega), fun _ => ⟨g2, cap2, g3, cap3, rfl, rfl⟩⟩
          case measure => have := HPD.out; simp [intOf]
    · have hqn : q = ps.length := by omega
      subst hqn
      have hrt : ps.reverse.take ps.length = ps.reverse := List.take_of_length_le (by simp)
      rw [hrt] at hC
      obtain ⟨g, d1, g', d2, ee1, ee2, hA', hB', hbel, r1, r2, _, _⟩ := hC.done (by simp) (by omega)
      subst ee1 ee2
      have HD := Frame.hid (And.intro hA' (And.intro hB' hbel))
      have hneg : (ps.length : Int) - 1 - (ps.length : Int) = -1 := by omega
      rw [hneg]
      clear hC hA' hB' hbel hnil hsome kC hneg
      go_wp2_with fail
      refine bodyPost_ret (v := .tuple #[.agg #[.slice (some ⟨g, 0, none⟩) ps.length d1, .slice (some ⟨g', 0, none⟩) ps.length d2], .bool true]) ?_ rfl ?_
      · simp only [List.length_reverse] at r1 r2
        have r3 := r1
        simp [go_sem] at r3
        simp [results, Try.results15, go_sem, r2, r3]
      · have HE := HD.out
        simp only [List.length_reverse] at HE
        exact ⟨g, d1, g', d2, rfl, HE.1, HE.2.1, HE.2.2⟩

end Go.Proofs.Ytbdmmpkphiilkaa
