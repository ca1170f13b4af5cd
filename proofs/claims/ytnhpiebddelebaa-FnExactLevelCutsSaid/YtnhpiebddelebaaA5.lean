/-
  The area of tiles: the specification's side.
-/
import Derived.Test.YtnhpiebddelebaaA4
namespace Go.Proofs.Ytnhpiebddelebaa
open Go.RowKit Fl Go.WideShapes Go.Deep
attribute [local go_sem] kstore_f kalloc_drewN kset_drewN hstore_i hstore_s

theorem SK_of11 {n : Nat} {wc W : World} {p0 p1 p2 p3 p4 p5 p6 p7 p8 p9 p10 : Addr} {v0 v1 v2 v3 v4 v5 v6 v7 v8 v9 v10 : Value} (h : W.cell? p0 = some v0 ∧ W.cell? p1 = some v1 ∧ W.cell? p2 = some v2 ∧ W.cell? p3 = some v3 ∧ W.cell? p4 = some v4 ∧ W.cell? p5 = some v5 ∧ W.cell? p6 = some v6 ∧ W.cell? p7 = some v7 ∧ W.cell? p8 = some v8 ∧ W.cell? p9 = some v9 ∧ W.cell? p10 = some v10 ∧ n ≤ W.heap.size ∧ SK n wc [(p0, v0), (p1, v1), (p2, v2), (p3, v3), (p4, v4), (p5, v5), (p6, v6), (p7, v7), (p8, v8), (p9, v9), (p10, v10)] W) : SK n wc [(p0, v0), (p1, v1), (p2, v2), (p3, v3), (p4, v4), (p5, v5), (p6, v6), (p7, v7), (p8, v8), (p9, v9), (p10, v10)] W := h.2.2.2.2.2.2.2.2.2.2.2.2
theorem SK_all11 {n : Nat} {wc W : World} {p0 p1 p2 p3 p4 p5 p6 p7 p8 p9 p10 : Addr} {v0 v1 v2 v3 v4 v5 v6 v7 v8 v9 v10 : Value} (h : SK n wc [(p0, v0), (p1, v1), (p2, v2), (p3, v3), (p4, v4), (p5, v5), (p6, v6), (p7, v7), (p8, v8), (p9, v9), (p10, v10)] W) : W.cell? p0 = some v0 ∧ W.cell? p1 = some v1 ∧ W.cell? p2 = some v2 ∧ W.cell? p3 = some v3 ∧ W.cell? p4 = some v4 ∧ W.cell? p5 = some v5 ∧ W.cell? p6 = some v6 ∧ W.cell? p7 = some v7 ∧ W.cell? p8 = some v8 ∧ W.cell? p9 = some v9 ∧ W.cell? p10 = some v10 ∧ n ≤ W.heap.size ∧ SK n wc [(p0, v0), (p1, v1), (p2, v2), (p3, v3), (p4, v4), (p5, v5), (p6, v6), (p7, v7), (p8, v8), (p9, v9), (p10, v10)] W :=
  ⟨h.c (p0, v0) (by simp), h.c (p1, v1) (by simp), h.c (p2, v2) (by simp), h.c (p3, v3) (by simp), h.c (p4, v4) (by simp), h.c (p5, v5) (by simp), h.c (p6, v6) (by simp), h.c (p7, v7) (by simp), h.c (p8, v8) (by simp), h.c (p9, v9) (by simp), h.c (p10, v10) (by simp), h.s, h⟩

set_option maxRecDepth 100000 in
set_option maxHeartbeats 4000000 in
theorem l04Tiled_calls (A : Option Addr) (xs : List (Nat × Nat × Nat)) (n c : Nat) (hxn : n = xs.length) (hn : n ≤ 1048576) (m k : Int) (w : World) (hr : RdS w A xs) :
    Calls Try.prog 64 #[.slice A n c, .int .i64 m, .int .i64 k] w fun e w' => e = .returned (.bool (tlB xs m k)) ∧ Below w.heap.size w w' := by
  have HAS := Frame.hid (by have h := l04Spots_calls A xs c w (by omega) hr; rw [← hxn] at h; exact h)
  have HX := Frame.hid hxn
  clear hr hxn
  cases hs : sizesB m k
  · have HS := Frame.hid hs
    clear hs
    go_enter Try.func64, Try.ntmps64
    go_wp2_with (go_at_call 38; refine (l04Sizes_calls _ _ _).mono ?_; rintro e w' ⟨rfl, rfl⟩; rw [HS.out])
    go_ret
    exact ⟨ret_bool (by unfold tlB; rw [HS.out]; rfl), Below.refl _ _⟩
  · obtain ⟨a, b, rfl, rfl, ha, hb⟩ := sizesB_nat hs
    have HS := Frame.hid hs
    clear hs
    obtain ⟨P, hP⟩ : ∃ P, P = (a + 1) * (b + 1) := ⟨_, rfl⟩
    have hP2 : P ≤ 169 := by rw [hP]; exact Nat.le_trans (Nat.mul_le_mul (show a + 1 ≤ 13 by omega) (show b + 1 ≤ 13 by omega)) (by decide)
    have hmul : IntKind.i64.wrap (((a : Int) + 1) * ((b : Int) + 1)) = (P : Int) := by
      have : ((a : Int) + 1) * ((b : Int) + 1) = (P : Int) := by rw [hP]; push_cast; rfl
      rw [this, IntKind.wrap_i64]; omega
    have HP := Frame.hid hP
    clear hP
    by_cases hnp : n = P
    · subst hnp
      have HF : Hid (tlB xs (a : Int) (b : Int) = finS xs) := by
        have h : tlB xs (a : Int) (b : Int) = finS xs := by
          unfold tlB
          rw [HS.out, decide_eq_true (by rw [← HX.out, HP.out]; push_cast; rfl)]
          simp
        exact h
      go_enter Try.func64, Try.ntmps64
      go_wp2_with (first | (go_at_call 38; refine (l04Sizes_calls _ _ _).mono ?_; rintro e w' ⟨rfl, rfl⟩; rw [HS.out]) | (go_at_call 40; refine HAS.out.mono ?_; rintro e w2 ⟨rfl, hB2⟩))
      all_goals go_ret
      exact ⟨ret_bool HF.out.symm, hB2⟩
    · have hnp' : ¬ (n : Int) = (P : Int) := by omega
      have HF : Hid (tlB xs (a : Int) (b : Int) = false) := by
        have h : tlB xs (a : Int) (b : Int) = false := by
          unfold tlB
          rw [decide_eq_false (by rw [← HX.out]; intro e; apply hnp; rw [HP.out]; exact_mod_cast e)]
          simp
        exact h
      go_enter Try.func64, Try.ntmps64
      go_wp2_with (go_at_call 38; refine (l04Sizes_calls _ _ _).mono ?_; rintro e w' ⟨rfl, rfl⟩; rw [HS.out])
      go_ret
      exact ⟨ret_bool HF.out.symm, Below.refl _ _⟩

set_option maxRecDepth 100000 in
set_option maxHeartbeats 8000000 in
theorem specAreaOfTiles_calls (A : Option Addr) (xs : List (Nat × Nat × Nat)) (n c : Nat) (hxn : n = xs.length) (hn : n ≤ 1048576) (m k : Int) (w : World) (hr : RdS w A xs) :
    Calls Try.prog 30 #[.slice A n c, .int .i64 m, .int .i64 k] w fun e w' => ∃ r ok, e = .returned (.tuple #[.float .f32 r, .bool ok]) ∧ AoO xs m k r ok ∧ Below w.heap.size w w' := by
  have HTL := Frame.hid (l04Tiled_calls A xs n c hxn hn m k w hr)
  cases hno : tlB xs m k
  · have HNO := Frame.hid hno
    clear hr hxn hno
    go_enter Try.func30, Try.ntmps30
    go_wp2_with fail
    refine HTL.out.mono ?_
    rintro e w1 ⟨rfl, hB1⟩
    rw [HNO.out]
    go_wp2_with fail
    go_ret2
    exact ⟨_, _, rfl, .inl ⟨HNO.out, rfl, rfl⟩, hB1⟩
  · obtain ⟨a, b, rfl, rfl, ha, hb, hlen, hf, hT, hT0⟩ := tlB_yes hno
    have HNO := Frame.hid hno
    obtain ⟨T, hTT⟩ : ∃ T, T = 2 * (a * b) := ⟨_, rfl⟩
    rw [← hTT] at hT hT0
    have HTT := Frame.hid hTT
    have hTs : T ≤ 288 := by have := triI_small ha.2 hb.2; omega
    obtain ⟨bs, of, rfl, hbs, hsp⟩ := hr.h (by rw [hlen]; exact Nat.mul_pos (by omega) (by omega))
    have HC := Frame.hid (l04Triangles_calls a b ha hb)
    have HR := Frame.hid hsp
    have HBS := Frame.hid hbs
    have HT := Frame.hid hT
    have HX := Frame.hid hxn
    have HLEN := Frame.hid hlen
    clear hr hxn hlen hf hT hno hTT hsp hbs
    go_enter Try.func30, Try.ntmps30
    go_wp2_with fail
    refine HTL.out.mono ?_
    rintro e w0 ⟨rfl, hB0⟩
    rw [HNO.out]
    have HB0 := Frame.hid hB0
    clear hB0
    go_wp2_with fail
    refine (HC.out w0).mono ?_
    rintro e w1 ⟨v, rfl, hO, hB1⟩
    obtain ⟨L, hL⟩ : ∃ L, L = (triI a b).length := ⟨_, rfl⟩
    have hL3 : L = 3 * T := by rw [hL, HT.out]
    obtain ⟨gC, cap, rfl, -, hg⟩ : ∃ g cap, v = .slice (some ⟨g, 0, none⟩) L cap ∧ w0.heap.size ≤ g ∧ g < w1.heap.size := by
      rcases hO.form with ⟨_, h0⟩ | ⟨g, cap, h, h1, h2⟩
      · rw [h0] at hL; simp at hL; omega
      · exact ⟨g, cap, by rw [hL]; exact h, h1, h2⟩
    have HCC : Hid (∀ j, j < L → w1.cell? ⟨gC, j, none⟩ = some (.int .i64 (crn a b j)) ∧ crn a b j < n) := by
      have h : ∀ j, j < L → w1.cell? ⟨gC, j, none⟩ = some (.int .i64 (crn a b j)) ∧ crn a b j < n := fun j hj => by
        have h1 := hO.cell hL (j := j) (by omega)
        obtain ⟨e1, e2⟩ := crn_bd (m := a) (k := b) (i := j) (by omega)
        rw [e1] at h1
        exact ⟨h1, by rw [HX.out, HLEN.out]; exact e2⟩
      exact h
    have HG := Frame.hid hg
    have HB1 := Frame.hid (HB0.out.trans (hB1.mono HB0.out.size))
    have HL3 := Frame.hid hL3
    have hLs : L ≤ 864 := by omega
    clear hO hB1 hg hL hL3
    go_wp2_with fail
    go_loopw [9, 10] (fun sv kv wr => ∃ t s j : Nat, t ≤ T ∧ j = 3 * t ∧ kv = .int .i64 j ∧ sv = .float .f32 s ∧ SumA xs a b t s ∧ Below w1.heap.size w1 wr) (fun _ kv _ => L - (intOf kv).toNat)
    case atStart => exact ⟨0, 0, 0, Nat.zero_le _, rfl, rfl, rfl, rfl, Below.refl _ _⟩
    case round =>
      obtain ⟨t, s, j, ht, hj, rfl, rfl, hS, hB⟩ := hrel
      have HS := Frame.hid hS
      have HB := Frame.hid hB
      have HJ := Frame.hid hj
      clear hS
      by_cases hlt : j < L
      · have htT : t < T := by have := HL3.out; omega
        have hj2 : j + 2 < L := by have := HL3.out; omega
        have HLT := Frame.hid htT
        obtain ⟨p, hp⟩ : ∃ p, p = crn a b j := ⟨_, rfl⟩
        obtain ⟨q, hq⟩ : ∃ p, p = crn a b (j + 1) := ⟨_, rfl⟩
        obtain ⟨r, hr⟩ : ∃ p, p = crn a b (j + 2) := ⟨_, rfl⟩
        have kc0 : wr.cell? ⟨gC, j, none⟩ = some (.int .i64 (p : Nat)) := by rw [hp]; exact (hB.cell HG.out).trans (HCC.out j (by omega)).1
        have kc1 : wr.cell? ⟨gC, j + 1, none⟩ = some (.int .i64 (q : Nat)) := by rw [hq]; exact (hB.cell HG.out).trans (HCC.out (j + 1) (by omega)).1
        have kc2 : wr.cell? ⟨gC, j + 2, none⟩ = some (.int .i64 (r : Nat)) := by rw [hr]; exact (hB.cell HG.out).trans (HCC.out (j + 2) (by omega)).1
        have hpn : p < n := by rw [hp]; exact (HCC.out j (by omega)).2
        have hqn : q < n := by rw [hq]; exact (HCC.out (j + 1) (by omega)).2
        have hrn : r < n := by rw [hr]; exact (HCC.out (j + 2) (by omega)).2
        have HPQ := Frame.hid (And.intro hp (And.intro hq hr))
        have hW := HB1.out.trans (hB.mono HB1.out.size)
        have hP := (HR.out p (by have := HX.out; omega)).keep hW HBS.out
        have hQ := (HR.out q (by have := HX.out; omega)).keep hW HBS.out
        have hR := (HR.out r (by have := HX.out; omega)).keep hW HBS.out
        have hbw : bs < wr.heap.size := Nat.lt_of_lt_of_le HBS.out hW.size
        have hgw : gC < wr.heap.size := Nat.lt_of_lt_of_le HG.out hB.size
        obtain ⟨c0, c1, c2⟩ := hP
        obtain ⟨c3, c4, c5⟩ := hQ
        obtain ⟨c6, c7, c8⟩ := hR
        obtain ⟨X0, hX0⟩ : ∃ u, u = sx xs p := ⟨_, rfl⟩
        obtain ⟨Y0, hY0⟩ : ∃ u, u = sy xs p := ⟨_, rfl⟩
        obtain ⟨Z0, hZ0⟩ : ∃ u, u = sz xs p := ⟨_, rfl⟩
        obtain ⟨X1, hX1⟩ : ∃ u, u = sx xs q := ⟨_, rfl⟩
        obtain ⟨Y1, hY1⟩ : ∃ u, u = sy xs q := ⟨_, rfl⟩
        obtain ⟨Z1, hZ1⟩ : ∃ u, u = sz xs q := ⟨_, rfl⟩
        obtain ⟨X2, hX2⟩ : ∃ u, u = sx xs r := ⟨_, rfl⟩
        obtain ⟨Y2, hY2⟩ : ∃ u, u = sy xs r := ⟨_, rfl⟩
        obtain ⟨Z2, hZ2⟩ : ∃ u, u = sz xs r := ⟨_, rfl⟩
        rw [← hX0] at c0
        rw [← hY0] at c1
        rw [← hZ0] at c2
        rw [← hX1] at c3
        rw [← hY1] at c4
        rw [← hZ1] at c5
        rw [← hX2] at c6
        rw [← hY2] at c7
        rw [← hZ2] at c8
        obtain ⟨ja, hja⟩ : ∃ u, u = j + 1 := ⟨_, rfl⟩
        obtain ⟨jb, hjb⟩ : ∃ u, u = j + 2 := ⟨_, rfl⟩
        rw [← hja] at kc1
        rw [← hjb] at kc2
        have wa : IntKind.i64.wrap ((j : Int) + 1) = (ja : Int) := by rw [IntKind.wrap_i64]; omega
        have wb : IntKind.i64.wrap ((j : Int) + 2) = (jb : Int) := by rw [IntKind.wrap_i64]; omega
        have j0 : (0 : Int) ≤ (ja : Int) := by omega
        have j1 : (ja : Int) < (L : Int) := by omega
        have j2 : (0 : Int) ≤ (jb : Int) := by omega
        have j3 : (jb : Int) < (L : Int) := by omega
        have HXYZ := Frame.hid (And.intro hX0 (And.intro hY0 (And.intro hZ0 (And.intro hX1 (And.intro hY1 (And.intro hZ1 (And.intro hX2 (And.intro hY2 hZ2))))))))
        have hST : SK (wr.heap.size + 1) (wr.alloc (.cells #[.float .f32 X0, .float .f32 Y0, .float .f32 Z0] 57)) [((⟨gC, ja, none⟩ : Addr), (.int .i64 (q : Nat) : Value)), ((⟨gC, jb, none⟩ : Addr), (.int .i64 (r : Nat) : Value)), ((⟨bs, of + q * 3, none⟩ : Addr), (.float .f32 X1 : Value)), ((⟨bs, of + q * 3 + 1, none⟩ : Addr), (.float .f32 Y1 : Value)), ((⟨bs, of + q * 3 + 2, none⟩ : Addr), (.float .f32 Z1 : Value)), ((⟨bs, of + r * 3, none⟩ : Addr), (.float .f32 X2 : Value)), ((⟨bs, of + r * 3 + 1, none⟩ : Addr), (.float .f32 Y2 : Value)), ((⟨bs, of + r * 3 + 2, none⟩ : Addr), (.float .f32 Z2 : Value)), ((⟨wr.heap.size, 0, none⟩ : Addr), (.float .f32 X0 : Value)), ((⟨wr.heap.size, 1, none⟩ : Addr), (.float .f32 Y0 : Value)), ((⟨wr.heap.size, 2, none⟩ : Addr), (.float .f32 Z0 : Value))] (wr.alloc (.cells #[.float .f32 X0, .float .f32 Y0, .float .f32 Z0] 57)) := by
          refine SK.start (by simp) ?_ ?_
          · intro p hp
            simp at hp
            rcases hp with rfl | rfl | rfl | rfl | rfl | rfl | rfl | rfl | rfl | rfl | rfl <;> first | (simp [go_sem]; done) | (rw [((Below.refl wr.heap.size wr).alloc (Nat.le_refl _) _).cell (by simp; omega)]; assumption)
          · intro p hp
            simp at hp
            rcases hp with rfl | rfl | rfl | rfl | rfl | rfl | rfl | rfl | rfl | rfl | rfl <;> (simp; try omega)
        have p0 : (0 : Int) ≤ (p : Int) := by omega
        have p1 : (p : Int) < (n : Int) := by omega
        have q0 : (0 : Int) ≤ (q : Int) := by omega
        have q1 : (q : Int) < (n : Int) := by omega
        have r0 : (0 : Int) ≤ (r : Int) := by omega
        have r1 : (r : Int) < (n : Int) := by omega
        clear hp hq hr hW hX0 hY0 hZ0 hX1 hY1 hZ1 hX2 hY2 hZ2 hj hB hja hjb
        go_wp2_with fail
        go_cut [12, 13] (fun s12 s13 wx => ∃ g u1 u2 u3 k1, s12 = .pointer (some ⟨g, 0, none⟩) ∧ s13 = .bool k1 ∧ (∃ a1 b1 c1 a2 b2 c2, LessR X1 Y1 Z1 X0 Y0 Z0 a1 b1 c1 ∧ LessR X2 Y2 Z2 X0 Y0 Z0 a2 b2 c2 ∧ CrossO a1 b1 c1 a2 b2 c2 u1 u2 u3 k1) ∧ Below wr.heap.size wr wx ∧ At3 wx g u1 u2 u3 ∧ g < wx.heap.size)
        case first =>
          go_region_held3 (fun W => W.cell? ⟨gC, ja, none⟩ = some (.int .i64 (q : Nat)) ∧ W.cell? ⟨gC, jb, none⟩ = some (.int .i64 (r : Nat)) ∧ W.cell? ⟨bs, of + q * 3, none⟩ = some (.float .f32 X1) ∧ W.cell? ⟨bs, of + q * 3 + 1, none⟩ = some (.float .f32 Y1) ∧ W.cell? ⟨bs, of + q * 3 + 2, none⟩ = some (.float .f32 Z1) ∧ W.cell? ⟨bs, of + r * 3, none⟩ = some (.float .f32 X2) ∧ W.cell? ⟨bs, of + r * 3 + 1, none⟩ = some (.float .f32 Y2) ∧ W.cell? ⟨bs, of + r * 3 + 2, none⟩ = some (.float .f32 Z2) ∧ W.cell? ⟨wr.heap.size, 0, none⟩ = some (.float .f32 X0) ∧ W.cell? ⟨wr.heap.size, 1, none⟩ = some (.float .f32 Y0) ∧ W.cell? ⟨wr.heap.size, 2, none⟩ = some (.float .f32 Z0) ∧ wr.heap.size + 1 ≤ W.heap.size ∧ SK (wr.heap.size + 1) ((wr.alloc (.cells #[.float .f32 X0, .float .f32 Y0, .float .f32 Z0] 57))) [((⟨gC, ja, none⟩ : Addr), (.int .i64 (q : Nat) : Value)), ((⟨gC, jb, none⟩ : Addr), (.int .i64 (r : Nat) : Value)), ((⟨bs, of + q * 3, none⟩ : Addr), (.float .f32 X1 : Value)), ((⟨bs, of + q * 3 + 1, none⟩ : Addr), (.float .f32 Y1 : Value)), ((⟨bs, of + q * 3 + 2, none⟩ : Addr), (.float .f32 Z1 : Value)), ((⟨bs, of + r * 3, none⟩ : Addr), (.float .f32 X2 : Value)), ((⟨bs, of + r * 3 + 1, none⟩ : Addr), (.float .f32 Y2 : Value)), ((⟨bs, of + r * 3 + 2, none⟩ : Addr), (.float .f32 Z2 : Value)), ((⟨wr.heap.size, 0, none⟩ : Addr), (.float .f32 X0 : Value)), ((⟨wr.heap.size, 1, none⟩ : Addr), (.float .f32 Y0 : Value)), ((⟨wr.heap.size, 2, none⟩ : Addr), (.float .f32 Z0 : Value))] W) ((refine SK_all11 ?_; (repeat' first | with_reducible assumption | exact SK_of11 (by with_reducible assumption) | exact hST | apply SK.drew | apply SK.drewN | apply SK.alloc | (refine SK.call ?_ (by with_reducible assumption)) | (refine SK.set ?_ _ _ _ (by omega))))) (first | (go_at_call 67; refine (l04Less_calls _ _ _ _ _ _ _).mono ?_; rintro e w' ⟨a1, b1, c1, rfl, hL, hB⟩; have hge := SK.ge (n := wr.heap.size + 1) (wc := (wr.alloc (.cells #[.float .f32 X0, .float .f32 Y0, .float .f32 Z0] 57))) (L := [((⟨gC, ja, none⟩ : Addr), (.int .i64 (q : Nat) : Value)), ((⟨gC, jb, none⟩ : Addr), (.int .i64 (r : Nat) : Value)), ((⟨bs, of + q * 3, none⟩ : Addr), (.float .f32 X1 : Value)), ((⟨bs, of + q * 3 + 1, none⟩ : Addr), (.float .f32 Y1 : Value)), ((⟨bs, of + q * 3 + 2, none⟩ : Addr), (.float .f32 Z1 : Value)), ((⟨bs, of + r * 3, none⟩ : Addr), (.float .f32 X2 : Value)), ((⟨bs, of + r * 3 + 1, none⟩ : Addr), (.float .f32 Y2 : Value)), ((⟨bs, of + r * 3 + 2, none⟩ : Addr), (.float .f32 Z2 : Value)), ((⟨wr.heap.size, 0, none⟩ : Addr), (.float .f32 X0 : Value)), ((⟨wr.heap.size, 1, none⟩ : Addr), (.float .f32 Y0 : Value)), ((⟨wr.heap.size, 2, none⟩ : Addr), (.float .f32 Z0 : Value))]) (by repeat' first | with_reducible assumption | exact SK_of11 (by with_reducible assumption) | exact hST | apply SK.drew | apply SK.drewN | apply SK.alloc) hB; (try (first | have hN := New.born2 hB | have hN := New.born1 hB | have hN := New.bornD hB | have hN := New.born hB | have hN := New.go (by with_reducible assumption) hB)); (try (have hF := hN.f; have hC0 := hN.a.c0; have hC1 := hN.a.c1; have hC2 := hN.a.c2))) | (go_at_call 66; refine (specCrossSpots_calls _ _ _ _ _ _ _).mono ?_; rintro e w' ⟨u1, u2, u3, k1, rfl, hC, hB⟩; have hge := SK.ge (n := wr.heap.size + 1) (wc := (wr.alloc (.cells #[.float .f32 X0, .float .f32 Y0, .float .f32 Z0] 57))) (L := [((⟨gC, ja, none⟩ : Addr), (.int .i64 (q : Nat) : Value)), ((⟨gC, jb, none⟩ : Addr), (.int .i64 (r : Nat) : Value)), ((⟨bs, of + q * 3, none⟩ : Addr), (.float .f32 X1 : Value)), ((⟨bs, of + q * 3 + 1, none⟩ : Addr), (.float .f32 Y1 : Value)), ((⟨bs, of + q * 3 + 2, none⟩ : Addr), (.float .f32 Z1 : Value)), ((⟨bs, of + r * 3, none⟩ : Addr), (.float .f32 X2 : Value)), ((⟨bs, of + r * 3 + 1, none⟩ : Addr), (.float .f32 Y2 : Value)), ((⟨bs, of + r * 3 + 2, none⟩ : Addr), (.float .f32 Z2 : Value)), ((⟨wr.heap.size, 0, none⟩ : Addr), (.float .f32 X0 : Value)), ((⟨wr.heap.size, 1, none⟩ : Addr), (.float .f32 Y0 : Value)), ((⟨wr.heap.size, 2, none⟩ : Addr), (.float .f32 Z0 : Value))]) (by repeat' first | with_reducible assumption | exact SK_of11 (by with_reducible assumption) | exact hST | apply SK.drew | apply SK.drewN | apply SK.alloc) hB; (try (first | have hN := New.born2 hB | have hN := New.born1 hB | have hN := New.bornD hB | have hN := New.born hB | have hN := New.go (by with_reducible assumption) hB)); (try (have hF := hN.f; have hC0 := hN.a.c0; have hC1 := hN.a.c1; have hC2 := hN.a.c2))))
          all_goals
            have hSK : SK (wr.heap.size + 1) (wr.alloc (.cells #[.float .f32 X0, .float .f32 Y0, .float .f32 Z0] 57)) [((⟨gC, ja, none⟩ : Addr), (.int .i64 (q : Nat) : Value)), ((⟨gC, jb, none⟩ : Addr), (.int .i64 (r : Nat) : Value)), ((⟨bs, of + q * 3, none⟩ : Addr), (.float .f32 X1 : Value)), ((⟨bs, of + q * 3 + 1, none⟩ : Addr), (.float .f32 Y1 : Value)), ((⟨bs, of + q * 3 + 2, none⟩ : Addr), (.float .f32 Z1 : Value)), ((⟨bs, of + r * 3, none⟩ : Addr), (.float .f32 X2 : Value)), ((⟨bs, of + r * 3 + 1, none⟩ : Addr), (.float .f32 Y2 : Value)), ((⟨bs, of + r * 3 + 2, none⟩ : Addr), (.float .f32 Z2 : Value)), ((⟨wr.heap.size, 0, none⟩ : Addr), (.float .f32 X0 : Value)), ((⟨wr.heap.size, 1, none⟩ : Addr), (.float .f32 Y0 : Value)), ((⟨wr.heap.size, 2, none⟩ : Addr), (.float .f32 Z0 : Value))] _ := SK_of11 (by with_reducible assumption)
            have hBW : Below wr.heap.size wr _ := ((Below.refl wr.heap.size wr).alloc (Nat.le_refl _) _).trans (hSK.m.mono (by omega))
            go_wp2_with fail
            go_meet
            refine ⟨_, u1, u2, u3, k1, rfl, rfl, ⟨_, _, _, _, _, _, ?_, ?_, hC⟩, hBW, ?_, ?_⟩
            · assumption
            · assumption
            · first | exact At3.here _ _ _ _ _ | exact At3.set hN _ _ _
            · first | exact New.lt3 hN _ _ _ | simp
        case rest =>
          obtain ⟨g, u1, u2, u3, k1, rfl, rfl, ⟨a1, b1, c1', a2, b2, c2', h1, h2, h3⟩, hBx, hA, hg⟩ := hcut
          have HF : Hid (∀ h, (k1 = false ∨ ∃ l, LongO u1 u2 u3 l false) → TriS xs a b t h false) := by
            have hh : ∀ h, (k1 = false ∨ ∃ l, LongO u1 u2 u3 l false) → TriS xs a b t h false := by
              intro h hk
              obtain ⟨rfl, rfl, rfl, rfl, rfl, rfl, rfl, rfl, rfl⟩ := HXYZ.out
              obtain ⟨rfl, rfl, rfl⟩ := HPQ.out
              have hj := HJ.out
              subst hj
              exact ⟨_, _, _, _, _, _, _, _, _, _, h1, h2, h3, .inl ⟨rfl, hk⟩⟩
            exact hh
          have HTr : Hid (∀ l h, k1 = true → LongO u1 u2 u3 l true → HlfR l h → TriS xs a b t h true) := by
            have hh : ∀ l h, k1 = true → LongO u1 u2 u3 l true → HlfR l h → TriS xs a b t h true := by
              intro l h hk hl hf
              obtain ⟨rfl, rfl, rfl, rfl, rfl, rfl, rfl, rfl, rfl⟩ := HXYZ.out
              obtain ⟨rfl, rfl, rfl⟩ := HPQ.out
              have hj := HJ.out
              subst hj
              exact ⟨_, _, _, _, _, _, _, _, _, _, h1, h2, h3, .inr ⟨rfl, hk, l, hl, hf⟩⟩
            exact hh
          have HBX := Frame.hid hBx
          obtain ⟨d0, d1, d2⟩ := hA
          clear h1 h2 h3 hBx hST kc0 kc1 kc2 c0 c1 c2 c3 c4 c5 c6 c7 c8
          go_wp2_with fail
          refine (specLongOfSpot_calls _ _ _ _).mono ?_
          rintro e w2 ⟨l, ok, rfl, hLo, hB2⟩
          have HBT := Frame.hid (HBX.out.trans (hB2.mono HBX.out.size))
          have HLO := Frame.hid hLo
          clear hB2 hLo d0 d1 d2
          cases k1
          · clear HTr
            go_wp2_with fail
            go_ret2
            exact ⟨_, _, rfl, .inr ⟨a, b, rfl, rfl, HNO.out, .inr ⟨t, 0, by rw [← HTT.out]; exact HLT.out, HF.out 0 (by first | exact .inl rfl | exact .inl trivial), rfl, rfl⟩⟩, HB1.out.trans ((HB.out.trans (HBT.out.mono HB.out.size)).mono HB1.out.size)⟩
          · cases ok
            · clear HTr
              go_wp2_with fail
              go_ret2
              exact ⟨_, _, rfl, .inr ⟨a, b, rfl, rfl, HNO.out, .inr ⟨t, 0, by rw [← HTT.out]; exact HLT.out, HF.out 0 (by first | exact .inr ⟨_, HLO.out⟩ | exact ⟨_, HLO.out⟩), rfl, rfl⟩⟩, HB1.out.trans ((HB.out.trans (HBT.out.mono HB.out.size)).mono HB1.out.size)⟩
            · clear HF
              have w3 : IntKind.i64.wrap ((j : Int) + 3) = ((j + 3 : Nat) : Int) := by rw [IntKind.wrap_i64]; omega
              go_wp2_with (first | (refine wpList_arith rfl _ _ _ _ _ rfl rfl _ _ _ rfl rfl ?_; intro r n hr hl) | (refine upon_arith _ _ _ _ _ rfl ?_; intro r n hr hl))
              rename_i r1 n1 hr1 hl1
              go_roundw
              case rel => exact ⟨t + 1, r, j + 3, HLT.out, by have := HJ.out; omega, by go_num, rfl, ⟨_, _, HS.out, HTr.out l _ (by first | rfl | trivial) HLO.out (.inr hr1), hr⟩, HB.out.trans ((below_drewN HBT.out _).mono HB.out.size)⟩
              case measure => simp [intOf]; omega
      · have hjL : j = L := by have := HL3.out; omega
        have htT : t = T := by have := HL3.out; omega
        have HTE := Frame.hid htT
        subst hjL
        clear hB hj htT
        go_wp2_with (go_at_call 69; refine (l02NumO_calls _ _).mono ?_; rintro e w' ⟨r, ok, rfl, hN, nn, rfl⟩)
        go_ret2
        exact ⟨_, _, rfl, .inr ⟨a, b, rfl, rfl, HNO.out, .inl ⟨s, by rw [← HTT.out, ← HTE.out]; exact HS.out, hN⟩⟩, HB1.out.trans ((below_drewN HB.out _).mono HB1.out.size)⟩

end Go.Proofs.Ytnhpiebddelebaa
