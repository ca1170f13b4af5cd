/-
  Complex numbers and lists of them that a law draws from bytes, walked.
-/
/-
  Lists of complex numbers that a law draws from bytes, walked.
-/
import Derived.Test.YtnflmdlhcjjfdadGreatDoorDs
import Derived.Test.YtnflmdlhcjjfdadGreatDoorGs
import Derived.Test.YtnflmdlhcjjfdadGreatDoorIv
namespace Go.Proofs.YtnflmdlhcjjfdadGreatDoor
open Go.RowKit Go.Lib Rd Go.WideShapes Fl

theorem OwnC.keptBy {w w' : World} {base g0 n cap : Nat} {g : Nat} {ys : List (Nat × Nat)} (h : OwnC w base (.slice (some ⟨g0, 0, none⟩) n cap) ys) (hk : Kept g w w') (hne : g0 ≠ g) : OwnC w' base (.slice (some ⟨g0, 0, none⟩) n cap) ys := by
  refine ⟨h.1, ?_⟩
  rcases h.2 with hn | ⟨g1, cap', cur, hv, hbg, hg, rest⟩
  · exact .inl hn
  · refine .inr ⟨g1, cap', cur, hv, hbg, ?_, rest⟩
    have e : g0 = g1 := by injection hv with h1; injection h1 with h1; injection h1
    rw [hk.block g1 (Array.getElem?_eq_some_iff.1 hg).1 (by omega)]
    exact hg

def DrawnC (w0 : World) (A : Option Addr) (zs : List Nat) (c g k : Nat) (m : Nat) (w : World) (e : Ending) (w' : World) : Prop :=
  ∃ x y k' : Nat, (x : Int) < 4294967296 ∧ (y : Int) < 4294967296 ∧ k' ≤ k + m ∧ e = .returned (.complex .f32 x y) ∧ Srce w0 A zs c g k' w' ∧ Kept g w w'

set_option maxRecDepth 100000 in
set_option maxHeartbeats 2000000 in
theorem drawComplex_calls (w0 : World) (A : Option Addr) (zs : List Nat) (c g k : Nat) (hk : k ≤ 999999800) (w : World) (h : Srce w0 A zs c g k w) :
    Calls Tryz.prog 46 #[.pointer (some ⟨g, 0, none⟩)] w (DrawnC w0 A zs c g k 24 w) := by
  have H := Frame.hid h
  clear h
  go_enter Tryz.func46, Tryz.ntmps46
  go_wp2_with fail
  refine (drawFloat_calls w0 A zs c g k (by omega) _ H.out).mono ?_
  rintro e w1 ⟨x, k1, hx, hk1, rfl, hS, hK⟩
  have HX : Unit → (x : Int) < 4294967296 := fun _ => hx
  have HS := Frame.hid hS
  have HK := Frame.hid hK
  clear hS hK hx
  go_wp2_with fail
  refine (drawFloat_calls w0 A zs c g k1 (by omega) _ HS.out).mono ?_
  rintro e w2 ⟨y, k2, hy, hk2, rfl, hS, hK⟩
  have HY : Unit → (y : Int) < 4294967296 := fun _ => hy
  have HS2 := Frame.hid hS
  have HK2 := Frame.hid (HK.out.trans hK)
  clear hS hK hy
  go_wp2_with fail
  go_ret
  exact ⟨x, y, k2, HX (), HY (), by omega, rfl, HS2.out, HK2.out⟩

set_option maxRecDepth 100000 in
set_option maxHeartbeats 2000000 in
theorem drawFine_calls (w0 : World) (A : Option Addr) (zs : List Nat) (c g k : Nat) (hk : k ≤ 999999800) (w : World) (h : Srce w0 A zs c g k w) :
    Calls Tryz.prog 47 #[.pointer (some ⟨g, 0, none⟩)] w (DrawnC w0 A zs c g k 24 w) := by
  have H := Frame.hid h
  clear h
  go_enter Tryz.func47, Tryz.ntmps47
  go_wp2_with fail
  refine (pick_calls w0 A zs c g k 65 (by omega) (by omega) (by omega) _ H.out).mono ?_
  rintro e w1 ⟨x, k1, hx, hk1, rfl, hS, hK⟩
  have HS := Frame.hid hS
  have HK := Frame.hid hK
  clear hS hK
  go_wp2_with (refine wpList_arith rfl _ _ _ _ _ rfl rfl _ _ _ rfl rfl ?_; intro r n hr hl)
  obtain ⟨rx, rfl⟩ : ∃ rx, rx = r := ⟨_, rfl⟩
  obtain ⟨n1, rfl⟩ : ∃ n1, n1 = n := ⟨_, rfl⟩
  have HX : Unit → (rx : Int) < 4294967296 := fun _ => Int.ofNat_lt.2 (lt32 hl)
  clear hr hl
  refine (pick_calls w0 A zs c g k1 65 (by omega) (by omega) (by omega) _ (HS.out.drewN n1)).mono ?_
  rintro e w2 ⟨y, k2, hy, hk2, rfl, hS, hK⟩
  have HS2 := Frame.hid hS
  have HK2 := Frame.hid ((HK.out.drewN n1).trans hK)
  clear hS hK
  go_wp2_with (refine wpList_arith rfl _ _ _ _ _ rfl rfl _ _ _ rfl rfl ?_; intro r n hr hl)
  obtain ⟨ry, rfl⟩ : ∃ rx, rx = r := ⟨_, rfl⟩
  obtain ⟨n2, rfl⟩ : ∃ n1, n1 = n := ⟨_, rfl⟩
  have HY : Unit → (ry : Int) < 4294967296 := fun _ => Int.ofNat_lt.2 (lt32 hl)
  clear hr hl
  go_ret
  exact ⟨rx, ry, k2, HX (), HY (), by omega, rfl, HS2.out.drewN n2, HK2.out.drewN n2⟩

set_option maxRecDepth 100000 in
set_option maxHeartbeats 2000000 in
theorem b10Complex_calls (A : Option Addr) (zs : List Nat) (c : Nat) (hz : zs.length ≤ 1048576) (w : World) (hA : RdB w A zs) :
    Calls Tryz.prog 21 #[.slice A zs.length c] w fun e w' => ∃ x y : Nat, (x : Int) < 4294967296 ∧ (y : Int) < 4294967296 ∧ e = .returned (.complex .f32 x y) ∧ Below w.heap.size w w' := by
  have HA := Frame.hid hA
  have HZ := Frame.hid hz
  clear hA hz
  go_enter Tryz.func21, Tryz.ntmps21
  go_wp2_with fail
  refine (from_calls A zs c HZ.out _ HA.out).mono ?_
  rintro e w1 ⟨rfl, hS, hB⟩
  have HS := Frame.hid hS
  obtain ⟨g, hg⟩ : ∃ g, g = w.heap.size := ⟨_, rfl⟩
  rw [← hg] at HS ⊢
  have HG := Frame.hid hg
  clear hS hB hg
  go_wp2_with fail
  refine (one_calls w A zs c g 0 4 (by omega) (by omega) (by omega) _ HS.out).mono ?_
  rintro e w2 ⟨b, k1, hk1, rfl, hS, hK⟩
  have HS2 := Frame.hid hS
  clear hS hK
  cases b
  all_goals
    go_wp2_with fail
    first
      | refine (drawFine_calls w A zs c g k1 (by omega) _ HS2.out).mono ?_
      | refine (Calls.mono (drawComplex_calls w A zs c g k1 (by omega) _ HS2.out) ?_)
    rintro e w3 ⟨x, y, k2, hx, hy, hk2, rfl, hS, hK⟩
    have HX : Unit → (x : Int) < 4294967296 := fun _ => hx
    have HY : Unit → (y : Int) < 4294967296 := fun _ => hy
    have HB3 := Frame.hid hS.2.2.2.1
    clear hS hK hx hy
    go_wp2_with fail
    go_ret
    exact ⟨x, y, HX (), HY (), rfl, HB3.out⟩

end Go.Proofs.YtnflmdlhcjjfdadGreatDoor

namespace Go.Proofs.YtnflmdlhcjjfdadGreatDoor
open Go.RowKit Go.Lib Rd Go.WideShapes Fl

theorem OwnC.mono {w : World} {base base' : Nat} {v : Value} {ys : List (Nat × Nat)} (h : OwnC w base v ys) (hb : base' ≤ base) : OwnC w base' v ys := by
  refine ⟨h.1, ?_⟩
  rcases h.2 with hn | ⟨g, cap, cur, hv, hbg, rest⟩
  · exact .inl hn
  · exact .inr ⟨g, cap, cur, hv, by omega, rest⟩

def Bounded (zs : List (Nat × Nat)) : Prop := ∀ z ∈ zs, (z.1 : Int) < 4294967296 ∧ (z.2 : Int) < 4294967296

def DrawCAt (w0 : World) (A : Option Addr) (zs : List Nat) (c g k n : Nat) (w : World) (nv v : Value) (wr : World) : Prop :=
  ∃ (j q k' g0 cap : Nat) (xs : List (Nat × Nat)), j + q = n ∧ q = xs.length ∧ nv = .int .i64 (j : Int) ∧ v = .slice (some ⟨g0, 0, none⟩) q cap ∧ Bounded xs ∧ OwnC wr w.heap.size v xs ∧ k' ≤ k + 24 * q ∧ Srce w0 A zs c g k' wr ∧ Kept g w wr

set_option maxRecDepth 100000 in
set_option maxHeartbeats 4000000 in
theorem drawComplexes_calls (w0 : World) (A : Option Addr) (zs : List Nat) (c g n : Nat) (hn : n ≤ 256) (w : World) (h : Srce w0 A zs c g 0 w) :
    Calls Tryz.prog 35 #[.pointer (some ⟨g, 0, none⟩), .int .i64 (n : Int)] w fun e w' => ∃ (g0 cap : Nat) (xs : List (Nat × Nat)), xs.length = n ∧ e = .returned (.slice (some ⟨g0, 0, none⟩) n cap) ∧ Bounded xs ∧ OwnC w' w.heap.size (.slice (some ⟨g0, 0, none⟩) n cap) xs ∧ Below w0.heap.size w0 w' := by
  obtain ⟨i0, hi, hz0, hz1, hz2⟩ := info_parts Tryz.infoC
  have H := Frame.hid h
  have HGL := Frame.hid h.lt
  clear h
  go_enter Tryz.func35, Tryz.ntmps35
  go_wp2_with fail
  refine (one_calls w0 A zs c g 0 5 (by omega) (by omega) (by omega) _ (H.out.alloc _)).mono ?_
  rintro e w1 ⟨b, k1, hk1, rfl, hS, hK⟩
  have HST : Hid (DrawCAt w0 A zs c g 2 n w (.int .i64 (n : Int)) (.slice (some ⟨w.heap.size, 0, none⟩) 0 0) w1) := by
    have hK2 : Kept g w w1 := ((Kept.refl g w).alloc _).trans hK
    exact ⟨n, 0, k1, w.heap.size, 0, [], by omega, rfl, rfl, rfl, fun x hx => (by cases hx), OwnC.keptBy (none_litC w) hK (Nat.ne_of_gt HGL.out), by omega, hS, hK2⟩
  clear hS hK hk1
  cases b
  all_goals
    go_wp2_with fail
    go_loopw [1, 5] (fun nv v wr => DrawCAt w0 A zs c g 2 n w nv v wr) (fun nv _ _ => (Go.RowKit.intOf nv).toNat)
    case atStart => exact HST.out
    case round =>
      obtain ⟨j, q, k', g0, cap, xs, hjq, hq, rfl, rfl, hxs, hO, hk', hS, hK⟩ := hrel
      have HXS := Frame.hid hxs
      have HO := Frame.hid hO
      have HS := Frame.hid hS
      have HK := Frame.hid hK
      have HQ := Frame.hid hq
      have hg0 : w.heap.size ≤ g0 := (World.ownsRow.lt hO g0 rfl).1
      have HG0 := Frame.hid hg0
      clear hxs hO hS hK hq hg0 HST
      by_cases hj : 0 < j
      · go_wp2_with fail
        first
          | refine (drawComplex_calls w0 A zs c g k' (by omega) _ HS.out).mono ?_
          | refine (Calls.mono (drawFine_calls w0 A zs c g k' (by omega) _ HS.out) ?_)
        rintro e w2 ⟨x, y, k2, hx, hy, hk2, rfl, hS, hK⟩
        have HX : Unit → (x : Int) < 4294967296 := fun _ => hx
        have HY : Unit → (y : Int) < 4294967296 := fun _ => hy
        have HS2 := Frame.hid hS
        have HK2 := Frame.hid (HK.out.trans hK)
        have hO2 := OwnC.keptBy HO.out hK (by have := HGL.out; have := HG0.out; omega)
        have hO1 : w2.ownsRow w.heap.size 24 1 (.slice (some ⟨g0, 0, none⟩) q cap) q (cl xs) := by have h := hO2; unfold OwnC at h; rwa [← HQ.out] at h
        have hsz : w.heap.size ≤ w2.heap.size := (HK.out.trans hK).size
        clear hS hK hx hy hO2
        go_wp2_with (at_builtin; refine wpList_append_own _ rfl _ _ 25 rfl w.heap.size 24 i0 (.complex .f32 0 0) 1 8 Tryz.underlying25 hi hz0 hz1 hz2 rfl (by decide) _ _ _ rfl (hO1.alloc _) ⟨w2.heap.size, 0, none⟩ 1 1 [.complex .f32 x y] rfl rfl (cell_one_new _ _ _) (fun x hx => by simp at hx; subst hx; rfl) (by unfold maxLen; omega) (by omega) (by simp; omega) ?_; intro v' w3 hown' hgrow3 hnil3; obtain ⟨g', cap', rfl, hO2⟩ := own_appC (x := (x, y)) HQ.out hown')
        have hgrow4 : (w2.alloc (.cells #[.complex .f32 x y] 24)).grownBy w3 (some g0) := hgrow3
        have HS3 : Hid (Srce w0 A zs c g k2 w3) := (HS2.out.alloc _).grown hgrow4 (by have := HGL.out; have := HG0.out; omega) (by have := HG0.out; have := HGL.out; have := HS2.out.2.1; omega)
        have HK3 : Hid (Kept g w w3) := (HK2.out.alloc _).grown hgrow4 HG0.out
        have HO3 := Frame.hid hO2
        clear hgrow3 hgrow4 hnil3 hown' hO1 hO2 hsz
        go_roundw
        case rel => exact ⟨j - 1, q + 1, k2, g', cap', xs ++ [(x, y)], by omega, by rw [List.length_append, HQ.out]; rfl, by go_num, rfl, fun z hz => by rcases List.mem_append.1 hz with h | h; exact HXS.out z h; rw [List.mem_singleton.1 h]; exact ⟨HX (), HY ()⟩, HO3.out, by omega, HS3.out, HK3.out⟩
        case measure => simp [Go.RowKit.intOf]; omega
      · have hj0 : j = 0 := by omega
        subst hj0
        have hqn : q = n := by omega
        subst hqn
        clear hj
        go_wp2_with fail
        go_ret
        exact ⟨g0, cap, xs, HQ.out.symm, rfl, HXS.out, HO.out, HS.out.2.2.2.1⟩

set_option maxHeartbeats 1000000 in
theorem b10Any_calls (A : Option Addr) (zs : List Nat) (c n : Nat) (hn : n ≤ 256) (hz : zs.length ≤ 1048576) (w : World) (hA : RdB w A zs) :
    Calls Tryz.prog 14 #[.slice A zs.length c, .int .i64 (n : Int)] w fun e w' => ∃ (g0 cap : Nat) (xs : List (Nat × Nat)), xs.length = n ∧ e = .returned (.slice (some ⟨g0, 0, none⟩) n cap) ∧ Bounded xs ∧ OwnC w' w.heap.size (.slice (some ⟨g0, 0, none⟩) n cap) xs ∧ Below w.heap.size w w' := by
  have HA := Frame.hid hA
  have HZ := Frame.hid hz
  clear hA hz
  go_enter Tryz.func14, Tryz.ntmps14
  go_wp2_with fail
  refine (from_calls A zs c HZ.out _ HA.out).mono ?_
  rintro e w1 ⟨rfl, hS, hB⟩
  have HS := Frame.hid hS
  have HB := Frame.hid hB
  clear hS hB
  go_wp2_with fail
  refine (drawComplexes_calls w A zs c w.heap.size n hn _ HS.out).mono ?_
  rintro e w2 ⟨g0, cap, xs, hl, rfl, hx, hO, hB⟩
  have HL := Frame.hid hl
  have HX := Frame.hid hx
  have HO := Frame.hid (hO.mono HB.out.size)
  have HB2 := Frame.hid hB
  clear hl hx hO hB
  go_wp2_with fail
  go_ret
  exact ⟨g0, cap, xs, HL.out, rfl, HX.out, HO.out, HB2.out⟩

/-- A drawn complex number whose parts are integers of at most 200. -/
def Wh (z : Nat × Nat) : Prop := ∃ a b : Int, a.natAbs ≤ 200 ∧ b.natAbs ≤ 200 ∧ IVs FloatKind.f32.format z.1 a ∧ IVs FloatKind.f32.format z.2 b

def WholeAt (w0 : World) (A : Option Addr) (zs : List Nat) (c g : Nat) (w : World) (nv v : Value) (wr : World) : Prop :=
  (nv = .int .i64 1 ∧ v = .slice (some ⟨w.heap.size, 0, none⟩) 0 0 ∧ OwnC wr w.heap.size v [] ∧ Srce w0 A zs c g 0 wr ∧ Kept g w wr) ∨
  (∃ (g0 cap : Nat) (z : Nat × Nat), nv = .int .i64 0 ∧ v = .slice (some ⟨g0, 0, none⟩) 1 cap ∧ Wh z ∧ OwnC wr w.heap.size v [z] ∧ Below w0.heap.size w0 wr)

set_option maxRecDepth 100000 in
set_option maxHeartbeats 4000000 in
theorem b10Whole_calls (A : Option Addr) (zs : List Nat) (c : Nat) (hz : zs.length ≤ 1048576) (w : World) (hA : RdB w A zs) :
    Calls Tryz.prog 5 #[.slice A zs.length c, .int .i64 1, .int .i64 200] w fun e w' => ∃ (g0 cap x y : Nat), e = .returned (.slice (some ⟨g0, 0, none⟩) 1 cap) ∧ Wh (x, y) ∧ w'.cell? ⟨g0, 0, none⟩ = some (.complex .f32 x y) ∧ Below w.heap.size w w' := by
  obtain ⟨i0, hi, hz0, hz1, hz2⟩ := info_parts Tryz.infoC
  have HA := Frame.hid hA
  have HZ := Frame.hid hz
  clear hA hz
  go_enter Tryz.func5, Tryz.ntmps5
  go_wp2_with fail
  refine (from_calls A zs c HZ.out _ HA.out).mono ?_
  rintro e w1 ⟨rfl, hS, hB⟩
  have HS := Frame.hid hS
  have HB := Frame.hid hB
  obtain ⟨g, hg⟩ : ∃ g, g = w.heap.size := ⟨_, rfl⟩
  rw [← hg] at HS ⊢
  have HGL := Frame.hid (HS.out.lt)
  clear hS hB hg
  go_wp2_with fail
  go_loopw [1, 8] (fun nv v wr => WholeAt w A zs c g w1 nv v wr) (fun nv _ _ => (Go.RowKit.intOf nv).toNat)
  case atStart => exact .inl ⟨rfl, rfl, none_litC w1, HS.out.alloc _, (Kept.refl g w1).alloc _⟩
  case round =>
    rcases hrel with ⟨rfl, rfl, hO, hS, hK⟩ | ⟨g0, cap, z, rfl, rfl, hz, hO, hB⟩
    · have HO := Frame.hid hO
      have HS := Frame.hid hS
      have HK := Frame.hid hK
      clear hO hS hK
      go_wp2_with fail
      refine (pick_calls w A zs c g 0 401 (by omega) (by omega) (by omega) _ HS.out).mono ?_
      rintro e w2 ⟨a, k1, ha, hk1, rfl, hS, hK⟩
      have HS2 := Frame.hid hS
      have HKA := Frame.hid hK
      have HK2 := Frame.hid (HK.out.trans hK)
      clear hS hK
      go_wp2_with fail
      refine (pick_calls w A zs c g k1 401 (by omega) (by omega) (by omega) _ HS2.out).mono ?_
      rintro e w3 ⟨b, k2, hb, hk2, rfl, hS, hK⟩
      have HS3 := Frame.hid hS
      have HKB := Frame.hid hK
      have HK3 := Frame.hid (HK2.out.trans hK)
      clear hS hK
      have hO1 : w3.ownsRow w1.heap.size 24 1 (.slice (some ⟨w1.heap.size, 0, none⟩) 0 0) 0 (cl []) := OwnC.keptBy (OwnC.keptBy HO.out (Kept.trans (Kept.refl g _) HKA.out) (Nat.ne_of_gt HGL.out)) HKB.out (Nat.ne_of_gt HGL.out)
      have hsz : w1.heap.size ≤ w3.heap.size := HK3.out.size
      go_wp2_with (at_builtin; refine wpList_append_own _ rfl _ _ 25 rfl w1.heap.size 24 i0 (.complex .f32 0 0) 1 8 Tryz.underlying25 hi hz0 hz1 hz2 rfl (by decide) _ _ _ rfl (hO1.alloc _) ⟨w3.heap.size, 0, none⟩ 1 1 [.complex .f32 (floatOfInt .f32 ((a : Int) - 200)) (floatOfInt .f32 ((b : Int) - 200))] rfl rfl (cell_one_new _ _ _) (fun x hx => by simp at hx; subst hx; rfl) (by unfold maxLen; omega) (by omega) (by simp; omega) ?_; intro v' w4 hown' hgrow3 hnil3; obtain ⟨g', cap', rfl, hO2⟩ := own_appC (x := (floatOfInt .f32 ((a : Int) - 200), floatOfInt .f32 ((b : Int) - 200))) (out := []) rfl hown')
      have hgrow4 : (w3.alloc (.cells #[.complex .f32 (floatOfInt .f32 ((a : Int) - 200)) (floatOfInt .f32 ((b : Int) - 200))] 24)).grownBy w4 (some w1.heap.size) := hgrow3
      have HS4 : Hid (Srce w A zs c g k2 w4) := (HS3.out.alloc _).grown hgrow4 (by have := HGL.out; omega) HB.out.size
      have HO4 := Frame.hid hO2
      have HWH : Hid (Wh (floatOfInt .f32 ((a : Int) - 200), floatOfInt .f32 ((b : Int) - 200))) := Frame.hid ⟨(a : Int) - 200, (b : Int) - 200, by omega, by omega, of_int .f32 _, of_int .f32 _⟩
      clear hgrow3 hgrow4 hnil3 hown' hO1 hO2 hsz
      go_roundw
      case rel => exact .inr ⟨g', cap', _, rfl, rfl, HWH.out, HO4.out, HS4.out.2.2.2.1⟩
      case measure => simp [Go.RowKit.intOf]
    · obtain ⟨x, y⟩ := z
      have HW := Frame.hid hz
      have HC := Frame.hid (hO.cell (j := 0) rfl (by simp))
      have HB4 := Frame.hid hB
      clear hz hO hB
      go_wp2_with fail
      go_ret
      exact ⟨g0, cap, x, y, rfl, HW.out, HC.out, HB4.out⟩

end Go.Proofs.YtnflmdlhcjjfdadGreatDoor
