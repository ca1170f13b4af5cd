/-
  Numbers and lists that a law draws from bytes, walked.
-/
import Derived.Test.YtnflmdlhcjjfdadDoorDr
import Derived.Test.YtnflmdlhcjjfdadDoorHy
namespace Go.Proofs.YtnflmdlhcjjfdadDoor
open Go.RowKit Go.WideShapes Fl

theorem Kept.grown {g g0 : Nat} {a b c : World} (h : Kept g a b) (hg : b.grownBy c (some g0)) (h0 : a.heap.size ≤ g0) : Kept g a c :=
  ⟨hg.os.trans h.os, hg.tape.trans h.tape, hg.output.trans h.output, Nat.le_trans h.size hg.size, fun i hi hne => (hg.block i (Nat.lt_of_lt_of_le hi h.size) (fun e => by injection e with e; omega)).trans (h.block i hi hne)⟩
theorem Srce.grown {w0 : World} {A : Option Addr} {zs : List Nat} {c g k g0 : Nat} {w w' : World} (h : Srce w0 A zs c g k w) (hg : w.grownBy w' (some g0)) (h0 : g0 ≠ g) (h1 : w0.heap.size ≤ g0) : Srce w0 A zs c g k w' := by
  obtain ⟨⟨seed, a1⟩, a2, a3, a4, a5⟩ := h
  refine ⟨⟨seed, ?_⟩, a2, a3, a4.grown hg a4.size (fun k hk => by injection hk with hk; omega), a5⟩
  rw [hg.block g (Array.getElem?_eq_some_iff.1 a1).1 (fun e => by injection e with e; omega)]
  exact a1

theorem from_calls (A : Option Addr) (zs : List Nat) (c : Nat) (hz : zs.length ≤ 1048576) (w : World) (hA : RdB w A zs) :
    Calls Tryd.prog 20 #[.slice A zs.length c] w fun e w' => e = .returned (.pointer (some ⟨w.heap.size, 0, none⟩)) ∧ Srce w A zs c w.heap.size 0 w' ∧ Below w.heap.size w w' := by
  have HA := Frame.hid hA
  have HZ := Frame.hid hz
  clear hA hz
  obtain ⟨n, hn⟩ : ∃ n, n = zs.length := ⟨_, rfl⟩
  rw [← hn]
  have HN := Frame.hid hn
  clear hn
  go_enter Tryd.func20, Tryd.ntmps20
  go_wp2
  go_ret
  have hn := HN.out
  subst hn
  exact ⟨rfl, ⟨⟨0, heap_alloc_new _ _⟩, Nat.le_refl _, HA.out, (Below.refl _ _).alloc (Nat.le_refl _) _, HZ.out⟩, (Below.refl _ _).alloc (Nat.le_refl _) _⟩

set_option maxHeartbeats 2000000 in
theorem b10Number_calls (A : Option Addr) (zs : List Nat) (c : Nat) (hz : zs.length ≤ 1048576) (w : World) (hA : RdB w A zs) :
    Calls Tryd.prog 5 #[.slice A zs.length c] w fun e w' => ∃ b : Nat, (b : Int) < 4294967296 ∧ e = .returned (.float .f32 b) ∧ Below w.heap.size w w' := by
  have HA := Frame.hid hA
  have HZ := Frame.hid hz
  clear hA hz
  go_enter Tryd.func5, Tryd.ntmps5
  go_wp2_with fail
  refine (from_calls A zs c HZ.out _ HA.out).mono ?_
  rintro e w1 ⟨rfl, hS, hB⟩
  have HS := Frame.hid hS
  have HB := Frame.hid hB
  obtain ⟨g, hg⟩ : ∃ g, g = w.heap.size := ⟨_, rfl⟩
  rw [← hg] at HS ⊢
  have HG := Frame.hid hg
  clear hS hB hg
  go_wp2_with fail
  refine (one_calls w A zs c g 0 2 (by omega) (by omega) (by omega) _ HS.out).mono ?_
  rintro e w2 ⟨b, k1, hk1, rfl, hS, hK⟩
  have HS2 := Frame.hid hS
  clear hS hK
  cases b
  · go_wp2_with fail
    refine (drawFloat_calls w A zs c g k1 (by omega) _ HS2.out).mono ?_
    rintro e w3 ⟨x, k2, hx, hk2, rfl, hS, hK⟩
    have HX : Unit → (x : Int) < 4294967296 := fun _ => hx
    have HB3 := Frame.hid hS.2.2.2.1
    clear hS hK hx
    go_wp2_with fail
    go_ret
    exact ⟨x, HX (), rfl, HB3.out⟩
  · go_wp2_with fail
    refine (pick_calls w A zs c g k1 65536 (by omega) (by omega) (by omega) _ HS2.out).mono ?_
    rintro e w3 ⟨r1, k3, hr1, hk3, rfl, hS, hK⟩
    have HS3 := Frame.hid hS
    clear hS hK
    go_wp2_with fail
    refine (pick_calls w A zs c g k3 65536 (by omega) (by omega) (by omega) _ HS3.out).mono ?_
    rintro e w4 ⟨r2, k4, hr2, hk4, rfl, hS, hK⟩
    have HB4 := Frame.hid hS.2.2.2.1
    clear hS hK
    go_wp2_with fail
    refine (l01From_calls ((r1 : Int) * 65536 + (r2 : Int)) (by omega) (by omega) _).mono ?_
    rintro e w5 ⟨rfl, rfl⟩
    go_wp2_with fail
    go_ret
    exact ⟨((r1 : Int) * 65536 + (r2 : Int)).toNat, by omega, rfl, HB4.out⟩

def DrawAt (w0 : World) (A : Option Addr) (zs : List Nat) (c g k n : Nat) (w : World) (nv v : Value) (wr : World) : Prop :=
  ∃ (j q k' g0 cap : Nat) (xs : List Nat), j + q = n ∧ q = xs.length ∧ nv = .int .i64 (j : Int) ∧ v = .slice (some ⟨g0, 0, none⟩) q cap ∧ (∀ x ∈ xs, (x : Int) < 4294967296) ∧ OwnF wr w.heap.size v xs ∧ k' ≤ k + 12 * q ∧ Srce w0 A zs c g k' wr ∧ Kept g w wr

set_option maxRecDepth 100000 in
set_option maxHeartbeats 4000000 in
theorem drawFloats_calls (w0 : World) (A : Option Addr) (zs : List Nat) (c g n : Nat) (hn : n ≤ 256) (w : World) (h : Srce w0 A zs c g 0 w) :
    Calls Tryd.prog 29 #[.pointer (some ⟨g, 0, none⟩), .int .i64 (n : Int)] w fun e w' => ∃ (g0 cap : Nat) (xs : List Nat), xs.length = n ∧ e = .returned (.slice (some ⟨g0, 0, none⟩) n cap) ∧ (∀ x ∈ xs, (x : Int) < 4294967296) ∧ OwnF w' w.heap.size (.slice (some ⟨g0, 0, none⟩) n cap) xs ∧ Below w0.heap.size w0 w' := by
  obtain ⟨i0, hi, hz0, hz1, hz2⟩ := info_parts Tryd.infoF
  have H := Frame.hid h
  have HGL := Frame.hid h.lt
  clear h
  go_enter Tryd.func29, Tryd.ntmps29
  go_wp2_with fail
  refine (one_calls w0 A zs c g 0 4 (by omega) (by omega) (by omega) _ (H.out.alloc _)).mono ?_
  rintro e w1 ⟨b, k1, hk1, rfl, hS, hK⟩
  have HST : Hid (DrawAt w0 A zs c g 2 n w (.int .i64 (n : Int)) (.slice (some ⟨w.heap.size, 0, none⟩) 0 0) w1) := by
    have hK2 : Kept g w w1 := ((Kept.refl g w).alloc _).trans hK
    exact ⟨n, 0, k1, w.heap.size, 0, [], by omega, rfl, rfl, rfl, fun x hx => (by cases hx), OwnF.keptBy (none_litF w) hK (Nat.ne_of_gt HGL.out), by omega, hS, hK2⟩
  clear hS hK hk1
  cases b
  all_goals
    go_wp2_with fail
    go_loopw [1, 5] (fun nv v wr => DrawAt w0 A zs c g 2 n w nv v wr) (fun nv _ _ => (Go.RowKit.intOf nv).toNat)
    case atStart => exact HST.out
    case round =>
      obtain ⟨j, q, k', g0, cap, xs, hjq, hq, rfl, rfl, hxs, hO, hk', hS, hK⟩ := hrel
      have HXS := Frame.hid hxs
      have HO := Frame.hid hO
      have HS := Frame.hid hS
      have HK := Frame.hid hK
      have HQ := Frame.hid hq
      have hg0 : w.heap.size ≤ g0 := (World.ownsRow.lt hO g0 rfl).1
      have HG0 := Frame.hid hg0
      clear hxs hO hS hK hq hg0 HST
      by_cases hj : 0 < j
      · go_wp2_with fail
        first
          | refine (drawFloat_calls w0 A zs c g k' (by omega) _ HS.out).mono ?_
          | refine (Calls.mono (drawPlain_calls w0 A zs c g k' (by omega) _ HS.out) ?_)
        rintro e w2 ⟨x, k2, hx, hk2, rfl, hS, hK⟩
        have HX : Unit → (x : Int) < 4294967296 := fun _ => hx
        have HS2 := Frame.hid hS
        have HK2 := Frame.hid (HK.out.trans hK)
        have hO2 := OwnF.keptBy HO.out hK (by have := HGL.out; have := HG0.out; omega)
        have hO1 : w2.ownsRow w.heap.size 24 1 (.slice (some ⟨g0, 0, none⟩) q cap) q (fl xs) := by have h := hO2; unfold OwnF at h; rwa [← HQ.out] at h
        have hsz : w.heap.size ≤ w2.heap.size := (HK.out.trans hK).size
        clear hS hK hx hO2
        go_wp2_with (at_builtin; refine wpList_append_own _ rfl _ _ 30 rfl w.heap.size 24 i0 (.float .f32 0) 1 4 Tryd.underlying30 hi hz0 hz1 hz2 rfl (by decide) _ _ _ rfl (hO1.alloc _) ⟨w2.heap.size, 0, none⟩ 1 1 [.float .f32 x] rfl rfl (cell_one_new _ _ _) (fun x hx => by simp at hx; subst hx; rfl) (by unfold maxLen; omega) (by omega) (by simp; omega) ?_; intro v' w3 hown' hgrow3 hnil3; obtain ⟨g', cap', rfl, hO2⟩ := own_appF HQ.out hown')
        have hgrow4 : (w2.alloc (.cells #[.float .f32 x] 24)).grownBy w3 (some g0) := hgrow3
        have HS3 : Hid (Srce w0 A zs c g k2 w3) := (HS2.out.alloc _).grown hgrow4 (by have := HGL.out; have := HG0.out; omega) (by have := HG0.out; have := HGL.out; have := HS2.out.2.1; omega)
        have HK3 : Hid (Kept g w w3) := (HK2.out.alloc _).grown hgrow4 HG0.out
        have HO3 := Frame.hid hO2
        clear hgrow3 hgrow4 hnil3 hown' hO1 hO2 hsz
        go_roundw
        case rel => exact ⟨j - 1, q + 1, k2, g', cap', xs ++ [x], by omega, by rw [List.length_append, HQ.out]; rfl, by go_num, rfl, fun y hy => by rcases List.mem_append.1 hy with h | h; exact HXS.out y h; rw [List.mem_singleton.1 h]; exact HX (), HO3.out, by omega, HS3.out, HK3.out⟩
        case measure => simp [Go.RowKit.intOf]; omega
      · have hj0 : j = 0 := by omega
        subst hj0
        have hqn : q = n := by omega
        subst hqn
        clear hj
        go_wp2_with fail
        go_ret
        exact ⟨g0, cap, xs, HQ.out.symm, rfl, HXS.out, HO.out, HS.out.2.2.2.1⟩

end Go.Proofs.YtnflmdlhcjjfdadDoor
