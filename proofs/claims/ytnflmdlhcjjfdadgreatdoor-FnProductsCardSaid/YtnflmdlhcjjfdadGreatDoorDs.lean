/-
  Numbers and lists that a law draws from bytes, walked.
-/
import Derived.Test.YtnflmdlhcjjfdadGreatDoorDr
import Derived.Test.YtnflmdlhcjjfdadGreatDoorHy
namespace Go.Proofs.YtnflmdlhcjjfdadGreatDoor
open Go.RowKit Go.WideShapes Fl

theorem Kept.grown {g g0 : Nat} {a b c : World} (h : Kept g a b) (hg : b.grownBy c (some g0)) (h0 : a.heap.size ≤ g0) : Kept g a c :=
  ⟨hg.os.trans h.os, hg.tape.trans h.tape, hg.output.trans h.output, Nat.le_trans h.size hg.size, fun i hi hne => (hg.block i (Nat.lt_of_lt_of_le hi h.size) (fun e => by injection e with e; omega)).trans (h.block i hi hne)⟩
theorem Srce.grown {w0 : World} {A : Option Addr} {zs : List Nat} {c g k g0 : Nat} {w w' : World} (h : Srce w0 A zs c g k w) (hg : w.grownBy w' (some g0)) (h0 : g0 ≠ g) (h1 : w0.heap.size ≤ g0) : Srce w0 A zs c g k w' := by
  obtain ⟨⟨seed, a1⟩, a2, a3, a4, a5⟩ := h
  refine ⟨⟨seed, ?_⟩, a2, a3, a4.grown hg a4.size (fun k hk => by injection hk with hk; omega), a5⟩
  rw [hg.block g (Array.getElem?_eq_some_iff.1 a1).1 (fun e => by injection e with e; omega)]
  exact a1

theorem from_calls (A : Option Addr) (zs : List Nat) (c : Nat) (hz : zs.length ≤ 1048576) (w : World) (hA : RdB w A zs) :
    Calls Tryz.prog 27 #[.slice A zs.length c] w fun e w' => e = .returned (.pointer (some ⟨w.heap.size, 0, none⟩)) ∧ Srce w A zs c w.heap.size 0 w' ∧ Below w.heap.size w w' := by
  have HA := Frame.hid hA
  have HZ := Frame.hid hz
  clear hA hz
  obtain ⟨n, hn⟩ : ∃ n, n = zs.length := ⟨_, rfl⟩
  rw [← hn]
  have HN := Frame.hid hn
  clear hn
  go_enter Tryz.func27, Tryz.ntmps27
  go_wp2
  go_ret
  have hn := HN.out
  subst hn
  exact ⟨rfl, ⟨⟨0, heap_alloc_new _ _⟩, Nat.le_refl _, HA.out, (Below.refl _ _).alloc (Nat.le_refl _) _, HZ.out⟩, (Below.refl _ _).alloc (Nat.le_refl _) _⟩

set_option maxHeartbeats 2000000 in
theorem b10Number_calls (A : Option Addr) (zs : List Nat) (c : Nat) (hz : zs.length ≤ 1048576) (w : World) (hA : RdB w A zs) :
    Calls Tryz.prog 18 #[.slice A zs.length c] w fun e w' => ∃ b : Nat, (b : Int) < 4294967296 ∧ e = .returned (.float .f32 b) ∧ Below w.heap.size w w' := by
  have HA := Frame.hid hA
  have HZ := Frame.hid hz
  clear hA hz
  go_enter Tryz.func18, Tryz.ntmps18
  go_wp2_with fail
  refine (from_calls A zs c HZ.out _ HA.out).mono ?_
  rintro e w1 ⟨rfl, hS, hB⟩
  have HS := Frame.hid hS
  have HB := Frame.hid hB
  obtain ⟨g, hg⟩ : ∃ g, g = w.heap.size := ⟨_, rfl⟩
  rw [← hg] at HS ⊢
  have HG := Frame.hid hg
  clear hS hB hg
  go_wp2_with fail
  refine (one_calls w A zs c g 0 2 (by omega) (by omega) (by omega) _ HS.out).mono ?_
  rintro e w2 ⟨b, k1, hk1, rfl, hS, hK⟩
  have HS2 := Frame.hid hS
  clear hS hK
  cases b
  · go_wp2_with fail
    refine (drawFloat_calls w A zs c g k1 (by omega) _ HS2.out).mono ?_
    rintro e w3 ⟨x, k2, hx, hk2, rfl, hS, hK⟩
    have HX : Unit → (x : Int) < 4294967296 := fun _ => hx
    have HB3 := Frame.hid hS.2.2.2.1
    clear hS hK hx
    go_wp2_with fail
    go_ret
    exact ⟨x, HX (), rfl, HB3.out⟩
  · go_wp2_with fail
    refine (pick_calls w A zs c g k1 65536 (by omega) (by omega) (by omega) _ HS2.out).mono ?_
    rintro e w3 ⟨r1, k3, hr1, hk3, rfl, hS, hK⟩
    have HS3 := Frame.hid hS
    clear hS hK
    go_wp2_with fail
    refine (pick_calls w A zs c g k3 65536 (by omega) (by omega) (by omega) _ HS3.out).mono ?_
    rintro e w4 ⟨r2, k4, hr2, hk4, rfl, hS, hK⟩
    have HB4 := Frame.hid hS.2.2.2.1
    clear hS hK
    go_wp2_with fail
    refine (l01From_calls ((r1 : Int) * 65536 + (r2 : Int)) (by omega) (by omega) _).mono ?_
    rintro e w5 ⟨rfl, rfl⟩
    go_wp2_with fail
    go_ret
    exact ⟨((r1 : Int) * 65536 + (r2 : Int)).toNat, by omega, rfl, HB4.out⟩

def DrawAt (w0 : World) (A : Option Addr) (zs : List Nat) (c g k n : Nat) (w : World) (nv v : Value) (wr : World) : Prop :=
  ∃ (j q k' g0 cap : Nat) (xs : List Nat), j + q = n ∧ q = xs.length ∧ nv = .int .i64 (j : Int) ∧ v = .slice (some ⟨g0, 0, none⟩) q cap ∧ (∀ x ∈ xs, (x : Int) < 4294967296) ∧ OwnF wr w.heap.size v xs ∧ k' ≤ k + 12 * q ∧ Srce w0 A zs c g k' wr ∧ Kept g w wr

end Go.Proofs.YtnflmdlhcjjfdadGreatDoor
