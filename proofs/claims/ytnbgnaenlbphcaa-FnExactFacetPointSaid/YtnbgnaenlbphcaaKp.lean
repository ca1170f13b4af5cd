/-
  Slices of spots: what comes in, taken over, finite or not, compared.
-/
import Derived.Test.YtnbgnaenlbphcaaRows
import Derived.Test.YtnbgnaenlbphcaaKs
import Derived.Deep.Slices
import Derived.Deep.Strs
import Derived.ChangeShapes
import Derived.ChangeSlices
import Derived.OwnWalk
import Derived.BigCall
import Derived.Deep.RegionHeld3
import Derived.Laws.Cover2
namespace Go.Proofs.Ytnbgnaenlbphcaa
open Go.RowKit Fl Go.WideShapes Go.Deep
attribute [local go_sem] kstore_f kalloc_drewN kset_drewN

def sx (xs : List (Nat × Nat × Nat)) (j : Nat) : Nat := (xs.getD j (0, 0, 0)).1
def sy (xs : List (Nat × Nat × Nat)) (j : Nat) : Nat := (xs.getD j (0, 0, 0)).2.1
def sz (xs : List (Nat × Nat × Nat)) (j : Nat) : Nat := (xs.getD j (0, 0, 0)).2.2

/-- Three numbers lie in block b from o on. -/
structure At3o (w : World) (b o x y z : Nat) : Prop where
  c0 : w.cell? ⟨b, o, none⟩ = some (.float .f32 x)
  c1 : w.cell? ⟨b, o + 1, none⟩ = some (.float .f32 y)
  c2 : w.cell? ⟨b, o + 2, none⟩ = some (.float .f32 z)
theorem At3o.keep {n b o x y z : Nat} {w w' : World} (h : At3o w b o x y z) (hB : Below n w w') (hb : b < n) : At3o w' b o x y z := ⟨(hB.cell hb).trans h.c0, (hB.cell hb).trans h.c1, (hB.cell hb).trans h.c2⟩

/-- A slice of spots that reads as the list. -/
structure RdS (w : World) (A : Option Addr) (xs : List (Nat × Nat × Nat)) : Prop where
  h : 0 < xs.length → ∃ b off, A = some ⟨b, off, none⟩ ∧ b < w.heap.size ∧ ∀ j, j < xs.length → At3o w b (off + j * 3) (sx xs j) (sy xs j) (sz xs j)
theorem RdS.below {w w' : World} {A : Option Addr} {xs : List (Nat × Nat × Nat)} (h : RdS w A xs) (hb : Below w.heap.size w w') : RdS w' A xs := ⟨fun h0 => by
  obtain ⟨b, off, e, hlt, hc⟩ := h.h h0
  exact ⟨b, off, e, Nat.lt_of_lt_of_le hlt hb.size, fun j hj => (hc j hj).keep hb hlt⟩⟩

theorem infoSpot : (Try.prog.info? 57).map (fun i => (i.zero, i.size, i.bytes)) = some (some (.agg #[.float .f32 0, .float .f32 0, .float .f32 0]), 3, 12) := by kernel_rfl
theorem heap_setS {w : World} {g i : Nat} {cs : Array Value} {t : TypeId} (u : Value) (h : w.heap[g]? = some (.cells cs t (0, 0))) : (w.setCell ⟨g, i, none⟩ u).heap[g]? = some (.cells (cs.setIfInBounds i u) t (0, 0)) := by
  simp [World.setCell, Array.getElem?_modify, h]
theorem frozen_rowS {w : World} {g i : Nat} {cs : Array Value} {t : TypeId} (h : w.heap[g]? = some (.cells cs t (0, 0))) : w.frozen? ⟨g, i, none⟩ = false := by
  simp [World.frozen?, h]

structure CopyS (w : World) (g n : Nat) (xs : List (Nat × Nat × Nat)) (k : Nat) (wr : World) : Prop where
  r : ∃ cs : Array Value, wr.heap[g]? = some (.cells cs 57 (0, 0)) ∧ cs.size = n * 3 ∧ ∀ j, j < k → cs[j * 3]? = some (.float .f32 (sx xs j)) ∧ cs[j * 3 + 1]? = some (.float .f32 (sy xs j)) ∧ cs[j * 3 + 2]? = some (.float .f32 (sz xs j))
  l : Below w.heap.size w wr
/-- What a slice that the call itself has made reads as. -/
def CopiedS (xs : List (Nat × Nat × Nat)) (w : World) (e : Ending) (w' : World) : Prop :=
  ∃ g, e = .returned (.slice (some ⟨g, 0, none⟩) xs.length xs.length) ∧ RdS w' (some ⟨g, 0, none⟩) xs ∧ Below w.heap.size w w' ∧ w.heap.size ≤ g
theorem CopyS.done {w wr : World} {g n : Nat} {xs : List (Nat × Nat × Nat)} (h : CopyS w g n xs xs.length wr) : RdS wr (some ⟨g, 0, none⟩) xs := ⟨fun _ => by
  obtain ⟨cs, h1, h2, h3⟩ := h.r
  refine ⟨g, 0, rfl, (Array.getElem?_eq_some_iff.1 h1).1, fun j hj => ?_⟩
  obtain ⟨a, b, c⟩ := h3 j hj
  rw [Nat.zero_add]
  exact ⟨by rw [cell_of_row wr g _ cs _ (0, 0) h1]; exact a, by rw [cell_of_row wr g _ cs _ (0, 0) h1]; exact b, by rw [cell_of_row wr g _ cs _ (0, 0) h1]; exact c⟩⟩
theorem CopyS.go {w wr w' : World} {g n k : Nat} {xs : List (Nat × Nat × Nat)} (h : CopyS w g n xs k wr) (hB : Below wr.heap.size wr w') : CopyS w g n xs k w' := by
  obtain ⟨cs, h1, h2, h3⟩ := h.r
  exact ⟨⟨cs, by rw [hB.block g (Array.getElem?_eq_some_iff.1 h1).1]; exact h1, h2, h3⟩, h.l.trans (hB.mono h.l.size)⟩
theorem CopyS.step {w wr : World} {g n k : Nat} {xs : List (Nat × Nat × Nat)} (h : CopyS w g n xs k wr) (hg : w.heap.size ≤ g) (hk : k < n) :
    CopyS w g n xs (k + 1) (((wr.setCell ⟨g, k * 3, none⟩ (.float .f32 (sx xs k))).setCell ⟨g, k * 3 + 1, none⟩ (.float .f32 (sy xs k))).setCell ⟨g, k * 3 + 2, none⟩ (.float .f32 (sz xs k))) := by
  obtain ⟨cs, h1, h2, h3⟩ := h.r
  refine ⟨⟨_, heap_setS _ (heap_setS _ (heap_setS _ h1)), by simpa using h2, fun j hj => ?_⟩, ((h.l.setCell (p := ⟨g, _, none⟩) hg _).setCell (p := ⟨g, _, none⟩) hg _).setCell (p := ⟨g, _, none⟩) hg _⟩
  by_cases he : j = k
  · subst he
    refine ⟨?_, ?_, ?_⟩
    · rw [Array.getElem?_setIfInBounds_ne (by omega), Array.getElem?_setIfInBounds_ne (by omega), Array.getElem?_setIfInBounds_self_of_lt (by omega)]
    · rw [Array.getElem?_setIfInBounds_ne (by omega), Array.getElem?_setIfInBounds_self_of_lt (by simp; omega)]
    · rw [Array.getElem?_setIfInBounds_self_of_lt (by simp; omega)]
  · obtain ⟨a, b, c⟩ := h3 j (by omega)
    refine ⟨?_, ?_, ?_⟩ <;> (rw [Array.getElem?_setIfInBounds_ne (by omega), Array.getElem?_setIfInBounds_ne (by omega), Array.getElem?_setIfInBounds_ne (by omega)]; assumption)
theorem CopyS.here {w wr : World} {g n k : Nat} {xs : List (Nat × Nat × Nat)} (h : CopyS w g n xs k wr) (hk : k < n) : (∃ u, wr.cell? ⟨g, k * 3, none⟩ = some u) ∧ (∃ u, wr.cell? ⟨g, k * 3 + 1, none⟩ = some u) ∧ (∃ u, wr.cell? ⟨g, k * 3 + 2, none⟩ = some u) ∧ (∀ i, wr.frozen? ⟨g, i, none⟩ = false) ∧ g < wr.heap.size := by
  obtain ⟨cs, h1, h2, h3⟩ := h.r
  refine ⟨⟨cs[k * 3]'(by omega), ?_⟩, ⟨cs[k * 3 + 1]'(by omega), ?_⟩, ⟨cs[k * 3 + 2]'(by omega), ?_⟩, fun i => frozen_rowS h1, (Array.getElem?_eq_some_iff.1 h1).1⟩ <;> rw [cell_of_row wr g _ cs _ (0, 0) h1, Array.getElem?_eq_getElem]

set_option maxRecDepth 100000 in
set_option maxHeartbeats 2000000 in
theorem toSpotS_calls (A : Option Addr) (xs : List (Nat × Nat × Nat)) (c : Nat) (w : World) (hn : xs.length ≤ 1048576) (hr : RdS w A xs) :
    Calls Try.prog 49 #[.slice A xs.length c] w (CopiedS xs w) := by
  obtain ⟨i0, hi, hz0, hz1, hz2⟩ := info_parts infoSpot
  have HR := Frame.hid hr
  clear hr
  obtain ⟨n, hxn⟩ : ∃ n, n = xs.length := ⟨_, rfl⟩
  rw [← hxn] at hn ⊢
  have HX := Frame.hid hxn
  clear hxn
  go_enter Try.func49, Try.ntmps49
  go_wp2_with (at_make; refine wpList_make_full _ rfl _ _ 27 rfl w.heap.size 57 i0 (.agg #[.float .f32 0, .float .f32 0, .float .f32 0]) 3 Try.underlying27 hi hz0 hz1 _ _ _ _ n rfl rfl rfl rfl ?c1 ?c2 ?c3 ?_)
  case c1 => rw [hz2]; omega
  case c2 => unfold maxLen; omega
  case c3 => simp
  intro w1 hown hgrow
  obtain ⟨g, hg⟩ : ∃ g, g = w.heap.size := ⟨_, rfl⟩
  have hblk : Hid (CopyS w g n xs 0 w1) := by
    rcases hown.2 with ⟨h0, _⟩ | ⟨g', cap, cur, hv, _, hh, _, _, hsz, _⟩
    · cases h0
    · cases hv
      exact ⟨⟨cur, by rw [hg]; exact hh, by simpa using hsz, fun j hj => absurd hj (by omega)⟩, (Below.refl _ _).grown hgrow (Nat.le_refl _) (by simp)⟩
  clear hown hgrow
  rw [← hg]
  have HGE := Frame.hid hg
  clear hg hi hz0 hz1 hz2
  go_wp2
  go_loopw [4] (fun i wr => ∃ k : Nat, k ≤ n ∧ i = .int .i64 k ∧ CopyS w g n xs k wr) (fun i _ => n - (intOf i).toNat)
  case atStart => exact ⟨0, Nat.zero_le _, rfl, hblk.out⟩
  case round =>
    obtain ⟨k, hk, rfl, hC⟩ := hrel
    by_cases hlt : k < n
    · obtain ⟨b, off, rfl, hb, hc⟩ := HR.out.h (by have := HX.out; omega)
      have h3 := (hc k (by have := HX.out; omega)).keep hC.l hb
      have c0 := h3.c0
      have c1 := h3.c1
      have c2 := h3.c2
      obtain ⟨x, hx⟩ : ∃ x, x = sx xs k := ⟨_, rfl⟩
      obtain ⟨y, hy⟩ : ∃ y, y = sy xs k := ⟨_, rfl⟩
      obtain ⟨z, hz⟩ : ∃ z, z = sz xs k := ⟨_, rfl⟩
      rw [← hx] at c0
      rw [← hy] at c1
      rw [← hz] at c2
      have HXYZ := Frame.hid (And.intro hx (And.intro hy hz))
      have HC := Frame.hid hC
      clear hc h3 hx hy hz hC HX HR
      go_wp2_with (go_at_call 111; refine (toSpot_calls _ _ _ _).mono ?_; rintro e w' ⟨rfl, hB⟩; have hC' := HC.out.go hB; have hh := hC'.here hlt; obtain ⟨⟨u0, k0⟩, ⟨u1, k1⟩, ⟨u2, k2⟩, kf, kl⟩ := hh; have HC' := Frame.hid hC'; clear hC' hB)
      go_roundw
      case rel =>
        refine ⟨k + 1, by omega, by go_num, ?_⟩
        obtain ⟨rfl, rfl, rfl⟩ := HXYZ.out
        exact HC'.out.step (Nat.le_of_eq HGE.out.symm) hlt
      case measure => simp [intOf]; omega
    · have hkn : k = n := by omega
      subst hkn
      have HC := Frame.hid hC
      clear hC
      go_wp2
      go_ret
      have hx := HX.out
      subst hx
      exact ⟨g, rfl, HC.out.done, HC.out.l, Nat.le_of_eq HGE.out.symm⟩

set_option maxRecDepth 100000 in
set_option maxHeartbeats 2000000 in
theorem szSpotS_calls (A : Option Addr) (n c : Nat) (hn : n ≤ 9223372036854775807) (w : World) : Calls Try.prog 47 #[.slice A n c, .int .i64 1048576] w fun e w' => e = .returned (.int .i64 (if 1048576 < n then -1 else 1048576 - (n : Int))) ∧ w = w' := by
  by_cases h : 1048576 < n
  · rw [if_pos h]
    go_enter Try.func47, Try.ntmps47
    go_wp2
    go_ret
    exact ⟨rfl, rfl⟩
  · rw [if_neg h]
    go_enter Try.func47, Try.ntmps47
    go_wp2
    go_ret
    exact ⟨rfl, rfl⟩

/-- All are finite. -/
def finS (xs : List (Nat × Nat × Nat)) : Bool := xs.all fun p => fin3 p.1 p.2.1 p.2.2
theorem finS_upto {xs : List (Nat × Nat × Nat)} (h : ∀ j, j < xs.length → fin3 (sx xs j) (sy xs j) (sz xs j) = true) : finS xs = true := by
  unfold finS
  rw [List.all_eq_true]
  intro p hp
  obtain ⟨j, hj, rfl⟩ := List.getElem_of_mem hp
  have := h j hj
  simpa [sx, sy, sz, List.getD_eq_getElem?_getD, List.getElem?_eq_getElem hj] using this
theorem finS_bad {xs : List (Nat × Nat × Nat)} {j : Nat} (hj : j < xs.length) (h : fin3 (sx xs j) (sy xs j) (sz xs j) = false) : finS xs = false := by
  cases hh : finS xs
  · rfl
  · unfold finS at hh
    rw [List.all_eq_true] at hh
    have := hh _ (List.getElem_mem hj)
    simp only [sx, sy, sz, List.getD_eq_getElem?_getD, List.getElem?_eq_getElem hj, Option.getD_some] at h
    rw [h] at this
    cases this

set_option maxRecDepth 100000 in
set_option maxHeartbeats 2000000 in
theorem areSpots_calls (A : Option Addr) (xs : List (Nat × Nat × Nat)) (c : Nat) (w : World) (hn : xs.length ≤ 1048576) (hr : RdS w A xs) :
    Calls Try.prog 77 #[.slice A xs.length c] w fun e w' => e = .returned (.bool (finS xs)) ∧ Below w.heap.size w w' := by
  have HR := Frame.hid hr
  clear hr
  obtain ⟨n, hxn⟩ : ∃ n, n = xs.length := ⟨_, rfl⟩
  rw [← hxn] at hn ⊢
  have HX := Frame.hid hxn
  clear hxn
  go_enter Try.func77, Try.ntmps77
  go_wp2
  go_loopw [7] (fun i wr => ∃ k : Nat, k ≤ n ∧ i = .int .i64 k ∧ (∀ j, j < k → fin3 (sx xs j) (sy xs j) (sz xs j) = true) ∧ Below w.heap.size w wr) (fun i _ => n - (intOf i).toNat)
  case atStart => exact ⟨0, Nat.zero_le _, rfl, fun j hj => absurd hj (by omega), Below.refl _ _⟩
  case round =>
    obtain ⟨k, hk, rfl, hF, hB⟩ := hrel
    by_cases hlt : k < n
    · obtain ⟨b, off, rfl, hb, hc⟩ := HR.out.h (by have := HX.out; omega)
      have h3 := (hc k (by have := HX.out; omega)).keep hB hb
      have c0 := h3.c0
      have c1 := h3.c1
      have c2 := h3.c2
      obtain ⟨x, hx⟩ : ∃ x, x = sx xs k := ⟨_, rfl⟩
      obtain ⟨y, hy⟩ : ∃ y, y = sy xs k := ⟨_, rfl⟩
      obtain ⟨z, hz⟩ : ∃ z, z = sz xs k := ⟨_, rfl⟩
      rw [← hx] at c0
      rw [← hy] at c1
      rw [← hz] at c2
      have HXYZ := Frame.hid (And.intro hx (And.intro hy hz))
      have HF := Frame.hid hF
      have HB := Frame.hid hB
      clear hc h3 hx hy hz hF hB HR
      cases h1 : fin3 x y z
      · have HH1 := Frame.hid h1
        go_wp2_with (go_at_call 132; refine (isSpot_calls _ _ _ _).mono ?_; rintro e w' ⟨rfl, m, rfl⟩; rw [HH1.out])
        go_ret
        refine ⟨ret_bool ?_, below_drewN ((HB.out.alloc HB.out.size _).alloc (by have := HB.out.size; simp; omega) _) _⟩
        obtain ⟨rfl, rfl, rfl⟩ := HXYZ.out
        rw [finS_bad (by have := HX.out; omega) HH1.out]
      · have HH1 := Frame.hid h1
        go_wp2_with (go_at_call 132; refine (isSpot_calls _ _ _ _).mono ?_; rintro e w' ⟨rfl, m, rfl⟩; rw [HH1.out])
        go_roundw
        case rel =>
          refine ⟨k + 1, by omega, by go_num, fun j hj => ?_, below_drewN ((HB.out.alloc HB.out.size _).alloc (by have := HB.out.size; simp; omega) _) _⟩
          by_cases he : j = k
          · subst he
            obtain ⟨rfl, rfl, rfl⟩ := HXYZ.out
            exact HH1.out
          · exact HF.out j (by omega)
        case measure => simp [intOf]; omega
    · have hkn : k = n := by omega
      subst hkn
      have HFA := Frame.hid (finS_upto (xs := xs) (fun j hj => hF j (by have := HX.out; omega)))
      have HB := Frame.hid hB
      clear hF hB
      go_wp2
      go_ret
      exact ⟨ret_bool HFA.out.symm, HB.out⟩

set_option maxRecDepth 100000 in
set_option maxHeartbeats 2000000 in
theorem l04Spots_calls (A : Option Addr) (xs : List (Nat × Nat × Nat)) (c : Nat) (w : World) (hn : xs.length ≤ 1048576) (hr : RdS w A xs) :
    Calls Try.prog 114 #[.slice A xs.length c] w fun e w' => e = .returned (.bool (finS xs)) ∧ Below w.heap.size w w' := by
  have HR := Frame.hid hr
  clear hr
  obtain ⟨n, hxn⟩ : ∃ n, n = xs.length := ⟨_, rfl⟩
  rw [← hxn] at hn ⊢
  have HX := Frame.hid hxn
  clear hxn
  go_enter Try.func114, Try.ntmps114
  go_wp2
  go_loopw [3] (fun i wr => ∃ k : Nat, k ≤ n ∧ i = .int .i64 k ∧ (∀ j, j < k → fin3 (sx xs j) (sy xs j) (sz xs j) = true) ∧ Below w.heap.size w wr) (fun i _ => n - (intOf i).toNat)
  case atStart => exact ⟨0, Nat.zero_le _, rfl, fun j hj => absurd hj (by omega), Below.refl _ _⟩
  case round =>
    obtain ⟨k, hk, rfl, hF, hB⟩ := hrel
    by_cases hlt : k < n
    · obtain ⟨b, off, rfl, hb, hc⟩ := HR.out.h (by have := HX.out; omega)
      have h3 := (hc k (by have := HX.out; omega)).keep hB hb
      have c0 := h3.c0
      have c1 := h3.c1
      have c2 := h3.c2
      obtain ⟨x, hx⟩ : ∃ x, x = sx xs k := ⟨_, rfl⟩
      obtain ⟨y, hy⟩ : ∃ y, y = sy xs k := ⟨_, rfl⟩
      obtain ⟨z, hz⟩ : ∃ z, z = sz xs k := ⟨_, rfl⟩
      rw [← hx] at c0
      rw [← hy] at c1
      rw [← hz] at c2
      have HXYZ := Frame.hid (And.intro hx (And.intro hy hz))
      have HF := Frame.hid hF
      have HB := Frame.hid hB
      clear hc h3 hx hy hz hF hB HR
      cases h1 : fin3 x y z
      · have HH1 := Frame.hid h1
        go_wp2_with (go_at_call 138; refine (l04Spot_calls _ _ _ _).mono ?_; rintro e w' ⟨rfl, m, rfl⟩; rw [HH1.out])
        go_ret
        refine ⟨ret_bool ?_, below_drewN (HB.out.alloc HB.out.size _) _⟩
        obtain ⟨rfl, rfl, rfl⟩ := HXYZ.out
        rw [finS_bad (by have := HX.out; omega) HH1.out]
      · have HH1 := Frame.hid h1
        go_wp2_with (go_at_call 138; refine (l04Spot_calls _ _ _ _).mono ?_; rintro e w' ⟨rfl, m, rfl⟩; rw [HH1.out])
        go_roundw
        case rel =>
          refine ⟨k + 1, by omega, by go_num, fun j hj => ?_, below_drewN (HB.out.alloc HB.out.size _) _⟩
          by_cases he : j = k
          · subst he
            obtain ⟨rfl, rfl, rfl⟩ := HXYZ.out
            exact HH1.out
          · exact HF.out j (by omega)
        case measure => simp [intOf]; omega
    · have hkn : k = n := by omega
      subst hkn
      have HFA := Frame.hid (finS_upto (xs := xs) (fun j hj => hF j (by have := HX.out; omega)))
      have HB := Frame.hid hB
      clear hF hB
      go_wp2
      go_ret
      exact ⟨ret_bool HFA.out.symm, HB.out⟩

/-- The lists are one, up to not-a-numbers. -/
structure LS (xs ys : List (Nat × Nat × Nat)) : Prop where
  l : xs.length = ys.length
  s : ∀ j, j < xs.length → S3 (sx xs j) (sy xs j) (sz xs j) (sx ys j) (sy ys j) (sz ys j)
theorem LS.refl (xs : List (Nat × Nat × Nat)) : LS xs xs := ⟨rfl, fun _ _ => S3.refl _ _ _⟩

set_option maxRecDepth 100000 in
set_option maxHeartbeats 2000000 in
theorem eqSpotS_calls (A A' : Option Addr) (xs ys : List (Nat × Nat × Nat)) (c c' n : Nat) (hxn : n = xs.length) (w : World) (hn : n ≤ 1048576) (hA : RdS w A xs) (hB : RdS w A' ys) (hS : LS xs ys) :
    Calls Try.prog 51 #[.slice A n c, .slice A' n c'] w fun e w' => e = .returned (.bool true) ∧ Below w.heap.size w w' := by
  have HX := Frame.hid hxn
  have HA := Frame.hid hA
  have HA' := Frame.hid hB
  have HS := Frame.hid hS
  clear hxn hA hB hS
  go_enter Try.func51, Try.ntmps51
  go_wp2
  go_loopw [5] (fun i wr => ∃ k : Nat, k ≤ n ∧ i = .int .i64 k ∧ Below w.heap.size w wr) (fun i _ => n - (intOf i).toNat)
  case atStart => exact ⟨0, Nat.zero_le _, rfl, Below.refl _ _⟩
  case round =>
    obtain ⟨k, hk, rfl, hB⟩ := hrel
    by_cases hlt : k < n
    · obtain ⟨b, off, rfl, hb, hc⟩ := HA.out.h (by have := HX.out; omega)
      obtain ⟨b', off', rfl, hb', hc'⟩ := HA'.out.h (by have := HX.out; have := HS.out.l; omega)
      have h3 := (hc k (by have := HX.out; omega)).keep hB hb
      have g3 := (hc' k (by have := HX.out; have := HS.out.l; omega)).keep hB hb'
      have hS3 := HS.out.s k (by have := HX.out; omega)
      have c0 := h3.c0
      have c1 := h3.c1
      have c2 := h3.c2
      have d0 := g3.c0
      have d1 := g3.c1
      have d2 := g3.c2
      generalize sx xs k = x at *
      generalize sy xs k = y at *
      generalize sz xs k = z at *
      generalize sx ys k = x' at *
      generalize sy ys k = y' at *
      generalize sz ys k = z' at *
      have HB := Frame.hid hB
      have HS3 := Frame.hid hS3
      have p0 : (0 : Int) ≤ (k : Int) := by omega
      have p1 : (k : Int) < (n : Int) := by omega
      clear hc hc' h3 g3 hB HA HA' HS hS3
      have q1 : b < wr.heap.size := Nat.lt_of_lt_of_le hb HB.out.size
      have q2 : b' < wr.heap.size := Nat.lt_of_lt_of_le hb' HB.out.size
      have hST : SK wr.heap.size wr [((⟨b, off + k * 3, none⟩ : Addr), Value.float .f32 x), ((⟨b, off + k * 3 + 1, none⟩ : Addr), Value.float .f32 y), ((⟨b, off + k * 3 + 2, none⟩ : Addr), Value.float .f32 z), ((⟨b', off' + k * 3, none⟩ : Addr), Value.float .f32 x'), ((⟨b', off' + k * 3 + 1, none⟩ : Addr), Value.float .f32 y'), ((⟨b', off' + k * 3 + 2, none⟩ : Addr), Value.float .f32 z')] wr := SK.start (Nat.le_refl _) (by intro p hp; simp at hp; rcases hp with rfl | rfl | rfl | rfl | rfl | rfl <;> assumption) (by intro p hp; simp at hp; rcases hp with rfl | rfl | rfl | rfl | rfl | rfl <;> assumption)
      clear q1 q2
      go_wp2
      go_region_held3 (fun W => W.cell? ⟨b, off + k * 3, none⟩ = some (.float .f32 x) ∧ W.cell? ⟨b, off + k * 3 + 1, none⟩ = some (.float .f32 y) ∧ W.cell? ⟨b, off + k * 3 + 2, none⟩ = some (.float .f32 z) ∧ W.cell? ⟨b', off' + k * 3, none⟩ = some (.float .f32 x') ∧ W.cell? ⟨b', off' + k * 3 + 1, none⟩ = some (.float .f32 y') ∧ W.cell? ⟨b', off' + k * 3 + 2, none⟩ = some (.float .f32 z') ∧ wr.heap.size ≤ W.heap.size ∧ SK wr.heap.size wr [((⟨b, off + k * 3, none⟩ : Addr), Value.float .f32 x), ((⟨b, off + k * 3 + 1, none⟩ : Addr), Value.float .f32 y), ((⟨b, off + k * 3 + 2, none⟩ : Addr), Value.float .f32 z), ((⟨b', off' + k * 3, none⟩ : Addr), Value.float .f32 x'), ((⟨b', off' + k * 3 + 1, none⟩ : Addr), Value.float .f32 y'), ((⟨b', off' + k * 3 + 2, none⟩ : Addr), Value.float .f32 z')] W) ((refine SK_all6 ?_; (repeat' first | with_reducible assumption | exact SK_of6 (by with_reducible assumption) | exact hST | apply SK.drew | apply SK.drewN | apply SK.alloc | (refine SK.call ?_ (by with_reducible assumption)) | (refine SK.set ?_ _ _ _ (by omega)))))
        (first | (go_at_call 39; refine (eqSpot_calls _ _ _ _ _ _ HS3.out _).mono ?_; rintro e w' ⟨rfl, hB⟩))
      have hSK : SK wr.heap.size wr [((⟨b, off + k * 3, none⟩ : Addr), Value.float .f32 x), ((⟨b, off + k * 3 + 1, none⟩ : Addr), Value.float .f32 y), ((⟨b, off + k * 3 + 2, none⟩ : Addr), Value.float .f32 z), ((⟨b', off' + k * 3, none⟩ : Addr), Value.float .f32 x'), ((⟨b', off' + k * 3 + 1, none⟩ : Addr), Value.float .f32 y'), ((⟨b', off' + k * 3 + 2, none⟩ : Addr), Value.float .f32 z')] _ := SK_of6 (by with_reducible assumption)
      go_wp2
      go_roundw
      case rel => exact ⟨k + 1, by omega, by go_num, HB.out.trans (hSK.m.mono HB.out.size)⟩
      case measure => simp [intOf]; omega
    · go_wp2
      go_ret
      exact ⟨rfl, hB⟩

end Go.Proofs.Ytnbgnaenlbphcaa
