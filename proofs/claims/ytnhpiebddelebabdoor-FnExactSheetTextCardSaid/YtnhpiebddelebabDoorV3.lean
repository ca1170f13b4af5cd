/-
  The parts of spots, one after another: both sides.
-/
import Derived.Test.YtnhpiebddelebabDoorKv
import Derived.Test.YtnhpiebddelebabDoorNt
import Derived.Test.YtnhpiebddelebabDoorLq
import Derived.Test.YtnhpiebddelebabDoorEf
import Derived.Test.YtnhpiebddelebabDoorG5
namespace Go.Proofs.YtnhpiebddelebabDoor
open Go.RowKit Fl Go.WideShapes Go.Deep
attribute [local go_sem] kstore_f kalloc_drewN kset_drewN hstore_i hstore_s

theorem infoF32 : (Tryd.prog.info? 94).map (fun i => (i.zero, i.size, i.bytes)) = some (some (.float .f32 0), 1, 4) := by kernel_rfl
/-- The parts of spots. -/
def prtL (xs : List (Nat × Nat × Nat)) : List Nat := xs.flatMap fun p => [p.1, p.2.1, p.2.2]
theorem prtL_len : ∀ xs : List (Nat × Nat × Nat), (prtL xs).length = 3 * xs.length
  | [] => rfl
  | p :: xs => by
    have ih := prtL_len xs
    unfold prtL at ih ⊢
    rw [List.flatMap_cons, List.length_append, ih, List.length_cons]
    simp; omega
theorem prtL_take (xs : List (Nat × Nat × Nat)) (k : Nat) (h : k < xs.length) : prtL (xs.take (k + 1)) = prtL (xs.take k) ++ [sx xs k, sy xs k, sz xs k] := by
  unfold prtL
  rw [List.take_succ_eq_append_getElem h, List.flatMap_append]
  simp [sx, sy, sz, List.getD_eq_getElem?_getD, List.getElem?_eq_getElem h]
theorem own_app3 {w3 : World} {B k : Nat} {x y z : Nat} {v' : Value} {out : List Nat} (hk : k = out.length) (h : w3.ownsRow B 94 1 v' (k + 3) (fl out ++ [.float .f32 x, .float .f32 y, .float .f32 z])) :
    ∃ g cap, v' = .slice (some ⟨g, 0, none⟩) (k + 3) cap ∧ OwnF w3 B v' (out ++ [x, y, z]) := by
  have h2 : OwnF w3 B v' (out ++ [x, y, z]) := by
    unfold OwnF
    rw [List.length_append, ← fl_app, ← hk]
    exact h
  rcases h.2 with ⟨_, h0⟩ | ⟨g, cap, cur, hv, _⟩
  · omega
  · exact ⟨g, cap, hv, h2⟩
theorem news_three (w : World) (g x y z : Nat) (t : TypeId) (hg : g = w.heap.size) : ∀ j u, ([.float .f32 x, .float .f32 y, .float .f32 z] : List Value)[j]? = some u → (w.alloc (.cells #[.float .f32 x, .float .f32 y, .float .f32 z] t)).cell? ((⟨g, 0, none⟩ : Addr).add j) = some u := by
  intro j u h
  subst hg
  rw [add_plain, Nat.zero_add, World.cell?_alloc_new]
  simpa using h
theorem one_three (x y z : Nat) : ∀ u ∈ ([.float .f32 x, .float .f32 y, .float .f32 z] : List Value), u.oneCell' = true := by
  intro u hu
  simp at hu
  rcases hu with rfl | rfl | rfl <;> rfl

/-- The parts that a call has made. -/
def PrtO (xs : List (Nat × Nat × Nat)) (w : World) (e : Ending) (w' : World) : Prop := ∃ A c L, e = .returned (.slice A L c) ∧ L = (prtL xs).length ∧ RdF w' A (prtL xs) ∧ Below w.heap.size w w'

set_option maxRecDepth 100000 in
set_option maxHeartbeats 4000000 in
theorem partsOfSpots_calls (A : Option Addr) (xs : List (Nat × Nat × Nat)) (n c : Nat) (hxn : n = xs.length) (hn : n ≤ 1000) (w : World) (hr : RdS w A xs) :
    Calls Tryd.prog 44 #[.slice A n c] w (PrtO xs w) := by
  obtain ⟨i0, hi, hz0, hz1, hz2⟩ := info_parts infoF32
  have HX := Frame.hid hxn
  have HR := Frame.hid hr
  clear hxn hr
  go_enter Tryd.func44, Tryd.ntmps44
  go_wp2_with fail
  go_loopw [3, 8] (fun tv jv wr => ∃ k : Nat, k ≤ n ∧ jv = .int .i64 (k : Nat) ∧ OwnF wr w.heap.size tv (prtL (xs.take k)) ∧ Below w.heap.size w wr) (fun _ jv _ => n - (intOf jv).toNat)
  case atStart => exact ⟨0, Nat.zero_le _, rfl, ⟨rfl, .inl ⟨rfl, rfl⟩⟩, Below.refl _ _⟩
  case round =>
    obtain ⟨k, hk, rfl, hO, hB⟩ := hrel
    have HB := Frame.hid hB
    have hsz := hB.size
    by_cases hlt : k < n
    · obtain ⟨b, off, rfl, hb, hc⟩ := HR.out.h (by have := HX.out; omega)
      have h3 := (hc k (by have := HX.out; omega)).keep hB hb
      have hsn := prtL_take xs k (by have := HX.out; omega)
      obtain ⟨x, hx⟩ : ∃ x, x = sx xs k := ⟨_, rfl⟩
      obtain ⟨y, hy⟩ : ∃ y, y = sy xs k := ⟨_, rfl⟩
      obtain ⟨z, hz⟩ : ∃ z, z = sz xs k := ⟨_, rfl⟩
      rw [← hx, ← hy, ← hz] at h3 hsn
      have x0 := h3.c0
      have x1 := h3.c1
      have x2 := h3.c2
      have hbr : b < wr.heap.size := Nat.lt_of_lt_of_le hb hsz
      obtain ⟨ys, hys⟩ : ∃ ys, ys = prtL (xs.take k) := ⟨_, rfl⟩
      rw [← hys] at hO hsn
      have hyl : ys.length ≤ 3000 := by rw [hys, prtL_len, List.length_take]; omega
      obtain ⟨L, hL⟩ : ∃ L, L = ys.length := ⟨_, rfl⟩
      have hOL : wr.ownsRow w.heap.size 94 1 u3 L (fl ys) := by rw [hL]; exact hO
      rw [← hL] at hyl
      have HO := Frame.hid hOL
      have HL := Frame.hid hL
      have HSN := Frame.hid hsn
      have hlt3 : (k : Int) < (n : Int) := by omega
      have hk0 : (0 : Int) ≤ (k : Int) := by omega
      obtain ⟨tv, htv⟩ : ∃ tv, tv = u3 := ⟨_, rfl⟩
      subst htv
      clear hc h3 hx hy hz hys hO hOL hL hsn hB
      go_wp2_with (at_builtin; refine wpList_append_own _ rfl _ _ 82 rfl w.heap.size 94 i0 (.float .f32 0) 1 4 Tryd.underlying82 hi hz0 hz1 hz2 rfl (by decide) tv L (fl ys) rfl ?_ ⟨_, 0, none⟩ 3 3 [.float .f32 x, .float .f32 y, .float .f32 z] rfl rfl (news_three _ _ _ _ _ _ (by simp)) (one_three _ _ _) (by unfold maxLen; omega) (by omega) (by simp; omega) ?_; (· exact (HO.out.alloc _).alloc _); intro v' w3 hown' hgrow3 hnil3; obtain ⟨g', cap', rfl, hO2⟩ := own_app3 HL.out hown'; have HO2 := Frame.hid hO2; have HB3 := Frame.hid (Below.grown ((HB.out.alloc hsz _).alloc (by simp; omega) _) hgrow3 (by simp; omega) (fun k' hk' => (World.ownsRow.lt HO.out k' hk').1)); clear hown' hgrow3 hnil3 hO2)
      go_roundw
      case rel => exact ⟨k + 1, by omega, by go_num, by rw [HSN.out]; exact HO2.out, HB3.out⟩
      case measure => simp [intOf]; omega
    · have hkn : k = n := by omega
      subst hkn
      have he : prtL (xs.take k) = prtL xs := by rw [List.take_of_length_le (by rw [← HX.out]; exact Nat.le_refl _)]
      rw [he] at hO
      obtain ⟨A2, c2, rfl, hR2⟩ := hO.reads
      obtain ⟨L, hL⟩ : ∃ L, L = (prtL xs).length := ⟨_, rfl⟩
      rw [← hL]
      have HF : Hid (PrtO xs w (.returned (.slice A2 L c2)) wr) := Frame.hid ⟨_, _, _, rfl, hL, hR2, HB.out⟩
      clear hO hR2 he hL hB
      go_wp2_with fail
      go_ret
      exact HF.out

end Go.Proofs.YtnhpiebddelebabDoor
