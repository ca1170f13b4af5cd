/-
  EdgeOfSheet, the program's side: rows and columns.
-/
import Derived.Test.YtnbgnaenlbphcaaG5
import Derived.Test.YtnbgnaenlbphcaaK9
import Derived.Test.YtnbgnaenlbphcaaK2
import Derived.Deep.RegionLaw
namespace Go.Proofs.Ytnbgnaenlbphcaa
open Go.RowKit Fl Go.WideShapes Go.Deep
attribute [local go_sem] kstore_f kalloc_drewN kset_drewN hstore_i hstore_s

/-- A part of a list of spots. -/
def partL (xs : List (Nat × Nat × Nat)) (f : Nat → Nat) (m : Nat) : List (Nat × Nat × Nat) := (List.range m).map fun i => (sx xs (f i), sy xs (f i), sz xs (f i))
theorem partL_len (xs : List (Nat × Nat × Nat)) (f : Nat → Nat) (m : Nat) : (partL xs f m).length = m := by simp [partL]
theorem partL_get (xs : List (Nat × Nat × Nat)) (f : Nat → Nat) {m i : Nat} (hi : i < m) : sx (partL xs f m) i = sx xs (f i) ∧ sy (partL xs f m) i = sy xs (f i) ∧ sz (partL xs f m) i = sz xs (f i) := by
  have h : (partL xs f m).getD i (0, 0, 0) = (sx xs (f i), sy xs (f i), sz xs (f i)) := by
    rw [List.getD_eq_getElem?_getD]
    simp [partL, hi]
  refine ⟨?_, ?_, ?_⟩
  · show ((partL xs f m).getD i (0, 0, 0)).1 = _; rw [h]
  · show ((partL xs f m).getD i (0, 0, 0)).2.1 = _; rw [h]
  · show ((partL xs f m).getD i (0, 0, 0)).2.2 = _; rw [h]
theorem partL_next (xs : List (Nat × Nat × Nat)) (f : Nat → Nat) (k : Nat) : partL xs f (k + 1) = partL xs f k ++ [(sx xs (f k), sy xs (f k), sz xs (f k))] := by
  simp [partL, List.range_succ]
theorem partL_congr (xs : List (Nat × Nat × Nat)) {f g : Nat → Nat} {m : Nat} (h : ∀ i, i < m → f i = g i) : partL xs f m = partL xs g m := by
  unfold partL
  refine List.map_congr_left fun i hi => ?_
  rw [h i (List.mem_range.1 hi)]

/-- A slice of a slice reads as a part of the list. -/
theorem RdS.part {w : World} {b off : Nat} {xs : List (Nat × Nat × Nat)} (h : RdS w (some ⟨b, off, none⟩) xs) (lo m : Nat) (hm : lo + m ≤ xs.length) : RdS w (some ⟨b, off + lo * 3, none⟩) (partL xs (fun i => lo + i) m) := ⟨fun h0 => by
  rw [partL_len] at h0
  obtain ⟨b', off', e, hlt, hc⟩ := h.h (by omega)
  injection e with e
  injection e with e1 e2
  subst e1 e2
  refine ⟨b, off + lo * 3, rfl, hlt, fun j hj => ?_⟩
  rw [partL_len] at hj
  obtain ⟨g1, g2, g3⟩ := partL_get xs (fun i => lo + i) hj
  obtain ⟨c0, c1, c2⟩ := hc (lo + j) (by omega)
  have e0 : off + lo * 3 + j * 3 = off + (lo + j) * 3 := by omega
  refine ⟨?_, ?_, ?_⟩
  · rw [g1, e0]; exact c0
  · rw [g2, e0]; exact c1
  · rw [g3, e0]; exact c2⟩

set_option maxRecDepth 100000 in
set_option maxHeartbeats 4000000 in
theorem row_calls (bk off n p q j : Nat) (xs : List (Nat × Nat × Nat)) (hp : 2 ≤ p ∧ p ≤ 6) (hq : 2 ≤ q ∧ q ≤ 6) (hn : n = xs.length) (hl : n = p * q) (hj : j < q) (w : World) (hA : RdS w (some ⟨bk, off, none⟩) xs) :
    Calls Try.prog 63 #[.agg #[.int .i64 p, .int .i64 q, .slice (some ⟨bk, off, none⟩) n n], .int .i64 j] w fun e w' => ∃ v, e = .returned v ∧ OwnedS w' w.heap.size v (partL xs (fun i => j * p + i) p) ∧ Below w.heap.size w w' := by
  obtain ⟨lo, hlo⟩ : ∃ lo, lo = j * p := ⟨_, rfl⟩
  have hlp : lo + p ≤ n := by
    have : (j + 1) * p ≤ q * p := Nat.mul_le_mul_right p hj
    rw [Nat.succ_mul, Nat.mul_comm q p] at this
    omega
  have hn36 : n ≤ 36 := by rw [hl]; exact Nat.mul_le_mul hp.2 hq.2
  have hk1 : (j : Int) * (p : Int) = (lo : Int) := by rw [hlo]; push_cast; rfl
  have hk1w : IntKind.i64.wrap ((j : Int) * (p : Int)) = (lo : Int) := by rw [hk1, IntKind.wrap_i64]; omega
  have hk2w : IntKind.i64.wrap (((j : Int) + 1) * (p : Int)) = ((lo + p : Nat) : Int) := by rw [show ((j : Int) + 1) * (p : Int) = ((lo + p : Nat) : Int) by rw [hlo]; push_cast; rw [Int.add_mul, Int.one_mul], IntKind.wrap_i64]; omega
  have hk3w : IntKind.i64.wrap ((j : Int) + 1) = (j : Int) + 1 := by rw [IntKind.wrap_i64]; omega
  have hw : Below w.heap.size w (w.alloc (.cells #[.int .i64 p, .int .i64 q, .slice (some ⟨bk, off, none⟩) n n] 29)) := (Below.refl _ _).alloc (Nat.le_refl _) _
  have hpart := hA.part lo p (by rw [← hn]; exact hlp)
  have hlen := partL_len xs (fun i => lo + i) p
  have hcl := fun W (hB : Below w.heap.size w W) => by have h := cloneS_calls bk (off + lo * 3) (n - lo) (partL xs (fun i => lo + i) p) (by rw [hlen]; omega) (by rw [hlen]; omega) W (hpart.below hB); rw [hlen] at h; exact h
  rw [show (partL xs (fun i => j * p + i) p) = partL xs (fun i => lo + i) p by rw [hlo]]
  have HCL := Frame.hid hcl
  clear hk1 hpart hlen hcl hA hlo hl hn
  go_enter Try.func63, Try.ntmps63
  go_wp2_with fail
  refine (HCL.out _ hw).mono ?_
  rintro e w' ⟨v, rfl, hO, hB⟩
  have HO := Frame.hid hO
  have HB := Frame.hid (hw.trans (hB.mono hw.size))
  clear hO hB
  go_wp2_with fail
  go_ret
  exact ⟨v, rfl, HO.out.mono' hw.size, HB.out⟩

end Go.Proofs.Ytnbgnaenlbphcaa
