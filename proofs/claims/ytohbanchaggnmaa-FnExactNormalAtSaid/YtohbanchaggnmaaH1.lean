/-
  EdgeOfSheet, the program's side: rows and columns.
-/
import Derived.Test.YtohbanchaggnmaaG5
import Derived.Test.YtohbanchaggnmaaK9
import Derived.Test.YtohbanchaggnmaaK2
import Derived.Deep.RegionLaw
namespace Go.Proofs.Ytohbanchaggnmaa
open Go.RowKit Fl Go.WideShapes Go.Deep
attribute [local go_sem] kstore_f kalloc_drewN kset_drewN hstore_i hstore_s

/-- A part of a list of spots. -/
def partL (xs : List (Nat × Nat × Nat)) (f : Nat → Nat) (m : Nat) : List (Nat × Nat × Nat) := (List.range m).map fun i => (sx xs (f i), sy xs (f i), sz xs (f i))
theorem partL_len (xs : List (Nat × Nat × Nat)) (f : Nat → Nat) (m : Nat) : (partL xs f m).length = m := by simp [partL]
theorem partL_get (xs : List (Nat × Nat × Nat)) (f : Nat → Nat) {m i : Nat} (hi : i < m) : sx (partL xs f m) i = sx xs (f i) ∧ sy (partL xs f m) i = sy xs (f i) ∧ sz (partL xs f m) i = sz xs (f i) := by
  have h : (partL xs f m).getD i (0, 0, 0) = (sx xs (f i), sy xs (f i), sz xs (f i)) := by
    rw [List.getD_eq_getElem?_getD]
    simp [partL, hi]
  refine ⟨?_, ?_, ?_⟩
  · show ((partL xs f m).getD i (0, 0, 0)).1 = _; rw [h]
  · show ((partL xs f m).getD i (0, 0, 0)).2.1 = _; rw [h]
  · show ((partL xs f m).getD i (0, 0, 0)).2.2 = _; rw [h]
theorem partL_next (xs : List (Nat × Nat × Nat)) (f : Nat → Nat) (k : Nat) : partL xs f (k + 1) = partL xs f k ++ [(sx xs (f k), sy xs (f k), sz xs (f k))] := by
  simp [partL, List.range_succ]
theorem partL_congr (xs : List (Nat × Nat × Nat)) {f g : Nat → Nat} {m : Nat} (h : ∀ i, i < m → f i = g i) : partL xs f m = partL xs g m := by
  unfold partL
  refine List.map_congr_left fun i hi => ?_
  rw [h i (List.mem_range.1 hi)]

/-- A slice of a slice reads as a part of the list. -/
theorem RdS.part {w : World} {b off : Nat} {xs : List (Nat × Nat × Nat)} (h : RdS w (some ⟨b, off, none⟩) xs) (lo m : Nat) (hm : lo + m ≤ xs.length) : RdS w (some ⟨b, off + lo * 3, none⟩) (partL xs (fun i => lo + i) m) := ⟨fun h0 => by
  rw [partL_len] at h0
  obtain ⟨b', off', e, hlt, hc⟩ := h.h (by omega)
  injection e with e
  injection e with e1 e2
  subst e1 e2
  refine ⟨b, off + lo * 3, rfl, hlt, fun j hj => ?_⟩
  rw [partL_len] at hj
  obtain ⟨g1, g2, g3⟩ := partL_get xs (fun i => lo + i) hj
  obtain ⟨c0, c1, c2⟩ := hc (lo + j) (by omega)
  have e0 : off + lo * 3 + j * 3 = off + (lo + j) * 3 := by omega
  refine ⟨?_, ?_, ?_⟩
  · rw [g1, e0]; exact c0
  · rw [g2, e0]; exact c1
  · rw [g3, e0]; exact c2⟩

set_option maxRecDepth 100000 in
set_option maxHeartbeats 4000000 in
theorem row_calls (bk off n p q j : Nat) (xs : List (Nat × Nat × Nat)) (hp : 2 ≤ p ∧ p ≤ 6) (hq : 2 ≤ q ∧ q ≤ 6) (hn : n = xs.length) (hl : n = p * q) (hj : j < q) (w : World) (hA : RdS w (some ⟨bk, off, none⟩) xs) :
    Calls Try.prog 65 #[.agg #[.int .i64 p, .int .i64 q, .slice (some ⟨bk, off, none⟩) n n], .int .i64 j] w fun e w' => ∃ v, e = .returned v ∧ OwnedS w' w.heap.size v (partL xs (fun i => j * p + i) p) ∧ Below w.heap.size w w' := by
  obtain ⟨lo, hlo⟩ : ∃ lo, lo = j * p := ⟨_, rfl⟩
  have hlp : lo + p ≤ n := by
    have : (j + 1) * p ≤ q * p := Nat.mul_le_mul_right p hj
    rw [Nat.succ_mul, Nat.mul_comm q p] at this
    omega
  have hn36 : n ≤ 36 := by rw [hl]; exact Nat.mul_le_mul hp.2 hq.2
  have hk1 : (j : Int) * (p : Int) = (lo : Int) := by rw [hlo]; push_cast; rfl
  have hk1w : IntKind.i64.wrap ((j : Int) * (p : Int)) = (lo : Int) := by rw [hk1, IntKind.wrap_i64]; omega
  have hk2w : IntKind.i64.wrap (((j : Int) + 1) * (p : Int)) = ((lo + p : Nat) : Int) := by rw [show ((j : Int) + 1) * (p : Int) = ((lo + p : Nat) : Int) by rw [hlo]; push_cast; rw [Int.add_mul, Int.one_mul], IntKind.wrap_i64]; omega
  have hk3w : IntKind.i64.wrap ((j : Int) + 1) = (j : Int) + 1 := by rw [IntKind.wrap_i64]; omega
  have hw : Below w.heap.size w (w.alloc (.cells #[.int .i64 p, .int .i64 q, .slice (some ⟨bk, off, none⟩) n n] 33)) := (Below.refl _ _).alloc (Nat.le_refl _) _
  have hpart := hA.part lo p (by rw [← hn]; exact hlp)
  have hlen := partL_len xs (fun i => lo + i) p
  have hcl := fun W (hB : Below w.heap.size w W) => by have h := cloneS_calls bk (off + lo * 3) (n - lo) (partL xs (fun i => lo + i) p) (by rw [hlen]; omega) (by rw [hlen]; omega) W (hpart.below hB); rw [hlen] at h; exact h
  rw [show (partL xs (fun i => j * p + i) p) = partL xs (fun i => lo + i) p by rw [hlo]]
  have HCL := Frame.hid hcl
  clear hk1 hpart hlen hcl hA hlo hl hn
  go_enter Try.func65, Try.ntmps65
  go_wp2_with fail
  refine (HCL.out _ hw).mono ?_
  rintro e w' ⟨v, rfl, hO, hB⟩
  have HO := Frame.hid hO
  have HB := Frame.hid (hw.trans (hB.mono hw.size))
  clear hO hB
  go_wp2_with fail
  go_ret
  exact ⟨v, rfl, HO.out.mono' hw.size, HB.out⟩

set_option maxRecDepth 100000 in
set_option maxHeartbeats 4000000 in
theorem column_calls (bk off n p q i : Nat) (xs : List (Nat × Nat × Nat)) (hp : 2 ≤ p ∧ p ≤ 6) (hq : 2 ≤ q ∧ q ≤ 6) (hn : n = xs.length) (hl : n = p * q) (hi' : i < p) (w : World) (hA : RdS w (some ⟨bk, off, none⟩) xs) :
    Calls Try.prog 64 #[.agg #[.int .i64 p, .int .i64 q, .slice (some ⟨bk, off, none⟩) n n], .int .i64 i] w fun e w' => ∃ g, e = .returned (.slice (some ⟨g, 0, none⟩) q q) ∧ RdS w' (some ⟨g, 0, none⟩) (partL xs (fun j => j * p + i) q) ∧ OwS w' w.heap.size (.slice (some ⟨g, 0, none⟩) q q) q ∧ Below w.heap.size w w' := by
  obtain ⟨i0, hi, hz0, hz1, hz2⟩ := info_parts infoSpot
  have HX := Frame.hid hn
  have HLN := Frame.hid hl
  have HA := Frame.hid hA
  clear hn hl hA
  go_enter Try.func64, Try.ntmps64
  go_wp2_with (at_make; refine wpList_make_full _ rfl _ _ 31 rfl w.heap.size 28 i0 (.agg #[.float .f32 0, .float .f32 0, .float .f32 0]) 3 Try.underlying31 hi hz0 hz1 _ _ _ _ q rfl rfl rfl rfl ?c1 ?c2 ?c3 ?_)
  case c1 => rw [hz2]; omega
  case c2 => unfold maxLen; omega
  case c3 => simp
  intro w1 hown hgrow
  obtain ⟨w0, hw0⟩ : ∃ w0, w0 = w.alloc (.cells #[.int .i64 p, .int .i64 q, .slice (some ⟨bk, off, none⟩) n n] 33) := ⟨_, rfl⟩
  obtain ⟨g, hg⟩ : ∃ g, g = w.heap.size + 1 := ⟨_, rfl⟩
  have hs0 : w0.heap.size = g := by rw [hw0, hg]; simp
  have hS0 : Sh3 w0 w.heap.size p q (.slice (some ⟨bk, off, none⟩) n n) := by rw [hw0]; exact Sh3.here _ _ _ _ _
  have hB0 : Below w.heap.size w w0 := by rw [hw0]; exact (Below.refl _ _).alloc (Nat.le_refl _) _
  have hblk : Hid (CopyS w0 g q (partL xs (fun j => j * p + i) q) 0 w1) := by
    rcases hown.2 with ⟨h0, _⟩ | ⟨g', cap, cur, hv, _, hh, _, _, hsz, _⟩
    · cases h0
    · cases hv
      exact ⟨⟨cur, by rw [hg]; exact hh, by simpa using hsz, fun j hj => absurd hj (by omega)⟩, by rw [hw0]; exact (Below.refl _ _).grown hgrow (Nat.le_refl _) (by simp)⟩
  rw [← hg]
  have HGE := Frame.hid hg
  have HS0 := Frame.hid hS0
  have HB0 := Frame.hid hB0
  have HA0 := Frame.hid (HA.out.below hB0)
  have HZ0 := Frame.hid hs0
  clear hown hgrow hg hi hz0 hz1 hz2 hw0 hs0 hS0 hB0
  have hgl : w.heap.size < g := by have := HGE.out; omega
  have hpar : ∀ wr, Below w0.heap.size w0 wr → wr.cell? ⟨w.heap.size, 0, none⟩ = some (.int .i64 p) ∧ wr.cell? ⟨w.heap.size, 1, none⟩ = some (.int .i64 q) ∧ wr.cell? ⟨w.heap.size, 2, none⟩ = some (.slice (some ⟨bk, off, none⟩) n n) := fun wr h => by
    have h3 := HS0.out.below h
    exact ⟨h3.c0, h3.c1, h3.c2⟩
  have HPAR := Frame.hid hpar
  obtain ⟨m0, m1, m2⟩ := hpar _ hblk.out.l
  clear hpar
  go_wp2_with fail
  go_loopw [12] (fun jv wr => ∃ j : Nat, j ≤ q ∧ jv = .int .i64 j ∧ CopyS w0 g q (partL xs (fun j => j * p + i) q) j wr) (fun jv _ => q - (intOf jv).toNat)
  case atStart => exact ⟨0, Nat.zero_le _, rfl, hblk.out⟩
  case round =>
    obtain ⟨j, hj, rfl, hC⟩ := hrel
    by_cases hlt : j < q
    · obtain ⟨m, hm⟩ : ∃ m, m = j * p + i := ⟨_, rfl⟩
      have hmn : m < n := by
        rw [HLN.out, Nat.mul_comm p q]
        have : (j + 1) * p ≤ q * p := Nat.mul_le_mul_right p hlt
        rw [Nat.succ_mul] at this
        omega
      have hn36 : n ≤ 36 := by rw [HLN.out]; exact Nat.mul_le_mul hp.2 hq.2
      obtain ⟨s, hs⟩ : ∃ s, s = j * p := ⟨_, rfl⟩
      have hcl := fun W (hB : Below w0.heap.size w0 W) => spotAt_calls bk off n n xs HX.out p q i j s m hmn (by rw [show (j : Int) * (p : Int) = (s : Int) by rw [hs]; push_cast; rfl, IntKind.wrap_i64]; omega) (by rw [show (s : Int) + (i : Int) = (m : Int) by omega, IntKind.wrap_i64]; omega) W (HA0.out.below hB)
      obtain ⟨g1, g2, g3⟩ := partL_get xs (fun j => j * p + i) hlt
      rw [← hm] at g1 g2 g3
      obtain ⟨x, hx⟩ : ∃ x, x = sx xs m := ⟨_, rfl⟩
      obtain ⟨y, hy⟩ : ∃ y, y = sy xs m := ⟨_, rfl⟩
      obtain ⟨z, hz⟩ : ∃ z, z = sz xs m := ⟨_, rfl⟩
      rw [← hx, ← hy, ← hz] at hcl
      rw [← hx] at g1
      rw [← hy] at g2
      rw [← hz] at g3
      have HCL := Frame.hid hcl
      have HG := Frame.hid (And.intro g1 (And.intro g2 g3))
      have HC := Frame.hid hC
      obtain ⟨m0, m1, m2⟩ := HPAR.out _ hC.l
      clear hcl hx hy hz g1 g2 g3 hs hm hmn hn36 hC
      go_wp2_with (go_at_call 135; refine (HCL.out _ HC.out.l).mono ?_; rintro e w' ⟨rfl, hB⟩; have hC' := HC.out.go hB; have hh := hC'.here hlt; obtain ⟨⟨u0, k0⟩, ⟨u1, k1⟩, ⟨u2, k2⟩, kf, kl⟩ := hh; have HC' := Frame.hid hC'; clear hC' hB)
      go_roundw
      case rel =>
        refine ⟨j + 1, by omega, by go_num, ?_⟩
        obtain ⟨e1, e2, e3⟩ := HG.out
        have h := HC'.out.step (Nat.le_of_eq HZ0.out) hlt
        rw [e1, e2, e3] at h
        exact h
      case measure => simp [intOf]; omega
    · have hjq : j = q := by omega
      subst hjq
      have HC := Frame.hid hC
      clear hC
      go_wp2_with fail
      go_ret
      obtain ⟨cs, q1, q2, -⟩ := HC.out.r
      refine ⟨g, rfl, ?_, ⟨.inr ⟨g, _, cs, rfl, by omega, q1, by omega⟩⟩, HB0.out.trans (HC.out.l.mono HB0.out.size)⟩
      have := HC.out
      exact CopyS.done (by rw [partL_len]; exact this)

end Go.Proofs.Ytohbanchaggnmaa
