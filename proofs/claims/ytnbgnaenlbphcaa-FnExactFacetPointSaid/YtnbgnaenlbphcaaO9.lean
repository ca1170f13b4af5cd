/-
  Middles of facets: the program's spots of a facet, FacetPoint of the program.
-/
import Derived.Test.YtnbgnaenlbphcaaO8
namespace Go.Proofs.Ytnbgnaenlbphcaa
open Go.RowKit Fl Go.WideShapes Go.Deep
attribute [local go_sem] kstore_f kalloc_drewN kset_drewN hstore_i hstore_s

/-- The spots that numbers name. -/
def spotL (xs : List (Nat × Nat × Nat)) (f : List Int) : List (Nat × Nat × Nat) := f.map fun u => (sx xs u.toNat, sy xs u.toNat, sz xs u.toNat)
theorem spotL_len (xs : List (Nat × Nat × Nat)) (f : List Int) : (spotL xs f).length = f.length := by simp [spotL]
theorem spotL_next (xs : List (Nat × Nat × Nat)) (f : List Int) (i a : Nat) (hi : i < f.length) (ha : f.getD i 0 = (a : Int)) : spotL xs (f.take (i + 1)) = spotL xs (f.take i) ++ [(sx xs a, sy xs a, sz xs a)] := by
  unfold spotL
  have e : f[i] = (a : Int) := by rw [← ha]; simp [List.getD_eq_getElem?_getD, hi]
  rw [List.take_add_one, List.getElem?_eq_getElem hi, List.map_append, e]
  simp
theorem spotL_at (xs : List (Nat × Nat × Nat)) (f : List Int) (i a : Nat) (hi : i < f.length) (ha : f.getD i 0 = (a : Int)) : sx (spotL xs f) i = sx xs a ∧ sy (spotL xs f) i = sy xs a ∧ sz (spotL xs f) i = sz xs a := by
  have e : f[i] = (a : Int) := by rw [← ha]; simp [List.getD_eq_getElem?_getD, hi]
  simp [spotL, sx, sy, sz, List.getD_eq_getElem?_getD, hi, e]
theorem news3n (w : World) (x y z : Nat) (t : TypeId) : ∀ j u, (cellsS [(x, y, z)])[j]? = some u → (w.alloc (.cells #[.float .f32 x, .float .f32 y, .float .f32 z] t)).cell? ((⟨w.heap.size, 0, none⟩ : Addr).add j) = some u := by
  intro j u h
  rw [add_plain, Nat.zero_add, World.cell?_alloc_new]
  simpa [cellsS] using h

set_option maxRecDepth 100000 in
set_option maxHeartbeats 4000000 in
theorem spotsOf_calls (A : Option Addr) (g : Nat) (xs : List (Nat × Nat × Nat)) (fs : List (List Int)) (n m c d k : Nat) (hx : n = xs.length) (hm : m = fs.length) (hml : m ≤ 1048576) (hn : n ≤ 1048576) (hk : k < m) (hv : FacV n (crn fs k)) (w : World) (hA : RdS w A xs) (hK : RdK w g fs) :
    Calls Try.prog 92 #[.agg #[.slice A n c, .slice (some ⟨g, 0, none⟩) m d], .int .i64 k] w fun e w' => ∃ v, e = .returned v ∧ OwnedS w' w.heap.size v (spotL xs (crn fs k)) ∧ Below w.heap.size w w' := by
  obtain ⟨i0, hi, hz0, hz1, hz2⟩ := info_parts infoSpot
  have HX := Frame.hid hx
  have HM := Frame.hid hm
  have hBW := (Below.refl w.heap.size w).alloc (Nat.le_refl _) (.cells #[.slice A n c, .slice (some ⟨g, 0, none⟩) m d] 43)
  have HBW := Frame.hid hBW
  have hN := Nt2.here w (.slice A n c) (.slice (some ⟨g, 0, none⟩) m d) 43
  have HN := Frame.hid hN
  have HA := Frame.hid (hA.below hBW)
  obtain ⟨gk, ck, c1, _, c2⟩ := (hK.below hBW).h k (by omega)
  obtain ⟨f, hf⟩ : ∃ f, f = crn fs k := ⟨_, rfl⟩
  rw [← hf] at c1 c2 hv ⊢
  obtain ⟨p, hp⟩ : ∃ p, p = f.length := ⟨_, rfl⟩
  rw [← hp] at c1
  have HV := Frame.hid hv
  have HP := Frame.hid hp
  have HC2 := Frame.hid c2
  have h38 : 3 ≤ p ∧ p ≤ 8 := ⟨by rw [hp]; exact hv.1, by rw [hp]; exact hv.2.1⟩
  obtain ⟨b1, off, hAe, hb, hc⟩ := (hA.below hBW).h (by have := hv.2.2.1 0 (by omega); omega)
  have HC := Frame.hid hc
  subst hAe
  clear hx hm hBW hN hA hK hf hv hp c2 hc
  go_enter Try.func92, Try.ntmps92
  go_wp2
  obtain ⟨W0, hW0⟩ : ∃ W0, W0 = w.alloc (.cells #[.slice (some ⟨b1, off, none⟩) n c, .slice (some ⟨g, 0, none⟩) m d] 43) := ⟨_, rfl⟩
  rw [← hW0] at HBW HN HA HC2 hb HC c1 ⊢
  obtain ⟨g0, hg0⟩ : ∃ g0, g0 = w.heap.size := ⟨_, rfl⟩
  rw [← hg0] at HN ⊢
  have HG0 := Frame.hid hg0
  have hsz0 : W0.heap.size = w.heap.size + 1 := by rw [hW0]; simp
  have HS0 := Frame.hid hsz0
  clear hW0 hg0 hsz0 c1
  go_loopw [5, 15] (fun v iv wr => ∃ i : Nat, i ≤ p ∧ iv = .int .i64 i ∧ OwnedS wr W0.heap.size v (spotL xs (f.take i)) ∧ Below W0.heap.size W0 wr) (fun _ iv _ => p - (intOf iv).toNat)
  case atStart => exact ⟨0, Nat.zero_le _, rfl, World.ownsRow_nil _ _ _ _, Below.refl _ _⟩
  case round =>
    obtain ⟨i, hi', rfl, hO, hB⟩ := hrel
    have HO := Frame.hid hO
    have HB := Frame.hid hB
    by_cases hlt : i < p
    · have hil : i < f.length := by have := HP.out; omega
      have bd := HV.out.2.2.1 i hil
      obtain ⟨a, ha⟩ : ∃ a : Nat, f.getD i 0 = (a : Int) := ⟨(f.getD i 0).toNat, by omega⟩
      rw [ha] at bd
      have han : a < n := by omega
      have k1 := ((HC2.out.below hB).at0 hil).2
      rw [ha] at k1
      have k0 := (HN.out.below hB).c0
      have h3 := (HC.out a (by have := HX.out; omega)).keep hB hb
      have d0 := h3.c0
      have d1 := h3.c1
      have d2 := h3.c2
      have hnx := spotL_next xs f i a hil ha
      generalize sx xs a = x at *
      generalize sy xs a = y at *
      generalize sz xs a = z at *
      have HNX := Frame.hid hnx
      obtain ⟨l, hl⟩ : ∃ l, l = spotL xs (f.take i) := ⟨_, rfl⟩
      rw [← hl] at hO
      have HL := Frame.hid hl
      have hln : l.length = i := by rw [hl, spotL_len, List.length_take]; omega
      have hO1 := hO
      unfold OwnedS at hO1
      rw [hln] at hO1
      have HLN := Frame.hid hln
      have hsz := hB.size
      clear h3 hnx hl hO hB ha hil hln
      go_wp2_with (at_builtin; refine wpList_append_own _ rfl _ _ 27 rfl W0.heap.size 57 i0 (.agg #[.float .f32 0, .float .f32 0, .float .f32 0]) 3 12 Try.underlying27 hi hz0 hz1 hz2 rfl (by decide) _ _ _ rfl (hO1.alloc _) ⟨wr.heap.size, 0, none⟩ 1 1 (cellsS [(x, y, z)]) rfl rfl (news3n _ _ _ _ _) (cellsS_one _) (by unfold maxLen; omega) (by omega) (by simp; omega) ?_; intro v4 w4 hown4 hgrow4 hnil4; have HO4 : Hid (OwnedS w4 W0.heap.size v4 (l ++ [(x, y, z)])) := Frame.hid (by unfold OwnedS; rw [List.length_append, HLN.out, cellsS_append]; exact hown4); have HB4 : Hid (Below W0.heap.size W0 w4) := Frame.hid ((HB.out.alloc HB.out.size _).grown hgrow4 (by simp; omega) (fun k hk => (World.ownsRow.lt hO1 k hk).1)); clear hown4 hgrow4 hnil4 hO1)
      exact ⟨⟨i + 1, by omega, by go_num, by rw [HNX.out, ← HL.out]; exact HO4.out, HB4.out⟩, by simp [intOf]; omega⟩
    · have hip : i = p := by omega
      have HIP := Frame.hid hip
      clear hip hO hB
      go_wp2
      go_ret
      have h1 := HO.out
      rw [HIP.out, HP.out, List.take_length] at h1
      have hle : w.heap.size ≤ W0.heap.size := by have := HS0.out; omega
      refine ⟨_, rfl, ⟨h1.1, ?_⟩, HBW.out.trans (HB.out.mono hle)⟩
      rcases h1.2 with h2 | ⟨g', cap, cur, hv', hb', rest⟩
      · exact .inl h2
      · exact .inr ⟨g', cap, cur, hv', by omega, rest⟩

end Go.Proofs.Ytnbgnaenlbphcaa
