/-
  Nets that come in: taken over into the program's own, counted, compared.
-/
import Derived.Test.YtnbgnaenlbphcaaN2
namespace Go.Proofs.Ytnbgnaenlbphcaa
open Go.RowKit Fl Go.WideShapes Go.Deep
attribute [local go_sem] kstore_f kalloc_drewN kset_drewN hstore_i hstore_s

theorem infoFacet : (Try.prog.info? 94).map (fun i => (i.zero, i.size, i.bytes)) = some (some (.agg #[.slice none 0 0]), 1, 24) := by kernel_rfl

set_option maxRecDepth 100000 in
set_option maxHeartbeats 2000000 in
theorem toFacet_calls (A : Option Addr) (xs : List Int) (n c : Nat) (hxn : n = xs.length) (w : World) (hn : n ≤ 1048576) (hr : RdJ w A xs) :
    Calls Try.prog 124 #[.agg #[.slice A n c]] w fun e w' => ∃ g, e = .returned (.agg #[.slice (some ⟨g, 0, none⟩) n n]) ∧ RdJ w' (some ⟨g, 0, none⟩) xs ∧ Below w.heap.size w w' ∧ w.heap.size < g := by
  have HC := Frame.hid (fun W (hW : Below w.heap.size w W) => by have h := toInt64J_calls A xs c W (by omega) (hr.below hW); unfold CopiedJ at h; rw [← hxn] at h; exact h : ∀ W, Below w.heap.size w W → Calls Try.prog 158 #[.slice A n c] W fun e w' => ∃ g, e = .returned (.slice (some ⟨g, 0, none⟩) n n) ∧ RdJ w' (some ⟨g, 0, none⟩) xs ∧ Below W.heap.size W w' ∧ W.heap.size ≤ g)
  clear hr hxn
  go_enter Try.func124, Try.ntmps124
  go_wp2_with (go_at_call 158; refine (HC.out _ (by (apply bel_of; (repeat (first | apply below_dn | apply below_al)); exact below_st _))).mono ?_; rintro e w' ⟨g, rfl, hR, hB, hg⟩; have hc := rd_of hB; have hz := fz_of hB; have hs := sz_of hB)
  have hg' : w.heap.size + 1 + 1 < g := by simp at hg; omega
  have k0 : w'.cell? ⟨w.heap.size + 1, 0, none⟩ = some (.slice none 0 0) := by rw [hc _ _ (by simp)]; simp [go_sem]
  have hne : (⟨w.heap.size + 1 + 1, 0, none⟩ : Addr) ≠ ⟨w.heap.size + 1, 0, none⟩ := fun e => by injection e with e1; omega
  have e0 : ((w'.setCell ⟨w.heap.size + 1 + 1, 0, none⟩ (.slice (some ⟨g, 0, none⟩) n n)).setCell ⟨w.heap.size + 1, 0, none⟩ (.slice (some ⟨g, 0, none⟩) n n)).cell? ⟨w.heap.size + 1, 0, none⟩ = some (.slice (some ⟨g, 0, none⟩) n n) := World.cell?_setCell_same' _ _ _ (by rw [World.cell?_setCell_other _ _ _ _ hne, k0]; rfl)
  refine bodyPost_ret (v := .agg #[.slice (some ⟨g, 0, none⟩) n n]) (by simp [results, Try.results124, go_sem, e0]) rfl ⟨g, rfl, ?_, ?_, by omega⟩
  · exact (hR.setO (by omega)).setO (by omega)
  · exact (below_sc (by simp) (below_sc (by simp; omega) (below_ch (below_al _ (below_al _ (below_al _ (below_st _)))) hB rfl) _) _).2

/-- Facets copied so far. -/
structure CopyF (w : World) (g n : Nat) (fs : List (List Int)) (k : Nat) (wr : World) : Prop where
  r : ∃ cs : Array Value, wr.heap[g]? = some (.cells cs 94 (0, 0)) ∧ cs.size = n ∧ ∀ j, j < k → ∃ gj, cs[j]? = some (.slice (some ⟨gj, 0, none⟩) (crn fs j).length (crn fs j).length) ∧ g < gj ∧ RdJ wr (some ⟨gj, 0, none⟩) (crn fs j)
  l : Below w.heap.size w wr
theorem CopyF.go {w wr w' : World} {g n k : Nat} {fs : List (List Int)} (h : CopyF w g n fs k wr) (hB : Below wr.heap.size wr w') : CopyF w g n fs k w' := by
  obtain ⟨cs, h1, h2, h3⟩ := h.r
  refine ⟨⟨cs, by rw [hB.block g (Array.getElem?_eq_some_iff.1 h1).1]; exact h1, h2, fun j hj => ?_⟩, h.l.trans (hB.mono h.l.size)⟩
  obtain ⟨gj, a, b, c⟩ := h3 j hj
  exact ⟨gj, a, b, c.below hB⟩
theorem CopyF.here {w wr : World} {g n k : Nat} {fs : List (List Int)} (h : CopyF w g n fs k wr) (hk : k < n) : (∃ u, wr.cell? ⟨g, k, none⟩ = some u) ∧ (∀ i, wr.frozen? ⟨g, i, none⟩ = false) ∧ g < wr.heap.size := by
  obtain ⟨cs, h1, h2, h3⟩ := h.r
  refine ⟨⟨cs[k]'(by omega), ?_⟩, fun i => by simp [World.frozen?, h1], (Array.getElem?_eq_some_iff.1 h1).1⟩
  rw [cell_of_row wr g k cs _ (0, 0) h1, Array.getElem?_eq_getElem]
theorem CopyF.step {w wr : World} {g n k gk m : Nat} {fs : List (List Int)} (h : CopyF w g n fs k wr) (hg : w.heap.size ≤ g) (hk : k < n) (hm : m = (crn fs k).length) (hgk : g < gk) (hr : RdJ wr (some ⟨gk, 0, none⟩) (crn fs k)) :
    CopyF w g n fs (k + 1) (wr.setCell ⟨g, k, none⟩ (.slice (some ⟨gk, 0, none⟩) m m)) := by
  subst hm
  obtain ⟨cs, h1, h2, h3⟩ := h.r
  refine ⟨⟨cs.setIfInBounds k (.slice (some ⟨gk, 0, none⟩) (crn fs k).length (crn fs k).length), by simp [World.setCell, Array.getElem?_modify, h1], by simpa using h2, fun j hj => ?_⟩, h.l.setCell (p := ⟨g, _, none⟩) hg _⟩
  by_cases he : j = k
  · subst he
    exact ⟨gk, by rw [Array.getElem?_setIfInBounds_self_of_lt (by omega)], hgk, hr.setO (by omega)⟩
  · obtain ⟨gj, a, b, c⟩ := h3 j (by omega)
    exact ⟨gj, by rw [Array.getElem?_setIfInBounds_ne (by omega)]; exact a, b, c.setO (by omega)⟩
/-- Facets that the call itself has made, in blocks from B on. -/
structure RdG (w : World) (B g : Nat) (fs : List (List Int)) : Prop where
  b : B ≤ g
  l : g < w.heap.size
  h : ∀ k, k < fs.length → ∃ gk, w.cell? ⟨g, k, none⟩ = some (.slice (some ⟨gk, 0, none⟩) (crn fs k).length (crn fs k).length) ∧ B ≤ gk ∧ RdJ w (some ⟨gk, 0, none⟩) (crn fs k)
theorem RdG.rd {w : World} {B g : Nat} {fs : List (List Int)} (h : RdG w B g fs) : RdF w (some ⟨g, 0, none⟩) fs := ⟨fun _ => ⟨g, 0, rfl, h.l, fun k hk => by
  obtain ⟨gk, h1, -, h2⟩ := h.h k hk
  exact ⟨_, _, by rw [Nat.zero_add]; exact h1, h2⟩⟩⟩
theorem RdG.below {w w' : World} {B g : Nat} {fs : List (List Int)} (h : RdG w B g fs) (hB : Below w.heap.size w w') : RdG w' B g fs := ⟨h.b, Nat.lt_of_lt_of_le h.l hB.size, fun k hk => by
  obtain ⟨gk, h1, h2, h3⟩ := h.h k hk
  exact ⟨gk, (hB.cell (p := ⟨g, k, none⟩) h.l).trans h1, h2, h3.below hB⟩⟩
theorem RdG.setO {w : World} {B g k i : Nat} {v : Value} {fs : List (List Int)} (h : RdG w B g fs) (hk : k < B) : RdG (w.setCell ⟨k, i, none⟩ v) B g fs := ⟨h.b, by simpa using h.l, fun j hj => by
  obtain ⟨gk, h1, h2, h3⟩ := h.h j hj
  have := h.b
  exact ⟨gk, by rw [World.cell?_setCell_other _ _ _ _ (fun e => by injection e with e1; omega)]; exact h1, h2, h3.setO (by omega)⟩⟩
theorem RdG.mono {w : World} {B B' g : Nat} {fs : List (List Int)} (h : RdG w B g fs) (hB : B' ≤ B) : RdG w B' g fs := ⟨Nat.le_trans hB h.b, h.l, fun k hk => by
  obtain ⟨gk, h1, h2, h3⟩ := h.h k hk
  exact ⟨gk, h1, Nat.le_trans hB h2, h3⟩⟩
theorem CopyF.done {w wr : World} {g n : Nat} {fs : List (List Int)} (h : CopyF w g n fs fs.length wr) (hg : w.heap.size ≤ g) : RdG wr w.heap.size g fs := by
  obtain ⟨cs, h1, h2, h3⟩ := h.r
  refine ⟨hg, (Array.getElem?_eq_some_iff.1 h1).1, fun k hk => ?_⟩
  obtain ⟨gj, a, b, c⟩ := h3 k hk
  exact ⟨gj, by rw [cell_of_row wr g _ cs _ (0, 0) h1]; exact a, by omega, c⟩

set_option maxRecDepth 100000 in
set_option maxHeartbeats 4000000 in
theorem toFacetS_calls (A : Option Addr) (fs : List (List Int)) (m c : Nat) (hm : m = fs.length) (hml : m ≤ 1048576) (hfl : ∀ k, k < m → (crn fs k).length ≤ 1048576) (w : World) (hr : RdF w A fs) :
    Calls Try.prog 67 #[.slice A m c] w fun e w' => ∃ g, e = .returned (.slice (some ⟨g, 0, none⟩) m m) ∧ RdG w' w.heap.size g fs ∧ Below w.heap.size w w' := by
  obtain ⟨i0, hi, hz0, hz1, hz2⟩ := info_parts infoFacet
  have HM := Frame.hid hm
  have HR := Frame.hid hr
  have HFL := Frame.hid hfl
  clear hm hr hfl
  go_enter Try.func67, Try.ntmps67
  go_wp2_with (at_make; refine wpList_make_full _ rfl _ _ 41 rfl w.heap.size 94 i0 (.agg #[.slice none 0 0]) 1 Try.underlying41 hi hz0 hz1 _ _ _ _ m rfl rfl rfl rfl ?c1 ?c2 ?c3 ?_)
  case c1 => rw [hz2]; omega
  case c2 => unfold maxLen; omega
  case c3 => simp
  intro w1 hown hgrow
  obtain ⟨g, hg⟩ : ∃ g, g = w.heap.size := ⟨_, rfl⟩
  have hblk : CopyF w g m fs 0 w1 := by
    rcases hown.2 with ⟨h0, _⟩ | ⟨g', cap, cur, hv, _, hh, _, _, hsz, _⟩
    · cases h0
    · cases hv
      exact ⟨⟨cur, by rw [hg]; exact hh, by simpa using hsz, fun j hj => absurd hj (by omega)⟩, (Below.refl _ _).grown hgrow (Nat.le_refl _) (by simp)⟩
  rw [← hg]
  have HG := Frame.hid hg
  have HBK := Frame.hid hblk
  clear hown hgrow hblk hg hi hz0 hz1 hz2
  go_wp2
  go_loopw [4] (fun iv wr => ∃ k : Nat, k ≤ m ∧ iv = .int .i64 k ∧ CopyF w g m fs k wr) (fun iv _ => m - (intOf iv).toNat)
  case atStart => exact ⟨0, Nat.zero_le _, rfl, HBK.out⟩
  case round =>
    obtain ⟨k, hk, rfl, hC⟩ := hrel
    have HC := Frame.hid hC
    clear hC
    by_cases hlt : k < m
    · obtain ⟨b, off, rfl, hb, hc⟩ := HR.out.h (by have := HM.out; omega)
      obtain ⟨Ak, ck, c0, hrj⟩ := hc k (by have := HM.out; omega)
      have hrj' : RdJ wr Ak (crn fs k) := hrj.below HC.out.l
      have c1 := (HC.out.l.cell (p := ⟨b, off + k, none⟩) hb).trans c0
      obtain ⟨n, hn⟩ : ∃ n, n = (crn fs k).length := ⟨_, rfl⟩
      rw [← hn] at c1
      have HTF := Frame.hid (toFacet_calls Ak (crn fs k) n ck hn wr (by rw [hn]; exact HFL.out k hlt) hrj')
      have HN := Frame.hid hn
      clear hc c0 hn hrj hrj'
      go_wp2_with fail
      refine HTF.out.mono ?_
      rintro e w2 ⟨gk, rfl, hRk, hB2, hgk⟩
      have hC2 := HC.out.go hB2
      obtain ⟨⟨u0, k0⟩, kf, kl⟩ := hC2.here hlt
      have hglt : g < gk := by have := (HC.out.here hlt).2.2; omega
      have HST := Frame.hid (hC2.step (Nat.le_of_eq HG.out.symm) hlt HN.out hglt hRk)
      clear hRk hB2 hgk hC2 c1
      go_wp2_with fail
      go_roundw
      case rel => exact ⟨k + 1, by omega, by go_num, HST.out⟩
      case measure => simp [intOf]; omega
    · have hkm : k = fs.length := by have := HM.out; omega
      have HD : Hid (RdG wr w.heap.size g fs) := Frame.hid (by have h := HC.out; rw [hkm] at h; exact h.done (Nat.le_of_eq HG.out.symm))
      clear hkm
      go_wp2
      go_ret
      exact ⟨g, rfl, HD.out, HC.out.l⟩

set_option maxRecDepth 100000 in
set_option maxHeartbeats 4000000 in
theorem toNet_calls (A B : Option Addr) (xs : List (Nat × Nat × Nat)) (fs : List (List Int)) (n m c d : Nat) (hxn : n = xs.length) (hn : n ≤ 1048576) (hm : m = fs.length) (hml : m ≤ 1048576) (hfl : ∀ k, k < m → (crn fs k).length ≤ 1048576) (w : World) (hr : RdS w A xs) (hf : RdF w B fs) :
    Calls Try.prog 24 #[.agg #[.slice A n c, .slice B m d]] w fun e w' => ∃ g h, e = .returned (.agg #[.slice (some ⟨g, 0, none⟩) n n, .slice (some ⟨h, 0, none⟩) m m]) ∧ RdS w' (some ⟨g, 0, none⟩) xs ∧ RdG w' w.heap.size h fs ∧ Below w.heap.size w w' ∧ w.heap.size ≤ g := by
  have HC := Frame.hid (fun W (hW : Below w.heap.size w W) => by have h := toSpotS_calls A xs c W (by omega) (hr.below hW); unfold CopiedS at h; rw [← hxn] at h; exact h : ∀ W, Below w.heap.size w W → Calls Try.prog 49 #[.slice A n c] W fun e w' => ∃ g, e = .returned (.slice (some ⟨g, 0, none⟩) n n) ∧ RdS w' (some ⟨g, 0, none⟩) xs ∧ Below W.heap.size W w' ∧ W.heap.size ≤ g)
  have HF := Frame.hid (fun W (hW : Below w.heap.size w W) => toFacetS_calls B fs m d hm hml hfl W (hf.below hW))
  clear hr hf hxn hm hfl
  go_enter Try.func24, Try.ntmps24
  go_wp2_with fail
  have hb3 : Below w.heap.size w (((w.alloc (.cells #[.slice A n c, .slice B m d] 38)).alloc (.cells #[.slice none 0 0, .slice none 0 0] 43)).alloc (.cells #[.slice none 0 0, .slice none 0 0] 43)) := (below_al _ (below_al _ (below_al _ (below_st _)))).2
  refine (HC.out _ hb3).mono ?_
  rintro e w1 ⟨g, rfl, hR, hB1, hg⟩
  have hs1 := hB1.size
  have hg' : w.heap.size + 1 + 1 < g := by simp at hg; omega
  have p0 : w1.cell? ⟨w.heap.size, 0, none⟩ = some (.slice A n c) := (hB1.cell (p := ⟨w.heap.size, 0, none⟩) (by simp only [World.size_alloc]; omega)).trans (by simp [go_sem])
  have p1 : w1.cell? ⟨w.heap.size, 1, none⟩ = some (.slice B m d) := (hB1.cell (p := ⟨w.heap.size, 1, none⟩) (by simp only [World.size_alloc]; omega)).trans (by simp [go_sem])
  have r0 : w1.cell? ⟨w.heap.size + 1, 0, none⟩ = some (.slice none 0 0) := (hB1.cell (p := ⟨w.heap.size + 1, 0, none⟩) (by simp only [World.size_alloc]; omega)).trans (by simp [go_sem])
  have r1 : w1.cell? ⟨w.heap.size + 1, 1, none⟩ = some (.slice none 0 0) := (hB1.cell (p := ⟨w.heap.size + 1, 1, none⟩) (by simp only [World.size_alloc]; omega)).trans (by simp [go_sem])
  have rf : ∀ i, w1.frozen? ⟨w.heap.size + 1, i, none⟩ = false := fun i => (hB1.frozen (p := ⟨w.heap.size + 1, i, none⟩) (by simp only [World.size_alloc]; omega)).trans ((((Below.refl _ _).alloc (Nat.le_refl _) _ : Below ((w.alloc (.cells #[.slice A n c, .slice B m d] 38)).alloc (.cells #[.slice none 0 0, .slice none 0 0] 43)).heap.size _ _).frozen (p := ⟨w.heap.size + 1, i, none⟩) (by simp)).trans (by simp [go_sem]))
  have o0 : w1.cell? ⟨w.heap.size + 1 + 1, 0, none⟩ = some (.slice none 0 0) := (hB1.cell (p := ⟨w.heap.size + 1 + 1, 0, none⟩) (by simp only [World.size_alloc]; omega)).trans (by simp [go_sem])
  have o1 : w1.cell? ⟨w.heap.size + 1 + 1, 1, none⟩ = some (.slice none 0 0) := (hB1.cell (p := ⟨w.heap.size + 1 + 1, 1, none⟩) (by simp only [World.size_alloc]; omega)).trans (by simp [go_sem])
  have of : ∀ i, w1.frozen? ⟨w.heap.size + 1 + 1, i, none⟩ = false := fun i => (hB1.frozen (p := ⟨w.heap.size + 1 + 1, i, none⟩) (by simp only [World.size_alloc]; omega)).trans (by simp [go_sem])
  have hl1 : w.heap.size + 1 + 1 < w1.heap.size := by simp at hs1; omega
  have hne0 : ∀ i j, (⟨w.heap.size + 1 + 1, j, none⟩ : Addr) ≠ ⟨w.heap.size, i, none⟩ := fun i j e => by injection e with e1; omega
  have hne1 : ∀ i j, (⟨w.heap.size + 1 + 1, j, none⟩ : Addr) ≠ ⟨w.heap.size + 1, i, none⟩ := fun i j e => by injection e with e1; omega
  have hB2 : Below w.heap.size w (w1.setCell ⟨w.heap.size + 1 + 1, 0, none⟩ (.slice (some ⟨g, 0, none⟩) n n)) := (hb3.trans (hB1.mono hb3.size)).setCell (p := ⟨w.heap.size + 1 + 1, 0, none⟩) (by simp; omega) _
  have HR := Frame.hid (hR.set (k := w.heap.size + 1 + 1) (i := 0) (v := .slice (some ⟨g, 0, none⟩) n n) (by omega))
  have HB2 := Frame.hid hB2
  clear hR hB1 hB2 hb3 hg hs1
  go_wp2_with fail
  refine (HF.out _ HB2.out).mono ?_
  rintro e w3 ⟨h, rfl, hG, hB3⟩
  have hs3 := hB3.size
  simp only [World.size_setCell] at hs3
  have hc : ∀ b i, b < w1.heap.size → w3.cell? ⟨b, i, none⟩ = (w1.setCell ⟨w.heap.size + 1 + 1, 0, none⟩ (.slice (some ⟨g, 0, none⟩) n n)).cell? ⟨b, i, none⟩ := fun b i hb => hB3.cell (p := ⟨b, i, none⟩) (by simpa using hb)
  have hz : ∀ b i, b < w1.heap.size → w3.frozen? ⟨b, i, none⟩ = w1.frozen? ⟨b, i, none⟩ := fun b i hb => (hB3.frozen (p := ⟨b, i, none⟩) (by simpa using hb)).trans (World.frozen?_setCell _ _ _ _)
  have a0 : w3.cell? ⟨w.heap.size + 1 + 1, 0, none⟩ = some (.slice (some ⟨g, 0, none⟩) n n) := (hc _ _ hl1).trans (World.cell?_setCell_same' _ _ _ (by rw [o0]; rfl))
  have a1 : w3.cell? ⟨w.heap.size + 1 + 1, 1, none⟩ = some (.slice none 0 0) := (hc _ _ hl1).trans (by rw [World.cell?_setCell_other _ _ _ _ (by simp)]; exact o1)
  have b0 : w3.cell? ⟨w.heap.size + 1, 0, none⟩ = some (.slice none 0 0) := (hc _ _ (by omega)).trans (by rw [World.cell?_setCell_other _ _ _ _ (hne1 _ _)]; exact r0)
  have b1' : w3.cell? ⟨w.heap.size + 1, 1, none⟩ = some (.slice none 0 0) := (hc _ _ (by omega)).trans (by rw [World.cell?_setCell_other _ _ _ _ (hne1 _ _)]; exact r1)
  have bf : ∀ i, w3.frozen? ⟨w.heap.size + 1, i, none⟩ = false := fun i => (hz _ _ (by omega)).trans (rf i)
  have af : ∀ i, w3.frozen? ⟨w.heap.size + 1 + 1, i, none⟩ = false := fun i => (hz _ _ (by omega)).trans (of i)
  have hl3 : w.heap.size + 1 + 1 < w3.heap.size := by omega
  have HR3 := Frame.hid (HR.out.below hB3)
  have HB3 := Frame.hid (HB2.out.trans (hB3.mono HB2.out.size))
  have HG3 := Frame.hid (hG.mono (B' := w1.heap.size) (by simp))
  clear hc hz hG hB3 p0 p1 r0 r1 rf o0 o1 of hs3 hne0
  have c0 : (w3.setCell ⟨w.heap.size + 1 + 1, 1, none⟩ (.slice (some ⟨h, 0, none⟩) m m)).cell? ⟨w.heap.size + 1, 0, none⟩ = some (.slice none 0 0) := by rw [World.cell?_setCell_other _ _ _ _ (hne1 _ _)]; exact b0
  have c1 : (w3.setCell ⟨w.heap.size + 1 + 1, 1, none⟩ (.slice (some ⟨h, 0, none⟩) m m)).cell? ⟨w.heap.size + 1, 1, none⟩ = some (.slice none 0 0) := by rw [World.cell?_setCell_other _ _ _ _ (hne1 _ _)]; exact b1'
  have e0 : (((w3.setCell ⟨w.heap.size + 1 + 1, 1, none⟩ (.slice (some ⟨h, 0, none⟩) m m)).setCell ⟨w.heap.size + 1, 0, none⟩ (.slice (some ⟨g, 0, none⟩) n n)).setCell ⟨w.heap.size + 1, 1, none⟩ (.slice (some ⟨h, 0, none⟩) m m)).cell? ⟨w.heap.size + 1, 0, none⟩ = some (.slice (some ⟨g, 0, none⟩) n n) := by
    rw [World.cell?_setCell_other _ _ _ _ (by simp)]
    exact World.cell?_setCell_same' _ _ _ (by rw [c0]; rfl)
  have e1 : (((w3.setCell ⟨w.heap.size + 1 + 1, 1, none⟩ (.slice (some ⟨h, 0, none⟩) m m)).setCell ⟨w.heap.size + 1, 0, none⟩ (.slice (some ⟨g, 0, none⟩) n n)).setCell ⟨w.heap.size + 1, 1, none⟩ (.slice (some ⟨h, 0, none⟩) m m)).cell? ⟨w.heap.size + 1, 1, none⟩ = some (.slice (some ⟨h, 0, none⟩) m m) :=
    World.cell?_setCell_same' _ _ _ (by rw [World.cell?_setCell_other _ _ _ _ (by simp), c1]; rfl)
  clear hne1
  go_wp2_with fail
  refine bodyPost_ret (v := .agg #[.slice (some ⟨g, 0, none⟩) n n, .slice (some ⟨h, 0, none⟩) m m]) (by simp [results, Try.results24, go_sem, e0, e1]) rfl ⟨g, h, rfl, ?_, ?_, ?_, by omega⟩
  · exact ((HR3.out.set (by omega)).set (by omega)).set (by omega)
  · exact (((HG3.out.setO (by omega)).setO (by omega)).setO (by omega)).mono (by omega)
  · exact ((HB3.out.setCell (p := ⟨w.heap.size + 1 + 1, 1, none⟩) (by simp; omega) _).setCell (p := ⟨w.heap.size + 1, 0, none⟩) (by simp) _).setCell (p := ⟨w.heap.size + 1, 1, none⟩) (by simp) _

end Go.Proofs.Ytnbgnaenlbphcaa
