/-
  A source of numbers that a law draws from bytes, walked: whatever the bytes are, the numbers lie where they may.
-/
import Derived.Test.YtbdmmpkphiilkaaSc
import Derived.Test.YtbdmmpkphiilkaaOb
import Derived.Test.YtbdmmpkphiilkaaOw
import Derived.Laws.NewBlocks
import Derived.OwnWalk
namespace Go.Proofs.Ytbdmmpkphiilkaa
open Go.RowKit Fl

/-- Nothing but block g has turned of what was there. -/
structure Kept (g : Nat) (w w' : World) : Prop where
  os : w'.os = w.os
  tape : w'.tape = w.tape
  output : w'.output = w.output
  size : w.heap.size ≤ w'.heap.size
  block : ∀ b, b < w.heap.size → b ≠ g → w'.heap[b]? = w.heap[b]?
theorem Kept.refl (g : Nat) (w : World) : Kept g w w := ⟨rfl, rfl, rfl, Nat.le_refl _, fun _ _ _ => rfl⟩
theorem Kept.trans {g : Nat} {a b c : World} (h : Kept g a b) (k : Kept g b c) : Kept g a c :=
  ⟨k.os.trans h.os, k.tape.trans h.tape, k.output.trans h.output, Nat.le_trans h.size k.size, fun i hi hg => (k.block i (Nat.lt_of_lt_of_le hi h.size) hg).trans (h.block i hi hg)⟩
theorem Kept.below {g B : Nat} {a b c : World} (h : Below B a b) (k : Kept g b c) (hg : B ≤ g) (hB : B ≤ b.heap.size) : Below B a c :=
  h.trans ⟨k.os, k.tape, k.output, k.size, fun i hi => k.block i (Nat.lt_of_lt_of_le hi hB) (by omega)⟩
theorem Kept.drewN {g : Nat} {a b : World} (h : Kept g a b) (n : Nat) : Kept g a (b.drewN n) := ⟨h.os, h.tape, h.output, h.size, h.block⟩
theorem Kept.drew {g : Nat} {a b : World} (h : Kept g a b) : Kept g a b.drew := ⟨h.os, h.tape, h.output, h.size, h.block⟩
theorem Kept.setCell {g : Nat} {a b : World} (h : Kept g a b) (i : Nat) (u : Value) : Kept g a (b.setCell ⟨g, i, none⟩ u) :=
  h.trans ⟨rfl, rfl, rfl, by simp [World.setCell], fun k _ hk => Below.heap_setCell b ⟨g, i, none⟩ u k hk⟩
theorem Kept.alloc {g : Nat} {a b : World} (h : Kept g a b) (o : Obj) : Kept g a (b.alloc o) :=
  h.trans ⟨rfl, rfl, rfl, by simp, fun k hk _ => Below.heap_alloc b o k hk⟩
theorem OwnF.keptBy {w w' : World} {base g0 n cap : Nat} {g : Nat} {ys : List Nat} (h : OwnF w base (.slice (some ⟨g0, 0, none⟩) n cap) ys) (hk : Kept g w w') (hne : g0 ≠ g) : OwnF w' base (.slice (some ⟨g0, 0, none⟩) n cap) ys := by
  refine ⟨h.1, ?_⟩
  rcases h.2 with hn | ⟨g1, cap', cur, hv, hbg, hg, rest⟩
  · exact .inl hn
  · refine .inr ⟨g1, cap', cur, hv, hbg, ?_, rest⟩
    have e : g0 = g1 := by injection hv with h1; injection h1 with h1; injection h1
    rw [hk.block g1 (Array.getElem?_eq_some_iff.1 hg).1 (by omega)]
    exact hg

/-- The source in block g: it reads the bytes zs, and has taken k of them (or more than there are). -/
def Srce (w0 : World) (A : Option Addr) (zs : List Nat) (c g k : Nat) (w : World) : Prop :=
  (∃ seed : Int, w.heap[g]? = some (.cells #[.slice A zs.length c, .int .i64 (k : Int), .int .u64 seed] 96 (0, 0))) ∧ w0.heap.size ≤ g ∧ RdB w0 A zs ∧ Below w0.heap.size w0 w ∧ zs.length ≤ 1048576
theorem Srce.drewN {w0 : World} {A : Option Addr} {zs : List Nat} {c g k : Nat} {w : World} (h : Srce w0 A zs c g k w) (n : Nat) : Srce w0 A zs c g k (w.drewN n) := ⟨h.1, h.2.1, h.2.2.1, below_drewN h.2.2.2.1 n, h.2.2.2.2⟩
theorem Srce.alloc {w0 : World} {A : Option Addr} {zs : List Nat} {c g k : Nat} {w : World} (h : Srce w0 A zs c g k w) (o : Obj) : Srce w0 A zs c g k (w.alloc o) := by
  obtain ⟨⟨seed, h1⟩, h2, h3, h4, h5⟩ := h
  refine ⟨⟨seed, ?_⟩, h2, h3, h4.alloc h4.size o, h5⟩
  rw [Below.heap_alloc w o g (Array.getElem?_eq_some_iff.1 h1).1]
  exact h1

def lowB (z : Int) : Nat := (z % 256).toNat
theorem lowB_lt (z : Int) : lowB z < 256 := by unfold lowB; omega
theorem and255 (z : Int) : bits .and .u64 z 255 = ((lowB z : Nat) : Int) := by
  have h15 : (BitVec.ofInt 64 255).toNat = 2 ^ 8 - 1 := by decide
  have key : (BitVec.ofInt 64 z &&& BitVec.ofInt 64 255).toNat = (z % ((2 ^ 64 : Nat) : Int)).toNat % 2 ^ 8 := by
    rw [BitVec.toNat_and, BitVec.toNat_ofInt, h15, Nat.and_two_pow_sub_one_eq_mod]
  show IntKind.u64.wrap ((BitVec.ofInt 64 z &&& BitVec.ofInt 64 255).toNat : Nat) = _
  rw [key, IntKind.wrap_u64]
  unfold lowB
  omega

theorem lowB_wrap (z : Int) : wrap64 ((lowB z : Nat) : Int) = ((lowB z : Nat) : Int) := by
  have := lowB_lt z
  unfold wrap64
  omega

theorem set_two {w : World} {g : Nat} {a b c u v : Value} {t : TypeId} (h : w.heap[g]? = some (.cells #[a, b, c] t (0, 0))) : ((w.setCell ⟨g, 1, none⟩ u).setCell ⟨g, 2, none⟩ v).heap[g]? = some (.cells #[a, u, v] t (0, 0)) := by
  simp [World.setCell, Array.getElem?_modify, h]

set_option maxRecDepth 100000 in
set_option maxHeartbeats 2000000 in
theorem next_calls (w0 : World) (A : Option Addr) (zs : List Nat) (c g k : Nat) (hk : k ≤ 1099511627776) (w : World) (h : Srce w0 A zs c g k w) :
    Calls Try.prog 87 #[.pointer (some ⟨g, 0, none⟩)] w fun e w' => ∃ b : Nat, b < 256 ∧ e = .returned (.int .i64 (b : Int)) ∧ Srce w0 A zs c g (k + 1) w' ∧ Kept g w w' := by
  obtain ⟨⟨seed, hg⟩, h2, h3, h4, h5⟩ := h
  have c0 : w.cell? ⟨g, 0, none⟩ = some (.slice A zs.length c) := by rw [cell_of_row w g 0 _ _ (0, 0) hg]; rfl
  have c1 : w.cell? ⟨g, 1, none⟩ = some (.int .i64 (k : Int)) := by rw [cell_of_row w g 1 _ _ (0, 0) hg]; rfl
  have c2 : w.cell? ⟨g, 2, none⟩ = some (.int .u64 seed) := by rw [cell_of_row w g 2 _ _ (0, 0) hg]; rfl
  have f1 : w.frozen? ⟨g, 1, none⟩ = false := by simp [World.frozen?, hg]
  have f2 : w.frozen? ⟨g, 2, none⟩ = false := by simp [World.frozen?, hg]
  obtain ⟨n, hn⟩ : ∃ n, n = zs.length := ⟨_, rfl⟩
  rw [← hn] at c0
  have HN := Frame.hid hn
  have HG := Frame.hid hg
  have H2 := Frame.hid h2
  have H3 := Frame.hid h3
  have H4 := Frame.hid h4
  have H5 := Frame.hid h5
  have hand := and255
  have hwr := lowB_wrap
  by_cases hlt : k < n
  · obtain ⟨b, off, rfl, hb, hc⟩ := h3 (by omega)
    obtain ⟨d1, d2⟩ := hc k (by omega)
    have hcell : w.cell? ⟨b, off + k, none⟩ = some (.int .u8 ((zs.getD k 0 : Nat) : Int)) := (h4.cell (p := ⟨b, off + k, none⟩) hb).trans d1
    generalize zs.getD k 0 = z at hcell d2
    clear hg h2 h3 h4 h5 hn hc d1 hb
    go_enter Try.func87, Try.ntmps87
    go_wp2
    go_region
    go_wp2
    go_region
    go_wp2
    go_region
    go_wp2
    go_ret
    exact ⟨z, d2, rfl, ⟨⟨_, set_two HG.out⟩, H2.out, H3.out, ((H4.out.setCell (p := ⟨g, _, none⟩) H2.out _).setCell (p := ⟨g, _, none⟩) H2.out _).drew.drew.drew, H5.out⟩, (((Kept.refl g w).setCell _ _).setCell _ _).drew.drew.drew⟩
  · clear hg h2 h3 h4 h5 hn
    go_enter Try.func87, Try.ntmps87
    go_wp2
    go_region
    go_wp2
    go_region
    go_wp2
    go_ret
    exact ⟨_, lowB_lt _, congrArg (fun z => Ending.returned (Value.int IntKind.i64 z)) (lowB_wrap _), ⟨⟨_, set_two HG.out⟩, H2.out, H3.out, ((H4.out.setCell (p := ⟨g, _, none⟩) H2.out _).setCell (p := ⟨g, _, none⟩) H2.out _).drew.drew, H5.out⟩, (((Kept.refl g w).setCell _ _).setCell _ _).drew.drew⟩

theorem ret_rem (x n : Nat) : Ending.returned (Value.int IntKind.i64 ((x : Int) % (n : Int))) = .returned (.int .i64 ((x % n : Nat) : Int)) := by rw [Int.natCast_emod]

set_option maxRecDepth 100000 in
set_option maxHeartbeats 2000000 in
theorem pick_calls (w0 : World) (A : Option Addr) (zs : List Nat) (c g k n : Nat) (hn2 : 2 ≤ n) (hn3 : n ≤ 65536) (hk : k ≤ 1000000000) (w : World) (h : Srce w0 A zs c g k w) :
    Calls Try.prog 44 #[.pointer (some ⟨g, 0, none⟩), .int .i64 (n : Int)] w fun e w' => ∃ r k' : Nat, r < n ∧ k' ≤ k + 2 ∧ e = .returned (.int .i64 (r : Int)) ∧ Srce w0 A zs c g k' w' ∧ Kept g w w' := by
  have H := Frame.hid h
  clear h
  by_cases hb : n ≤ 200
  · go_enter Try.func44, Try.ntmps44
    go_wp2_with fail
    refine (next_calls w0 A zs c g k (by omega) _ H.out).mono ?_
    rintro e w1 ⟨b, hb1, rfl, hS, hK⟩
    have HS := Frame.hid hS
    have HK := Frame.hid hK
    clear hS hK
    go_wp2_with fail
    go_ret
    exact ⟨b % n, k + 1, Nat.mod_lt _ (by omega), by omega, ret_rem _ _, HS.out, HK.out⟩
  · have hb2 : 200 < n := by omega
    clear hb
    go_enter Try.func44, Try.ntmps44
    go_wp2_with fail
    refine (next_calls w0 A zs c g k (by omega) _ H.out).mono ?_
    rintro e w1 ⟨b, hb1, rfl, hS, hK⟩
    have HS := Frame.hid hS
    have HK := Frame.hid hK
    clear hS hK
    go_wp2_with fail
    refine (next_calls w0 A zs c g (k + 1) (by omega) _ HS.out).mono ?_
    rintro e w2 ⟨b', hb2', rfl, hS2, hK2⟩
    have HS2 := Frame.hid hS2
    have HK2 := Frame.hid (HK.out.trans hK2)
    clear hS2 hK2
    have hx : (b : Int) * 256 + (b' : Int) = ((b * 256 + b' : Nat) : Int) := by push_cast; rfl
    have hx2 : b * 256 + b' < 65536 := by omega
    generalize b * 256 + b' = x at hx hx2
    go_wp2_with fail
    go_ret
    exact ⟨x % n, k + 1 + 1, Nat.mod_lt _ (by omega), by omega, ret_rem _ _, HS2.out, HK2.out⟩

/-- What a draw of a number gives. -/
def Drawn (w0 : World) (A : Option Addr) (zs : List Nat) (c g k : Nat) (m : Nat) (w : World) (e : Ending) (w' : World) : Prop :=
  ∃ b k' : Nat, (b : Int) < 4294967296 ∧ k' ≤ k + m ∧ e = .returned (.float .f32 b) ∧ Srce w0 A zs c g k' w' ∧ Kept g w w'

def ten : List Int := [0, 2147483648, 2139095040, 4286578688, 2143289344, 1, 2139095039, 8388608, 8388607, 2147483649]
def four : List Int := [8388608, 2130706432, 1610612736, 536870912]
theorem ten_bd : ∀ j : Fin 10, 0 ≤ ten.getD j.val 0 ∧ ten.getD j.val 0 ≤ 4294967295 := by decide
theorem four_bd : ∀ j : Fin 4, 0 ≤ four.getD j.val 0 ∧ four.getD j.val 0 ≤ 4294967295 := by decide
theorem ten_at : ∀ j : Fin 10, ((ten.map (Value.int .i64)).toArray)[j.val]? = some (.int .i64 (ten.getD j.val 0)) := fun j => by
  rw [List.getElem?_toArray, List.getElem?_map, List.getD_eq_getElem?_getD, List.getElem?_eq_getElem (show j.val < ten.length from j.isLt)]
  rfl
theorem four_at : ∀ j : Fin 4, ((four.map (Value.int .i64)).toArray)[j.val]? = some (.int .i64 (four.getD j.val 0)) := fun j => by
  rw [List.getElem?_toArray, List.getElem?_map, List.getD_eq_getElem?_getD, List.getElem?_eq_getElem (show j.val < four.length from j.isLt)]
  rfl
theorem Srce.lt {w0 : World} {A : Option Addr} {zs : List Nat} {c g k : Nat} {w : World} (h : Srce w0 A zs c g k w) : g < w.heap.size := by
  obtain ⟨⟨seed, h1⟩, _⟩ := h
  exact (Array.getElem?_eq_some_iff.1 h1).1

end Go.Proofs.Ytbdmmpkphiilkaa
