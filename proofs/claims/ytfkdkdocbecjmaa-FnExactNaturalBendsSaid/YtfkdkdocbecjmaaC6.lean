/-
  NaturalBends: what a call hands out.
-/
import Derived.Test.YtfkdkdocbecjmaaC5
namespace Go.Proofs.Ytfkdkdocbecjmaa
open Go.RowKit Fl Go.WideShapes Go.Deep
attribute [local go_sem] kstore_f kalloc_drewN kset_drewN

/-- What a call hands out. -/
def NtbO (xs ys : List Nat) (vs : List Nat) (ok : Bool) : Prop := (graphB xs ys = true ∧ ∃ zs, NatL xs ys (xs.length - 2) zs ∧ ok = finL zs ∧ vs = if ok then zs else []) ∨ (graphB xs ys = false ∧ ok = false ∧ vs = [])
theorem NtbO.len {xs ys vs : List Nat} {ok : Bool} (h : NtbO xs ys vs ok) : vs.length ≤ 256 := by
  rcases h with ⟨h1, zs, h2, h3, rfl⟩ | ⟨h1, h2, rfl⟩
  · have := graphB_len h1
    have := h2.1
    split
    · omega
    · simp
  · simp
theorem NtbO.same {xs ys vs us : List Nat} {ok ok' : Bool} (h : NtbO xs ys vs ok) (g : NtbO xs ys us ok') : vs = us ∧ ok = ok' := by
  rcases h with ⟨h1, zs, h2, rfl, rfl⟩ | ⟨h1, rfl, rfl⟩ <;> rcases g with ⟨g1, z2, g2, rfl, rfl⟩ | ⟨g1, rfl, rfl⟩
  · have e := h2.same g2
    have ef : finL zs = finL z2 := finL_same e
    refine ⟨?_, ef⟩
    rw [← ef]
    cases hf : finL zs
    · rfl
    · rw [if_pos rfl, if_pos rfl]
      refine List.ext_getElem e.1 fun i i1 i2 => ?_
      have h3 := finL_get hf i1
      have h4 := fsame_fin (e.2 i) h3
      rw [List.getD_eq_getElem?_getD, List.getD_eq_getElem?_getD, List.getElem?_eq_getElem i1, List.getElem?_eq_getElem i2] at h4
      simpa using h4
  · rw [h1] at g1; cases g1
  · rw [h1] at g1; cases g1
  · exact ⟨rfl, rfl⟩
def NtbV (xs ys : List Nat) (w : World) (e : Ending) (w' : World) : Prop := ∃ v vs ok, e = .returned (.tuple #[v, .bool ok]) ∧ NtbO xs ys vs ok ∧ OwnF w' w.heap.size v vs ∧ Below w.heap.size w w'
set_option maxRecDepth 100000 in
set_option maxHeartbeats 1000000 in
theorem naturalV_calls (A B : Option Addr) (xs ys : List Nat) (c d : Nat) (w : World) (hn : xs.length ≤ 1048576) (hn' : ys.length ≤ 1048576) (hA : RdF w A xs) (hB : RdF w B ys) :
    Calls Try.prog 22 #[.slice A xs.length c, .slice B ys.length d] w fun e w' => NtbV xs ys w e w' := by
  cases hg : graphB xs ys
  · have HGR := Frame.hid (isGraph_calls A B xs ys c d w hn hn' hA hB)
    have HG := Frame.hid hg
    clear hA hB hg
    go_enter Try.func22, Try.ntmps22
    go_wp2_with fail
    refine HGR.out.mono ?_
    rintro e w1 ⟨rfl, hB1⟩
    rw [HG.out]
    have HB1 := Frame.hid hB1
    clear hB1
    go_wp2_with fail
    go_ret2
    exact ⟨_, [], _, rfl, .inr ⟨HG.out, rfl, rfl⟩, ownF_nil _ _, HB1.out⟩
  · refine (naturalBends_calls A B xs ys c d w hn hn' hA hB hg).mono ?_
    rintro e w1 ⟨v, zs, ok, rfl, hS, hok, hO, hv, hB1⟩
    cases ok
    · exact ⟨_, [], _, rfl, .inl ⟨hg, zs, hS, hok, rfl⟩, by rw [hv rfl]; exact ownF_nil _ _, hB1⟩
    · exact ⟨_, zs, _, rfl, .inl ⟨hg, zs, hS, hok, rfl⟩, hO rfl, hB1⟩

set_option maxRecDepth 100000 in
set_option maxHeartbeats 1000000 in
theorem specNaturalV_calls (A B : Option Addr) (xs ys : List Nat) (c d : Nat) (w : World) (hn : xs.length ≤ 1048576) (hn' : ys.length ≤ 1048576) (hA : RdF w A xs) (hB : RdF w B ys) :
    Calls Try.prog 20 #[.slice A xs.length c, .slice B ys.length d] w fun e w' => NtbV xs ys w e w' := by
  have HGR := Frame.hid (l05Graph_calls A B xs ys c d w hn hn' hA hB)
  cases hg : graphB xs ys
  · have HG := Frame.hid hg
    clear hA hB hg
    go_enter Try.func20, Try.ntmps20
    go_wp2_with fail
    refine HGR.out.mono ?_
    rintro e w1 ⟨rfl, m, rfl⟩
    rw [HG.out]
    go_wp2_with fail
    go_ret2
    exact ⟨_, [], _, rfl, .inr ⟨HG.out, rfl, rfl⟩, ownF_nil _ _, below_drewN (Below.refl _ _) _⟩
  · have HG := Frame.hid hg
    obtain ⟨h2, h48, hyl⟩ := graphB_len hg
    obtain ⟨b, off, rfl, hb, hx⟩ := hA (by omega)
    obtain ⟨b2, off2, rfl, hb2, hy⟩ := hB (by omega)
    obtain ⟨m0, hm⟩ : ∃ m0, xs.length = m0 + 1 := ⟨xs.length - 1, by omega⟩
    obtain ⟨ml, hml⟩ : ∃ ml, m0 = ml + 1 := ⟨m0 - 1, by omega⟩
    obtain ⟨n, hnx⟩ : ∃ n, n = xs.length := ⟨_, rfl⟩
    have hny : ys.length = n := by omega
    have HST := Frame.hid (fun (W : World) (hW : Below w.heap.size w W) => l05Bends_calls b off c b2 off2 d n m0 ml xs ys (by omega) (by omega) hml W ⟨fun j hj => (hW.cell (p := ⟨b, off + j, none⟩) hb).trans (hx j (by omega)), fun j hj => (hW.cell (p := ⟨b2, off2 + j, none⟩) hb2).trans (hy j (by omega)), Nat.lt_of_lt_of_le hb hW.size, Nat.lt_of_lt_of_le hb2 hW.size⟩)
    rw [← hnx, hny] at HGR ⊢
    have HN := Frame.hid (And.intro hnx (And.intro (show xs.length = ml + 2 by omega) h48))
    clear hA hB hg hx hy hm hml hnx hny h2 h48 hyl hn hn' hb hb2
    go_enter Try.func20, Try.ntmps20
    go_wp2_with fail
    refine HGR.out.mono ?_
    rintro e w1 ⟨rfl, m, rfl⟩
    rw [HG.out]
    go_wp2_with fail
    refine (HST.out _ (below_drewN (Below.refl _ _) _)).mono ?_
    rintro e w2 ⟨v, zs, rfl, hS, hO, hB2⟩
    have HS := Frame.hid hS
    have HO := Frame.hid hO
    have HB2 := Frame.hid ((below_drewN (Below.refl _ _) m).trans hB2)
    obtain ⟨A2, c2, rfl, hr2⟩ := hO.reads
    have hzl : zs.length ≤ 1048576 := by have := hS.1; have := HN.out; omega
    have hSx : NatL xs ys (xs.length - 2) zs := by rw [show xs.length - 2 = ml by have := HN.out; omega]; exact hS
    have HSX := Frame.hid hSx
    clear hS hO hB2 hSx
    go_wp2_with fail
    refine (l02Fin_calls _ zs _ _ hzl hr2).mono ?_
    rintro e w3 ⟨rfl, m3, rfl⟩
    clear hr2 hzl
    cases hf : finL zs
    · have HF := Frame.hid hf
      clear hf
      go_wp2_with fail
      go_ret2
      exact ⟨_, [], _, rfl, .inl ⟨HG.out, zs, HSX.out, HF.out.symm, rfl⟩, ownF_nil _ _, below_drewN HB2.out _⟩
    · have HF := Frame.hid hf
      clear hf
      go_wp2_with fail
      go_ret2
      exact ⟨_, zs, _, rfl, .inl ⟨HG.out, zs, HSX.out, HF.out.symm, rfl⟩, HO.out.below (below_drewN (Below.refl _ _) _), below_drewN HB2.out _⟩

end Go.Proofs.Ytfkdkdocbecjmaa
