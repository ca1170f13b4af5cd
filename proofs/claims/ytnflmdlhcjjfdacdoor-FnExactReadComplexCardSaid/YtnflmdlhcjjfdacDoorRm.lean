/-
  ReadList, walked: the program's side.
-/
import Derived.Test.YtnflmdlhcjjfdacDoorRl
namespace Go.Proofs.YtnflmdlhcjjfdacDoor
open Go.RowKit Go.Lib Rd Go.WideShapes

theorem own_cellsOf (w : World) (ps : List ByteArray) (N : Nat) (h : ps.length ≤ N) (hN : N ≤ maxLen) : OwnT (w.alloc (.cells (cellsOf ps N) 9)) w.heap.size (.slice (some ⟨w.heap.size, 0, none⟩) ps.length N) ps := by
  refine ⟨by simp, .inr ⟨w.heap.size, N, cellsOf ps N, rfl, Nat.le_refl _, ?_, h, hN, by rw [cellsOf_size h, Nat.mul_one], ?_⟩⟩
  · show (w.heap.push _)[w.heap.size]? = _
    simp
  · unfold cellsOf
    rw [List.toList_toArray, List.take_append_of_le_length (by simp), List.take_of_length_le (by simp)]

/-- The library's cutting of a text into 65 parts at most. -/
theorem splitN_calls (s : ByteArray) (m : Int) (w : World) (hs : s.size ≤ 1048576) (hm : w.cell? ⟨6, 0, none⟩ = some (.int .i64 m)) :
    Calls Tryd.prog 69 #[.string s, .string ⟨#[44]⟩, .int .i64 65] w fun e w' =>
      ∃ (n cp : Nat) (ps : List ByteArray), n = ps.length ∧ e = .returned (.slice (some ⟨w.heap.size, 0, none⟩) n cp) ∧ OwnT w' w.heap.size (.slice (some ⟨w.heap.size, 0, none⟩) n cp) ps ∧ ps.length = min 65 (Ct.cut 44 s.data.toList).length ∧ ((Ct.cut 44 s.data.toList).length ≤ 65 → Ct.cut 44 s.data.toList = ps.map (·.data.toList)) ∧ Below w.heap.size w w' := by
  refine (Tryd.strings_SplitN s ⟨#[44]⟩ 65 m w (by omega) hm (by decide) (by omega) (by omega)).mono ?_
  rintro e w' ⟨rfl, rfl⟩
  have h1 := Ct.split_few 44 s 65 (by omega)
  have h2 := splitB_length_le ⟨#[44]⟩ 0 (min 65 (s.size + 1) - 1) s
  exact ⟨_, _, _, rfl, rfl, own_cellsOf w _ _ (by omega) (by unfold maxLen; omega), h1.1, fun h => (h1.2 h).symm, (Below.refl _ _).alloc (Nat.le_refl _) _⟩

def ItmAt (ps : List ByteArray) (gp cp g n : Nat) (w : World) (iv : Value) (wr : World) : Prop :=
  ∃ k : Nat, k ≤ n ∧ iv = .int .i64 k ∧ ∃ zs : List Int, zs.length = n ∧ (∀ j, j < k → ∃ p : ByteArray, ps[j]? = some p ∧ Want p.data.toList (zs.getD j 0)) ∧
    OwnI wr w.heap.size (.slice (some ⟨g, 0, none⟩) n n) zs ∧ OwnT wr w.heap.size (.slice (some ⟨gp, 0, none⟩) n cp) ps ∧ Below w.heap.size w wr

set_option maxRecDepth 100000 in
set_option maxHeartbeats 4000000 in
theorem readItems_calls (s : ByteArray) (hmax : s.size ≤ 1048576) (w : World) (m : Int) (hm : w.cell? ⟨6, 0, none⟩ = some (.int .i64 m)) (tp tq : TypeId) (p q : Value) (hS : w.var? Tryd.prog "strconv.ErrSyntax" = some #[.iface tp p]) (hR : w.var? Tryd.prog "strconv.ErrRange" = some #[.iface tq q])
    (htab : TabIs Tryd.prog w "internal/strconv.uint64pow10" .u64 pow10Tab) : Calls Tryd.prog 57 #[.string s, .int .i64 64, .func (.func 13) #[] #[]] w (RlV s.data.toList w) := by
  obtain ⟨i0, hi, hz0, hz1, hz2⟩ := info_parts infoN
  have HT := Frame.hid (tabBelow_of_tabIs htab)
  have HS := Frame.hid hS
  have HR := Frame.hid hR
  have HM := Frame.hid hm
  clear htab hS hR hm
  by_cases hnone : s.data.toList = noneT
  · have hb : (s.toList == [110, 111, 110, 101]) = true := by rw [bytes_toList, hnone]; rfl
    have HN := Frame.hid hnone
    clear hnone
    go_enter Tryd.func57, Tryd.ntmps57
    go_wp2_with fail
    go_ret2
    exact ⟨.inl ⟨_, [], rfl, .inl ⟨HN.out, rfl⟩, ⟨rfl, .inl ⟨rfl, rfl⟩⟩⟩, Below.refl _ _⟩
  · have hb : (s.toList == [110, 111, 110, 101]) = false := by rw [bytes_toList, beq_eq_false_iff_ne]; exact hnone
    have HN := Frame.hid hnone
    clear hnone
    go_enter Tryd.func57, Tryd.ntmps57
    go_wp2_with fail
    refine (splitN_calls s m _ hmax HM.out).mono ?_
    rintro e w1 ⟨n, cp, ps, hpn, rfl, hT, hlen, hcut, hB1⟩
    obtain ⟨gp, hgp⟩ : ∃ gp, gp = w.heap.size := ⟨_, rfl⟩
    rw [← hgp] at hT ⊢
    have HGP := Frame.hid hgp
    have HPN := Frame.hid hpn
    have HT1 : Hid (OwnT w1 w.heap.size (.slice (some ⟨gp, 0, none⟩) n cp) ps) := by rw [← hgp]; exact hT
    have HB1 := Frame.hid hB1
    have hsz1 := hB1.size
    clear hb hT hB1 hgp
    by_cases h64 : 64 < n
    · have HBAD : Hid (BadA s.data.toList) := ⟨HN.out, .inl (by omega)⟩
      clear hlen hcut hpn
      go_wp2_with fail
      go_ret2
      exact ⟨.inr ⟨HBAD.out, rfl⟩, HB1.out⟩
    · have HC := Frame.hid (hcut (by omega))
      clear hlen hcut hpn
      go_wp2_with (at_make; refine wpList_make_full _ rfl _ _ 41 rfl w.heap.size 2 i0 (.int .i64 0) 1 Tryd.underlying41 hi hz0 hz1 _ _ _ _ n rfl rfl rfl rfl ?c1 ?c2 ?c3 ?_)
      case c1 => rw [hz2]; omega
      case c2 => unfold maxLen; omega
      case c3 => exact hsz1
      intro w2 hown hgrow
      have HT2 : Hid (OwnT w2 w.heap.size (.slice (some ⟨gp, 0, none⟩) n cp) ps) := World.ownsRow.kept HT1.out hgrow (.inr (by simp [Value.ownBlock]))
      have HB2 : Hid (Below w.heap.size w w2) := HB1.out.grown hgrow hsz1 (by simp)
      obtain ⟨g, hg⟩ : ∃ g, g = w1.heap.size := ⟨_, rfl⟩
      have HO2 : Hid (OwnI w2 w.heap.size (.slice (some ⟨g, 0, none⟩) n n) (List.replicate n 0)) := by
        show w2.ownsRow _ _ _ _ _ _
        have e : (madeCells #[Value.int .i64 0] n).toList = (List.replicate n (0 : Int)).map (Value.int .i64) := by
          rw [List.map_replicate]
          exact toList_madeCells_one _ _
        rw [e] at hown
        rw [List.length_replicate, hg]
        exact hown
      rw [← hg]
      clear hown hgrow hg HT1 HB1 hi hz0 hz1 hz2
      go_wp2_with fail
      go_loopw [29] (fun i wr => ItmAt ps gp cp g n w i wr) (fun i _ => n - (Go.RowKit.intOf i).toNat)
      case atStart => exact ⟨0, Nat.zero_le _, rfl, _, List.length_replicate, fun j hj => absurd hj (by omega), HO2.out, HT2.out, HB2.out⟩
      case round =>
        obtain ⟨k, hk, rfl, zs, hzl, hW, hO, hT, hB⟩ := hrel
        have HZL := Frame.hid hzl
        have HW := Frame.hid hW
        have HO := Frame.hid hO
        have HTT := Frame.hid hT
        have HB := Frame.hid hB
        clear hzl hW hO hT hB HO2 HB2 HT2
        by_cases hlt : k < n
        · obtain ⟨x, hx⟩ : ∃ x, ps[k]? = some x := ⟨_, List.getElem?_eq_getElem (by have := HPN.out; omega)⟩
          have hc1 := HTT.out.cell HPN.out hx
          have hpl := part_le HC.out hx
          have HX := Frame.hid hx
          clear hx
          go_wp2_with fail
          refine (readDecimal_calls x (by omega) _ tp tq p q (var_below HS.out HB.out) (var_below HR.out HB.out) (HT.out.on HB.out).here).mono ?_
          rintro e w3 ⟨r, t, rfl, hA, hB3⟩
          have hO3 := own_below HO.out hB3
          have HT3 := Frame.hid (own_below HTT.out hB3)
          have HB3 := Frame.hid (HB.out.trans (hB3.mono HB.out.size))
          clear hB3 hc1
          rcases hA with ⟨rfl, hw⟩ | ⟨rfl, rfl, hw⟩
          · have HWT := Frame.hid hw
            have hO4 : w3.ownsRow w.heap.size 2 1 (.slice (some ⟨g, 0, none⟩) n n) n (zs.map (Value.int .i64)) := by have h := hO3; unfold OwnI at h; rwa [HZL.out] at h
            obtain ⟨z0, hz0⟩ : ∃ z0, zs[k]? = some z0 := ⟨_, List.getElem?_eq_getElem (by have := HZL.out; omega)⟩
            have hc2 : w3.cell? ⟨g, k, none⟩ = some (.int .i64 z0) := by
              rw [World.ownsRow.cellAt hO4 k (by omega), List.getElem?_map, hz0]
              rfl
            have hfz := World.ownsRow.frozenAt hO4 k
            have hgB := (World.ownsRow.lt hO4 g rfl).1
            have HO4 := Frame.hid hO4
            have HGB := Frame.hid hgB
            clear hw hO3 hO4 hz0 hgB
            go_wp2_with fail
            go_roundw
            case rel =>
              have hst := World.ownsRow.stored HO4.out k (.int .i64 r)
              have hset : (zs.map (Value.int .i64)).set k (.int .i64 r) = (zs.set k r).map (Value.int .i64) := by rw [List.map_set]
              rw [hset] at hst
              refine ⟨k + 1, by omega, by go_num, zs.set k r, by rw [List.length_set]; exact HZL.out, fun j hj => ?_, ?_, ?_, HB3.out.setCell (p := ⟨g, _, none⟩) HGB.out _⟩
              · by_cases he : j = k
                · subst he
                  refine ⟨x, HX.out, ?_⟩
                  rw [List.getD_eq_getElem?_getD, List.getElem?_set_self (by have := HZL.out; omega)]
                  exact HWT.out
                · obtain ⟨y, h1, h2⟩ := HW.out j (by omega)
                  refine ⟨y, h1, ?_⟩
                  rw [List.getD_eq_getElem?_getD, List.getElem?_set_ne (by omega), ← List.getD_eq_getElem?_getD]
                  exact h2
              · have h := hst.1
                unfold OwnI
                rw [List.length_set, HZL.out]
                exact h
              · exact World.ownsRow.kept HT3.out hst.2 (rows_apart HT3.out HO4.out (by decide))
            case measure => simp [Go.RowKit.intOf]; omega
          · have HBAD := Frame.hid (bad_one HN.out HC.out HX.out hw)
            clear hw hO3
            go_wp2_with fail
            go_ret2
            exact ⟨.inr ⟨HBAD.out, rfl⟩, HB3.out⟩
        · have hkn : k = n := by omega
          subst hkn
          have HOK : Hid (OkA s.data.toList zs) := ok_all HN.out HC.out (by rw [HZL.out, HPN.out]) (by rw [← HPN.out]; omega) (fun j x hx => by
            have hj : j < zs.length := (List.getElem?_eq_some_iff.1 hx).1
            obtain ⟨y, h1, h2⟩ := HW.out j (by have := HZL.out; omega)
            rw [List.getD_eq_getElem?_getD, hx] at h2
            exact ⟨y, h1, h2⟩)
          go_wp2_with fail
          go_ret2
          exact ⟨.inl ⟨_, zs, rfl, HOK.out, HO.out⟩, HB.out⟩

theorem readList_calls (s : ByteArray) (hmax : s.size ≤ 1048576) (w : World) (m : Int) (hm : w.cell? ⟨6, 0, none⟩ = some (.int .i64 m)) (tp tq : TypeId) (p q : Value) (hS : w.var? Tryd.prog "strconv.ErrSyntax" = some #[.iface tp p]) (hR : w.var? Tryd.prog "strconv.ErrRange" = some #[.iface tq q])
    (htab : TabIs Tryd.prog w "internal/strconv.uint64pow10" .u64 pow10Tab) : Calls Tryd.prog 32 #[.string s] w (RlV s.data.toList w) := by
  have HT := Frame.hid htab
  have HS := Frame.hid hS
  have HR := Frame.hid hR
  have HM := Frame.hid hm
  clear htab hS hR hm
  go_enter Tryd.func32, Tryd.ntmps32
  go_wp2_with fail
  refine (readItems_calls s hmax _ m HM.out tp tq p q HS.out HR.out HT.out).mono ?_
  rintro e w1 ⟨hA, hB⟩
  have HB := Frame.hid hB
  clear hB
  rcases hA with ⟨v, xs, rfl, hA, hO⟩ | ⟨hA, rfl⟩
  · have HA := Frame.hid hA
    have HO := Frame.hid hO
    clear hA hO
    go_wp2_with fail
    go_ret2
    exact ⟨.inl ⟨_, xs, rfl, HA.out, HO.out⟩, HB.out⟩
  · have HA := Frame.hid hA
    clear hA
    go_wp2_with fail
    go_ret2
    exact ⟨.inr ⟨HA.out, rfl⟩, HB.out⟩

end Go.Proofs.YtnflmdlhcjjfdacDoor
