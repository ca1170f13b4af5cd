/-
  ReadComplex: the program's side and the law, walked.
-/
import Derived.Test.YtnflmdlhcjjfdadGreatDoorGs
import Derived.Test.YtnflmdlhcjjfdadGreatDoorRn
namespace Go.Proofs.YtnflmdlhcjjfdadGreatDoor
open Go.RowKit Go.Lib Rd Go.WideShapes Fl

/-- The library's cutting of a text into 257 parts at most. -/
theorem splitManyC_calls (s : ByteArray) (m : Int) (w : World) (hs : s.size ≤ 1048576) (hm : w.cell? ⟨1, 0, none⟩ = some (.int .i64 m)) :
    Calls Tryz.prog 58 #[.string s, .string ⟨#[44]⟩, .int .i64 257] w fun e w' =>
      ∃ (n cp : Nat) (ps : List ByteArray), n = ps.length ∧ e = .returned (.slice (some ⟨w.heap.size, 0, none⟩) n cp) ∧ OwnT w' w.heap.size (.slice (some ⟨w.heap.size, 0, none⟩) n cp) ps ∧ ps.length = min 257 (Ct.cut 44 s.data.toList).length ∧ ((Ct.cut 44 s.data.toList).length ≤ 257 → Ct.cut 44 s.data.toList = ps.map (·.data.toList)) ∧ Below w.heap.size w w' := by
  refine (Tryz.strings_SplitN s ⟨#[44]⟩ 257 m w (by omega) hm (by decide) (by omega) (by omega)).mono ?_
  rintro e w' ⟨rfl, rfl⟩
  have h1 := Ct.split_few 44 s 257 (by omega)
  have h2 := splitB_length_le ⟨#[44]⟩ 0 (min 257 (s.size + 1) - 1) s
  exact ⟨_, _, _, rfl, rfl, own_cellsOf w _ _ (by omega) (by unfold maxLen; omega), h1.1, fun h => (h1.2 h).symm, (Below.refl _ _).alloc (Nat.le_refl _) _⟩

def ItmCAt (ps : List ByteArray) (gp cp g n : Nat) (w : World) (iv : Value) (wr : World) : Prop :=
  ∃ k : Nat, k ≤ n ∧ iv = .int .i64 k ∧ ∃ zs : List (Nat × Nat), zs.length = n ∧ (∀ j, j < k → ∃ p : ByteArray, ps[j]? = some p ∧ WantC p.data.toList (zs.getD j (0, 0))) ∧
    OwnC wr w.heap.size (.slice (some ⟨g, 0, none⟩) n n) zs ∧ OwnT wr w.heap.size (.slice (some ⟨gp, 0, none⟩) n cp) ps ∧ Below w.heap.size w wr

attribute [local go_sem] run_store_c
set_option maxRecDepth 100000 in
set_option maxHeartbeats 4000000 in
theorem readItemsC_calls (s : ByteArray) (hmax : s.size ≤ 1048576) (w : World) (m : Int) (hm : w.cell? ⟨1, 0, none⟩ = some (.int .i64 m)) :
    Calls Tryz.prog 38 #[.string s, .int .i64 256, .func (.func 39) #[] #[]] w (RcV s.data.toList w) := by
  obtain ⟨i0, hi, hz0, hz1, hz2⟩ := info_parts Tryz.infoC
  have HM := Frame.hid hm
  clear hm
  by_cases hnone : s.data.toList = noneT
  · have hb : (s.toList == [110, 111, 110, 101]) = true := by rw [bytes_toList, hnone]; rfl
    have HN := Frame.hid hnone
    clear hnone
    go_enter Tryz.func38, Tryz.ntmps38
    go_wp2_with fail
    go_ret2
    exact rc_ok (.inl ⟨HN.out, rfl⟩) (World.ownsRow_nil _ _ _ _) (Below.refl _ _)
  · have hb : (s.toList == [110, 111, 110, 101]) = false := by rw [bytes_toList, beq_eq_false_iff_ne]; exact hnone
    have HN := Frame.hid hnone
    clear hnone
    go_enter Tryz.func38, Tryz.ntmps38
    go_wp2_with fail
    refine (splitManyC_calls s m _ hmax HM.out).mono ?_
    rintro e w1 ⟨n, cp, ps, hpn, rfl, hT, hlen, hcut, hB1⟩
    obtain ⟨gp, hgp⟩ : ∃ gp, gp = w.heap.size := ⟨_, rfl⟩
    rw [← hgp] at hT ⊢
    have HGP := Frame.hid hgp
    have HPN := Frame.hid hpn
    have HT1 : Hid (OwnT w1 w.heap.size (.slice (some ⟨gp, 0, none⟩) n cp) ps) := by rw [← hgp]; exact hT
    have HB1 := Frame.hid hB1
    have hsz1 := hB1.size
    clear hb hT hB1 hgp
    by_cases h64 : 256 < n
    · have HBAD : Hid (BadC s.data.toList) := ⟨HN.out, .inl (by omega)⟩
      clear hlen hcut hpn
      go_wp2_with fail
      go_ret2
      exact rc_bad HBAD.out HB1.out
    · have HC := Frame.hid (hcut (by omega))
      clear hlen hcut hpn
      go_wp2_with (at_make; refine wpList_make_full _ rfl _ _ 25 rfl w.heap.size 24 i0 (.complex .f32 0 0) 1 Tryz.underlying25 hi hz0 hz1 _ _ _ _ n rfl rfl rfl rfl ?c1 ?c2 ?c3 ?_)
      case c1 => rw [hz2]; omega
      case c2 => unfold maxLen; omega
      case c3 => exact hsz1
      intro w2 hown hgrow
      have HT2 : Hid (OwnT w2 w.heap.size (.slice (some ⟨gp, 0, none⟩) n cp) ps) := World.ownsRow.kept HT1.out hgrow (.inr (by simp [Value.ownBlock]))
      have HB2 : Hid (Below w.heap.size w w2) := HB1.out.grown hgrow hsz1 (by simp)
      obtain ⟨g, hg⟩ : ∃ g, g = w1.heap.size := ⟨_, rfl⟩
      have HO2 : Hid (OwnC w2 w.heap.size (.slice (some ⟨g, 0, none⟩) n n) (List.replicate n (0, 0))) := by
        show w2.ownsRow _ _ _ _ _ _
        have e : (madeCells #[Value.complex .f32 0 0] n).toList = cl (List.replicate n (0, 0)) := by
          unfold cl
          rw [List.map_replicate]
          exact toList_madeCells_one _ _
        rw [e] at hown
        rw [List.length_replicate, hg]
        exact hown
      have HGB : Hid (w.heap.size ≤ g) := by show _ ≤ _; rw [hg]; exact hsz1
      rw [← hg]
      clear hown hgrow hg HT1 HB1 hi hz0 hz1 hz2
      go_wp2_with fail
      go_loopw [29] (fun i wr => ItmCAt ps gp cp g n w i wr) (fun i _ => n - (Go.RowKit.intOf i).toNat)
      case atStart => exact ⟨0, Nat.zero_le _, rfl, _, List.length_replicate, fun j hj => absurd hj (by omega), HO2.out, HT2.out, HB2.out⟩
      case round =>
        obtain ⟨k, hk, rfl, zs, hzl, hW, hO, hT, hB⟩ := hrel
        have HZL := Frame.hid hzl
        have HW := Frame.hid hW
        have HO := Frame.hid hO
        have HTT := Frame.hid hT
        have HB := Frame.hid hB
        clear hzl hW hO hT hB HO2 HB2 HT2
        by_cases hlt : k < n
        · obtain ⟨x, hx⟩ : ∃ x, ps[k]? = some x := ⟨_, List.getElem?_eq_getElem (by have := HPN.out; omega)⟩
          have hc1 := HTT.out.cell HPN.out hx
          have hpl := part_le HC.out hx
          have HX := Frame.hid hx
          clear hx
          go_wp2_with fail
          refine (readOneComplex_calls x (by omega) _).mono ?_
          rintro e w3 ⟨r, r', t, rfl, hA, hB3⟩
          have hO3 := OwnC.below HO.out hB3
          have HT3 := Frame.hid (own_below HTT.out hB3)
          have HB3 := Frame.hid (HB.out.trans (hB3.mono HB.out.size))
          clear hB3 hc1
          rcases hA with ⟨rfl, hw⟩ | ⟨rfl, hrr, hw⟩
          · have HWT := Frame.hid hw
            have hc2 := hO3.cell HZL.out.symm (j := k) (by have := HZL.out; omega)
            have hfz := hO3.froz HZL.out.symm k
            obtain ⟨z0, hz0⟩ : ∃ z0, z0 = zs.getD k (0, 0) := ⟨_, rfl⟩
            rw [← hz0] at hc2
            have HO4 := Frame.hid hO3
            clear hw hO3 hz0
            go_wp2_with fail
            go_roundw
            case rel =>
              have hrow : w3.ownsRow w.heap.size 24 1 (.slice (some ⟨g, 0, none⟩) n n) n (cl zs) := by have h := HO4.out; unfold OwnC at h; rwa [HZL.out] at h
              have hst := World.ownsRow.stored hrow k (cx (r, r'))
              refine ⟨k + 1, by omega, by go_num, zs.set k (r, r'), by rw [List.length_set]; exact HZL.out, fun j hj => ?_, OwnC.put HO4.out HZL.out.symm k (r, r'), ?_, HB3.out.setCell (p := ⟨g, _, none⟩) HGB.out _⟩
              · by_cases he : j = k
                · subst he
                  refine ⟨x, HX.out, ?_⟩
                  rw [List.getD_eq_getElem?_getD, List.getElem?_set_self (by have := HZL.out; omega)]
                  exact HWT.out
                · obtain ⟨y, h1, h2⟩ := HW.out j (by omega)
                  refine ⟨y, h1, ?_⟩
                  rw [List.getD_eq_getElem?_getD, List.getElem?_set_ne (by omega), ← List.getD_eq_getElem?_getD]
                  exact h2
              · exact World.ownsRow.kept HT3.out hst.2 (rows_apart HT3.out hrow (by decide))
            case measure => simp [Go.RowKit.intOf]; omega
          · obtain ⟨rfl, rfl⟩ := Prod.mk.inj hrr
            have HBAD := Frame.hid (badC_one HN.out HC.out HX.out hw)
            clear hw hO3 hrr
            go_wp2_with fail
            go_ret2
            exact rc_bad HBAD.out HB3.out
        · have hkn : k = n := by omega
          subst hkn
          have HOK : Hid (OkC s.data.toList zs) := okC_all HN.out HC.out (by rw [HZL.out, HPN.out]) (by rw [← HPN.out]; omega) (fun j x hx => by
            have hj : j < zs.length := (List.getElem?_eq_some_iff.1 hx).1
            obtain ⟨y, h1, h2⟩ := HW.out j (by have := HZL.out; omega)
            rw [List.getD_eq_getElem?_getD, hx] at h2
            exact ⟨y, h1, h2⟩)
          go_wp2_with fail
          go_ret2
          exact rc_ok HOK.out HO.out HB.out

theorem readComplex_calls (s : ByteArray) (hmax : s.size ≤ 1048576) (w : World) (m : Int) (hm : w.cell? ⟨1, 0, none⟩ = some (.int .i64 m)) : Calls Tryz.prog 17 #[.string s] w (RcV s.data.toList w) := by
  have HM := Frame.hid hm
  clear hm
  go_enter Tryz.func17, Tryz.ntmps17
  go_wp2_with fail
  refine (readItemsC_calls s hmax _ m HM.out).mono ?_
  rintro e w1 ⟨v, xs, b, rfl, hl, hA, hO, hB⟩
  have HA := Frame.hid hA
  have HO := Frame.hid hO
  have HB := Frame.hid hB
  have HL := Frame.hid hl
  clear hA hO hB hl
  go_wp2_with fail
  go_ret2
  exact ⟨_, xs, _, rfl, HL.out, HA.out, HO.out, HB.out⟩

end Go.Proofs.YtnflmdlhcjjfdadGreatDoor
