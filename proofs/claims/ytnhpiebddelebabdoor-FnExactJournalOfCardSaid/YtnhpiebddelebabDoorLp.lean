/-
  The text of a list: the program's side and the law, walked.
-/
import Derived.Test.YtnhpiebddelebabDoorLt
import Derived.Test.YtnhpiebddelebabDoorSj
namespace Go.Proofs.YtnhpiebddelebabDoor
open Go.RowKit Go.Lib Rd Go.WideShapes

set_option maxHeartbeats 1000000 in
theorem textOfValue_calls (n : Int) (h0 : -9223372036854775808 ≤ n) (h1 : n ≤ 9223372036854775807) (w : World) (htab : TabIs Tryd.prog w "internal/strconv.uint64pow10" .u64 pow10Tab) :
    Calls Tryd.prog 65 #[.int .i64 n] w fun e w' => ((okV n ∧ e = .returned (.tuple #[.string ⟨(itoa n).toArray⟩, .bool true])) ∨ (¬ okV n ∧ e = .returned (.tuple #[.string ⟨#[]⟩, .bool false]))) ∧ Below w.heap.size w w' := by
  have HT := Frame.hid htab
  clear htab
  by_cases hv : okV n
  · have HV := Frame.hid hv
    have HD := Frame.hid (show (decide (-1000000000000000 ≤ n) && decide (n ≤ 1000000000000000)) = true by rw [Bool.and_eq_true, decide_eq_true_eq, decide_eq_true_eq]; exact hv)
    clear hv
    go_enter Tryd.func65, Tryd.ntmps65
    go_wp2_with (go_at_call 80; refine (isValue_calls n _).mono ?_; rintro e w' ⟨rfl, rfl⟩; rw [HD.out])
    refine (decimal_calls n h0 h1 _ HT.out).mono ?_
    rintro e w2 ⟨rfl, hB2⟩
    have HB2 := Frame.hid hB2
    clear hB2
    go_wp2_with fail
    go_ret2
    exact ⟨.inl ⟨HV.out, rfl⟩, HB2.out⟩
  · have HV := Frame.hid hv
    have HD := Frame.hid (show (decide (-1000000000000000 ≤ n) && decide (n ≤ 1000000000000000)) = false by rw [Bool.and_eq_false_iff, decide_eq_false_iff_not, decide_eq_false_iff_not]; unfold okV at hv; omega)
    clear hv
    go_enter Tryd.func65, Tryd.ntmps65
    go_wp2_with (go_at_call 80; refine (isValue_calls n _).mono ?_; rintro e w' ⟨rfl, rfl⟩; rw [HD.out])
    go_ret2
    exact ⟨.inr ⟨HV.out, rfl⟩, Below.refl _ _⟩

theorem infoS : (Tryd.prog.info? 9).map (fun i => (i.zero, i.size, i.bytes)) = some (some (.string ByteArray.empty), 1, 16) := by kernel_rfl

theorem own_below {w w' : World} {base : Nat} {e : TypeId} {size : Nat} {v : Value} {n : Nat} {xs : List Value} (h : w.ownsRow base e size v n xs) (hb : Below w.heap.size w w') : w'.ownsRow base e size v n xs := by
  refine ⟨h.1, ?_⟩
  rcases h.2 with hn | ⟨g, cap, cur, hv, hbg, hg, rest⟩
  · exact .inl hn
  · exact .inr ⟨g, cap, cur, hv, hbg, by rw [hb.block g (Array.getElem?_eq_some_iff.1 hg).1]; exact hg, rest⟩
def ItAt (xs : List Int) (n : Nat) (w : World) (i : Value) (wr : World) : Prop :=
  ∃ k : Nat, k ≤ n ∧ i = .int .i64 k ∧ ∃ ss : List ByteArray, ss.length = n ∧ (∀ j, j < k → ss[j]? = some ⟨(itoa (xs.getD j 0)).toArray⟩) ∧ (∀ j, j < k → okV (xs.getD j 0)) ∧
    wr.ownsRow w.heap.size 9 1 (.slice (some ⟨w.heap.size, 0, none⟩) n n) n (ss.map Value.string) ∧ Below w.heap.size w wr

set_option maxRecDepth 100000 in
set_option maxHeartbeats 2000000 in
theorem textOfItems_calls (A : Option Addr) (xs : List Int) (c : Nat) (w : World) (hn : xs.length ≤ 1048576) (hb : ∀ j, j < xs.length → -9223372036854775808 ≤ xs.getD j 0 ∧ xs.getD j 0 ≤ 9223372036854775807) (hA : RdI w A xs) (htab : TabIs Tryd.prog w "internal/strconv.uint64pow10" .u64 pow10Tab) :
    Calls Tryd.prog 64 #[.slice A xs.length c, .int .i64 64, .func (.func 65) #[] #[]] w (LtV xs w) := by
  obtain ⟨i0, hi, hz0, hz1, hz2⟩ := info_parts infoS
  obtain ⟨n, hxn⟩ : ∃ n, n = xs.length := ⟨_, rfl⟩
  rw [← hxn] at hn ⊢
  have HX := Frame.hid hxn
  have HA := Frame.hid hA
  have HBD := Frame.hid hb
  have HT := Frame.hid (tabBelow_of_tabIs htab)
  clear hxn hA hb htab
  rcases (by omega : 64 < n ∨ n = 0 ∨ (1 ≤ n ∧ n ≤ 64)) with h | h | ⟨h1, h2⟩
  · have hf : okLB xs = false := by
      cases h3 : okLB xs
      · rfl
      · have := ((okLB_iff xs).1 h3).1
        have := HX.out
        omega
    have HF := Frame.hid hf
    clear hf
    go_enter Tryd.func64, Tryd.ntmps64
    go_wp2_with fail
    go_ret2
    exact ⟨.inr ⟨HF.out, rfl⟩, Below.refl _ _⟩
  · subst h
    have e0 : xs = [] := List.eq_nil_of_length_eq_zero HX.out.symm
    have hf : okLB xs = true := by rw [e0]; rfl
    have ht : textL xs = [110, 111, 110, 101] := by unfold textL; rw [if_pos e0]
    have HF := Frame.hid hf
    have HE := Frame.hid ht
    clear hf ht e0
    go_enter Tryd.func64, Tryd.ntmps64
    go_wp2_with fail
    go_ret2
    exact ⟨.inl ⟨HF.out, by rw [HE.out]; rfl⟩, Below.refl _ _⟩
  · go_enter Tryd.func64, Tryd.ntmps64
    go_wp2_with (at_make; refine wpList_make_full _ rfl _ _ 25 rfl w.heap.size 9 i0 (.string ByteArray.empty) 1 Tryd.underlying25 hi hz0 hz1 _ _ _ _ n rfl rfl rfl rfl ?c1 ?c2 ?c3 ?_)
    case c1 => rw [hz2]; omega
    case c2 => unfold maxLen; omega
    case c3 => simp
    intro w1 hown hgrow
    have HST : Hid (ItAt xs n w (.int .i64 0) w1) := by
      refine ⟨0, Nat.zero_le _, rfl, List.replicate n ByteArray.empty, List.length_replicate, fun j hj => absurd hj (by omega), fun j hj => absurd hj (by omega), ?_, (Below.refl _ _).grown hgrow (Nat.le_refl _) (by simp)⟩
      have e : (madeCells #[Value.string ByteArray.empty] n).toList = (List.replicate n ByteArray.empty).map Value.string := by
        rw [List.map_replicate]
        exact toList_madeCells_one _ _
      rw [e] at hown
      exact hown
    clear hown hgrow hi hz0 hz1 hz2
    go_wp2_with fail
    go_loopw [25] (fun i wr => ItAt xs n w i wr) (fun i _ => n - (Go.RowKit.intOf i).toNat)
    case atStart => exact HST.out
    case round =>
      obtain ⟨k, hk, rfl, ss, hsl, hss, hok, hO, hB⟩ := hrel
      by_cases hlt : k < n
      · obtain ⟨b, off, rfl, hbl, hc⟩ := HA.out (by have := HX.out; omega)
        have hc1 : wr.cell? ⟨b, off + k, none⟩ = some (.int .i64 (xs.getD k 0)) := (hB.cell (p := ⟨b, off + k, none⟩) hbl).trans (hc k (by have := HX.out; omega))
        have hbd := HBD.out k (by have := HX.out; omega)
        obtain ⟨y, hy⟩ : ∃ y, y = xs.getD k 0 := ⟨_, rfl⟩
        rw [← hy] at hc1 hbd
        have HY := Frame.hid hy
        have HSS := Frame.hid hss
        have HOK := Frame.hid hok
        have HO := Frame.hid hO
        have HB := Frame.hid hB
        have HSL := Frame.hid hsl
        have HBL := Frame.hid hbl
        obtain ⟨bd0, bd1⟩ := hbd
        clear hc hy hss hok hO hB hsl HST hbl
        go_wp2_with fail
        refine (textOfValue_calls y bd0 bd1 _ (HT.out.on HB.out).here).mono ?_
        rintro e w3 ⟨hcase, hB3⟩
        have hO3 := own_below HO.out hB3
        have hB4 := HB.out.trans (hB3.mono HB.out.size)
        rcases hcase with ⟨hv, rfl⟩ | ⟨hv, rfl⟩
        · obtain ⟨s0, hs0⟩ : ∃ s0, ss[k]? = some s0 := ⟨_, List.getElem?_eq_getElem (by have := HSL.out; omega)⟩
          have hc2 : w3.cell? ⟨w.heap.size, k, none⟩ = some (.string s0) := by
            rw [World.ownsRow.cellAt hO3 k (by omega), List.getElem?_map, hs0]
            rfl
          have hfz := World.ownsRow.frozenAt hO3 k
          have HO3 := Frame.hid hO3
          have HB4 := Frame.hid hB4
          have HV := Frame.hid hv
          clear hO3 hB4 hv hB3 hc1 bd0 bd1 hs0
          go_wp2_with fail
          go_roundw
          case rel =>
            have hst := (World.ownsRow.stored HO3.out k (.string ⟨(itoa y).toArray⟩))
            have hset : (ss.map Value.string).set k (.string ⟨(itoa y).toArray⟩) = (ss.set k ⟨(itoa y).toArray⟩).map Value.string := by rw [List.map_set]
            rw [hset] at hst
            refine ⟨k + 1, by omega, by go_num, ss.set k ⟨(itoa y).toArray⟩, by rw [List.length_set]; exact HSL.out, fun j hj => ?_, fun j hj => ?_, hst.1, HB4.out.setCell (p := ⟨w.heap.size, _, none⟩) (Nat.le_refl _) _⟩
            · by_cases he : j = k
              · rw [he, List.getElem?_set_self (by have := HSL.out; omega), HY.out]
              · rw [List.getElem?_set_ne (by omega)]
                exact HSS.out j (by omega)
            · by_cases he : j = k
              · rw [he, ← HY.out]; exact HV.out
              · exact HOK.out j (by omega)
          case measure => simp [Go.RowKit.intOf]; omega
        · have hf : okLB xs = false := by
            cases h3 : okLB xs
            · rfl
            · have := ((okLB_iff xs).1 h3).2 k (by have := HX.out; omega)
              rw [← HY.out] at this
              exact absurd this hv
          have HF := Frame.hid hf
          have HB4 := Frame.hid hB4
          clear hO3 hB4 hv hB3 hc1 bd0 bd1 hf
          go_wp2_with fail
          go_ret2
          exact ⟨.inr ⟨HF.out, rfl⟩, HB4.out⟩
      · have hkn : k = n := by omega
        subst hkn
        have hxn := HX.out
        have hmap : ss.map (·.data.toList) = xs.map itoa := by
          apply List.ext_getElem?
          intro j
          rw [List.getElem?_map, List.getElem?_map]
          by_cases hj : j < k
          · rw [hss j hj, List.getD_eq_getElem?_getD, List.getElem?_eq_getElem (by omega)]
            simp
          · rw [List.getElem?_eq_none (by omega), List.getElem?_eq_none (by omega)]
            rfl
        have hne : xs ≠ [] := by intro e; rw [e] at hxn; simp at hxn; omega
        have hjl := joinI_len xs (fun z hz => by
          obtain ⟨j, hj, e⟩ := List.getElem_of_mem hz
          have := hok j (by omega)
          rw [List.getD_eq_getElem?_getD, List.getElem?_eq_getElem hj] at this
          rw [← e]
          exact this)
        have hjoin : join (ss.map (·.data.toList)) ([44] : List UInt8) = textL xs := by rw [hmap]; unfold textL; rw [if_neg hne]; rfl
        have htl : (textL xs).length ≤ 1152 := by unfold textL; rw [if_neg hne]; omega
        have hf : okLB xs = true := (okLB_iff xs).2 ⟨by omega, fun j hj => hok j (by omega)⟩
        have hcells : ∀ (j : Nat) x, ss[j]? = some x → wr.cell? ⟨w.heap.size, 0 + j, none⟩ = some (.string x) := fun j x hx => by
          have hj : j < ss.length := (List.getElem?_eq_some_iff.1 hx).1
          rw [Nat.zero_add, World.ownsRow.cellAt hO j (by omega), List.getElem?_map, hx]
          rfl
        have hlt2 := (World.ownsRow.lt hO w.heap.size rfl).2
        have hJ := Tryd.strings_Join w.heap.size 0 k ss (⟨#[44]⟩ : ByteArray) wr hcells hlt2 (by omega) (by omega) (by
          show (join (ss.map (·.data.toList)) [44]).length ≤ _
          rw [hjoin]; omega)
        rw [hsl] at hJ
        have HJ := Frame.hid hJ
        have HJN := Frame.hid hjoin
        have HF := Frame.hid hf
        have HB := Frame.hid hB
        clear hss hok hO hB HST hsl hxn hmap hne hjl hjoin htl hf hcells hlt2 hJ
        go_wp2_with fail
        refine HJ.out.mono ?_
        rintro e w4 ⟨rfl, hB4⟩
        have HB4 := Frame.hid hB4
        clear hB4
        go_wp2_with fail
        go_ret2
        exact ⟨.inl ⟨HF.out, by rw [← HJN.out]; rfl⟩, HB.out.trans (HB4.out.mono HB.out.size)⟩

set_option maxHeartbeats 1000000 in
theorem listText_calls (A : Option Addr) (xs : List Int) (c : Nat) (w : World) (hn : xs.length ≤ 1048576) (hb : ∀ j, j < xs.length → -9223372036854775808 ≤ xs.getD j 0 ∧ xs.getD j 0 ≤ 9223372036854775807) (hA : RdI w A xs) (htab : TabIs Tryd.prog w "internal/strconv.uint64pow10" .u64 pow10Tab) :
    Calls Tryd.prog 42 #[.slice A xs.length c] w (LtV xs w) := by
  go_enter Tryd.func42, Tryd.ntmps42
  go_wp2_with fail
  refine (textOfItems_calls A xs c w hn hb hA htab).mono ?_
  rintro e w1 ⟨hc, hB⟩
  have HB := Frame.hid hB
  clear hB
  rcases hc with ⟨hf, rfl⟩ | ⟨hf, rfl⟩
  · have HF := Frame.hid hf
    clear hf hb hA htab
    go_wp2_with fail
    go_ret2
    exact ⟨.inl ⟨HF.out, rfl⟩, HB.out⟩
  · have HF := Frame.hid hf
    clear hf hb hA htab
    go_wp2_with fail
    go_ret2
    exact ⟨.inr ⟨HF.out, rfl⟩, HB.out⟩

end Go.Proofs.YtnhpiebddelebabDoor
