/-
  NumbersText: the text of a list, both sides and the law, walked.
-/
import Derived.Test.YtnhpiebddelebabDoorHq
import Derived.Test.YtnhpiebddelebabDoorLp
import Derived.Test.YtnhpiebddelebabDoorOp
namespace Go.Proofs.YtnhpiebddelebabDoor
open Go.RowKit Go.Lib Rd Go.WideShapes Fl

/-- The text of numbers. -/
def joinX (xs : List Nat) : List UInt8 := join (xs.map hex8) [44]
def textX (xs : List Nat) : List UInt8 := if xs = [] then [110, 111, 110, 101] else joinX xs
theorem joinX_snoc (xs : List Nat) (x : Nat) (h : xs ≠ []) : joinX (xs ++ [x]) = joinX xs ++ 44 :: hex8 x := by
  cases xs with
  | nil => exact absurd rfl h
  | cons y ys =>
    unfold joinX
    rw [List.cons_append, List.map_cons, List.map_cons, join_cons, join_cons, List.map_append]
    unfold joinTail
    rw [List.map_append, List.flatten_append]
    simp
theorem joinX_one (x : Nat) : joinX [x] = hex8 x := by unfold joinX; rw [List.map_cons, List.map_nil, join_one]
theorem take_snocX (xs : List Nat) (k : Nat) (h : k < xs.length) : xs.take (k + 1) = xs.take k ++ [xs.getD k 0] := by
  rw [List.take_succ_eq_append_getElem h, List.getD_eq_getElem?_getD, List.getElem?_eq_getElem h]
  rfl
theorem take_oneX (xs : List Nat) (h : 0 < xs.length) : xs.take 1 = [xs.getD 0 0] := by
  have := take_snocX xs 0 h
  rw [this]; rfl
theorem joinX_len : ∀ (xs : List Nat), (joinX xs).length ≤ 9 * xs.length := by
  intro xs
  cases xs with
  | nil => simp [joinX, join_nil]
  | cons y ys =>
    have h1 := hex8_len y
    unfold joinX
    rw [List.map_cons, join_cons, List.length_append]
    have h2 : (joinTail [44] (ys.map hex8)).length ≤ 9 * ys.length := by
      clear h1
      induction ys with
      | nil => simp [joinTail]
      | cons z zs ih =>
        have hz1 := hex8_len z
        unfold joinTail at ih ⊢
        rw [List.map_cons, List.map_cons, List.flatten_cons, List.length_append]
        simp at ih ⊢
        omega
    simp
    omega

theorem zeros_below {w w' : World} (h : ZerosAt w) (hb : Below w.heap.size w w') : ZerosAt w' := (hb.cell (World.block_lt_of_cell? w _ h)).trans h

/-- What both sides answer. -/
def NtV (xs : List Nat) (w : World) (e : Ending) (w' : World) : Prop :=
  ((xs.length ≤ 256 ∧ e = .returned (.tuple #[.string ⟨(textX xs).toArray⟩, .bool true])) ∨ (256 < xs.length ∧ e = .returned (.tuple #[.string ⟨#[]⟩, .bool false]))) ∧ Below w.heap.size w w'

def TxtXAt (xs : List Nat) (n : Nat) (w : World) (v i : Value) (wr : World) : Prop :=
  ∃ k : Nat, 1 ≤ k ∧ k ≤ n ∧ i = .int .i64 k ∧ v = .string ⟨(joinX (xs.take k)).toArray⟩ ∧ Below w.heap.size w wr

set_option maxRecDepth 100000 in
set_option maxHeartbeats 2000000 in
theorem l01NText_calls (A : Option Addr) (xs : List Nat) (c : Nat) (w : World) (hn : xs.length ≤ 256) (hv : ∀ j, j < xs.length → ((xs.getD j 0 : Nat) : Int) < 4294967296) (hA : RdF w A xs) :
    Calls Tryd.prog 60 #[.slice A xs.length c] w fun e w' => e = .returned (.string ⟨(textX xs).toArray⟩) ∧ Below w.heap.size w w' := by
  obtain ⟨n, hxn⟩ : ∃ n, n = xs.length := ⟨_, rfl⟩
  rw [← hxn] at hn ⊢
  have HX := Frame.hid hxn
  have HA := Frame.hid hA
  have HV := Frame.hid hv
  have HNN := Frame.hid hn
  clear hxn hA hv hn
  by_cases h0 : n = 0
  · subst h0
    have e0 : xs = [] := List.eq_nil_of_length_eq_zero HX.out.symm
    have HE := Frame.hid (show textX xs = [110, 111, 110, 101] by unfold textX; rw [if_pos e0])
    clear e0
    go_enter Tryd.func60, Tryd.ntmps60
    go_wp2_with fail
    go_ret
    exact ⟨by rw [HE.out]; rfl, Below.refl _ _⟩
  · obtain ⟨b, off, rfl, hb, hc⟩ := HA.out (by have := HX.out; omega)
    have hc0 := hc 0 (by have := HX.out; omega)
    have hv0 := HV.out 0 (by have := HX.out; omega)
    obtain ⟨x, hx⟩ : ∃ x, x = xs.getD 0 0 := ⟨_, rfl⟩
    rw [← hx, Nat.add_zero] at hc0
    rw [← hx] at hv0
    have HX0 := Frame.hid hx
    have HC := Frame.hid hc
    have HB := Frame.hid hb
    have HV0 : Unit → (x : Int) < 4294967296 := fun _ => hv0
    clear hc hx hv0
    go_enter Tryd.func60, Tryd.ntmps60
    go_wp2_with fail
    refine (l01Hex_calls x (HV0 ()) _).mono ?_
    rintro e w1 ⟨rfl, hB1⟩
    have HB1 := Frame.hid hB1
    clear hB1 hc0
    go_wp2_with fail
    go_loopw [3, 4] (fun v i wr => TxtXAt xs n w v i wr) (fun _ i _ => n - (Go.RowKit.intOf i).toNat)
    case atStart => exact ⟨1, Nat.le_refl _, by omega, rfl, by rw [take_oneX xs (by have := HX.out; omega), joinX_one, HX0.out], HB1.out⟩
    case round =>
      obtain ⟨k, hk1, hk, rfl, rfl, hB2⟩ := hrel
      by_cases hlt : k < n
      · have hc1 : wr.cell? ⟨b, off + k, none⟩ = some (.float .f32 (xs.getD k 0)) := (hB2.cell (p := ⟨b, off + k, none⟩) HB.out).trans (HC.out k (by have := HX.out; omega))
        have hvk := HV.out k (by have := HX.out; omega)
        have hsn := joinX_snoc (xs.take k) (xs.getD k 0) (by intro e; have := congrArg List.length e; rw [List.length_take, List.length_nil] at this; have := HX.out; omega)
        rw [← take_snocX xs k (by have := HX.out; omega)] at hsn
        have hTl := joinX_len (xs.take k)
        have hTl2 : (xs.take k).length ≤ 256 := by rw [List.length_take]; have := HX.out; have := HNN.out; omega
        obtain ⟨y, hy⟩ : ∃ y, y = xs.getD k 0 := ⟨_, rfl⟩
        rw [← hy] at hc1 hvk hsn
        have hil := hex8_len y
        have HVK : Unit → (y : Int) < 4294967296 := fun _ => hvk
        have HSN := Frame.hid hsn
        have HB2 := Frame.hid hB2
        generalize joinX (xs.take k) = T at *
        have hs1 : ¬ 9223372036854775807 < T.length + (1 + (hex8 y).length) := by omega
        have hs2 : ¬ 9223372036854775807 < 1 + (hex8 y).length := by omega
        clear hsn hy hB2 HB1 hTl hTl2 hil hvk
        go_wp2_with fail
        refine (l01Hex_calls y (HVK ()) _).mono ?_
        rintro e w3 ⟨rfl, hB3⟩
        have HB3 := Frame.hid hB3
        clear hB3 hc1
        have hn2 := HNN.out
        go_wp2_with fail
        go_roundw
        case rel =>
          have := HNN.out
          exact ⟨k + 1, by omega, by omega, by go_num, by rw [HSN.out, glue], HB2.out.trans (HB3.out.mono HB2.out.size)⟩
        case measure => have := HNN.out; simp [Go.RowKit.intOf]; omega
      · have hkn : k = n := by omega
        subst hkn
        have HE : Hid (joinX (xs.take k) = textX xs) := by
          show joinX (xs.take k) = textX xs
          rw [List.take_of_length_le (by rw [HX.out]; exact Nat.le_refl _)]
          unfold textX
          rw [if_neg (by intro e; have := HX.out; rw [e] at this; simp at this; omega)]
        have HB2 := Frame.hid hB2
        clear hB2 HB1
        go_wp2_with fail
        go_ret
        exact ⟨by rw [← HE.out]; rfl, HB2.out⟩

def ItXAt (xs : List Nat) (n : Nat) (w : World) (i : Value) (wr : World) : Prop :=
  ∃ k : Nat, k ≤ n ∧ i = .int .i64 k ∧ ∃ ss : List ByteArray, ss.length = n ∧ (∀ j, j < k → ss[j]? = some ⟨(hex8 (xs.getD j 0)).toArray⟩) ∧
    wr.ownsRow w.heap.size 9 1 (.slice (some ⟨w.heap.size, 0, none⟩) n n) n (ss.map Value.string) ∧ Below w.heap.size w wr

set_option maxRecDepth 100000 in
set_option maxHeartbeats 2000000 in
theorem textOfItemsX_calls (A : Option Addr) (xs : List Nat) (c : Nat) (w : World) (hn : xs.length ≤ 1048576) (hb : ∀ j, j < xs.length → ((xs.getD j 0 : Nat) : Int) < 4294967296) (hA : RdF w A xs) (hz : ZerosAt w) :
    Calls Tryd.prog 66 #[.slice A xs.length c, .int .i64 256, .func (.func 67) #[] #[]] w (NtV xs w) := by
  obtain ⟨i0, hi, hz0, hz1, hz2⟩ := info_parts infoS
  obtain ⟨n, hxn⟩ : ∃ n, n = xs.length := ⟨_, rfl⟩
  rw [← hxn] at hn ⊢
  have HX := Frame.hid hxn
  have HA := Frame.hid hA
  have HBD := Frame.hid hb
  have HT := Frame.hid hz
  clear hxn hA hb hz
  rcases (by omega : 256 < n ∨ n = 0 ∨ (1 ≤ n ∧ n ≤ 256)) with h | h | ⟨h1, h2⟩
  · have HF : Hid (256 < xs.length) := by show _ < _; rw [← HX.out]; exact h
    go_enter Tryd.func66, Tryd.ntmps66
    go_wp2_with fail
    go_ret2
    exact ⟨.inr ⟨HF.out, rfl⟩, Below.refl _ _⟩
  · subst h
    have e0 : xs = [] := List.eq_nil_of_length_eq_zero HX.out.symm
    have hf : xs.length ≤ 256 := by rw [e0]; simp
    have ht : textX xs = [110, 111, 110, 101] := by unfold textX; rw [if_pos e0]
    have HF := Frame.hid hf
    have HE := Frame.hid ht
    clear hf ht e0
    go_enter Tryd.func66, Tryd.ntmps66
    go_wp2_with fail
    go_ret2
    exact ⟨.inl ⟨HF.out, by rw [HE.out]; rfl⟩, Below.refl _ _⟩
  · go_enter Tryd.func66, Tryd.ntmps66
    go_wp2_with (at_make; refine wpList_make_full _ rfl _ _ 25 rfl w.heap.size 9 i0 (.string ByteArray.empty) 1 Tryd.underlying25 hi hz0 hz1 _ _ _ _ n rfl rfl rfl rfl ?c1 ?c2 ?c3 ?_)
    case c1 => rw [hz2]; omega
    case c2 => unfold maxLen; omega
    case c3 => simp
    intro w1 hown hgrow
    have HST : Hid (ItXAt xs n w (.int .i64 0) w1) := by
      refine ⟨0, Nat.zero_le _, rfl, List.replicate n ByteArray.empty, List.length_replicate, fun j hj => absurd hj (by omega), ?_, (Below.refl _ _).grown hgrow (Nat.le_refl _) (by simp)⟩
      have e : (madeCells #[Value.string ByteArray.empty] n).toList = (List.replicate n ByteArray.empty).map Value.string := by
        rw [List.map_replicate]
        exact toList_madeCells_one _ _
      rw [e] at hown
      exact hown
    clear hown hgrow hi hz0 hz1 hz2
    go_wp2_with fail
    go_loopw [25] (fun i wr => ItXAt xs n w i wr) (fun i _ => n - (Go.RowKit.intOf i).toNat)
    case atStart => exact HST.out
    case round =>
      obtain ⟨k, hk, rfl, ss, hsl, hss, hO, hB⟩ := hrel
      by_cases hlt : k < n
      · obtain ⟨b, off, rfl, hbl, hc⟩ := HA.out (by have := HX.out; omega)
        have hc1 : wr.cell? ⟨b, off + k, none⟩ = some (.float .f32 (xs.getD k 0)) := (hB.cell (p := ⟨b, off + k, none⟩) hbl).trans (hc k (by have := HX.out; omega))
        have hbd := HBD.out k (by have := HX.out; omega)
        obtain ⟨y, hy⟩ : ∃ y, y = xs.getD k 0 := ⟨_, rfl⟩
        rw [← hy] at hc1 hbd
        have HY := Frame.hid hy
        have HSS := Frame.hid hss
        have HO := Frame.hid hO
        have HB := Frame.hid hB
        have HSL := Frame.hid hsl
        have HBL := Frame.hid hbl
        have HBDY : Unit → (y : Int) < 4294967296 := fun _ => hbd
        clear hc hy hss hO hB hsl HST hbl hbd
        go_wp2_with fail
        refine (textOfNumber_calls y (HBDY ()) _ (zeros_below HT.out HB.out)).mono ?_
        rintro e w3 ⟨rfl, hB3⟩
        have hO3 := own_below HO.out hB3
        have hB4 := HB.out.trans (hB3.mono HB.out.size)
        obtain ⟨s0, hs0⟩ : ∃ s0, ss[k]? = some s0 := ⟨_, List.getElem?_eq_getElem (by have := HSL.out; omega)⟩
        have hc2 : w3.cell? ⟨w.heap.size, k, none⟩ = some (.string s0) := by
          rw [World.ownsRow.cellAt hO3 k (by omega), List.getElem?_map, hs0]
          rfl
        have hfz := World.ownsRow.frozenAt hO3 k
        have HO3 := Frame.hid hO3
        have HB4 := Frame.hid hB4
        clear hO3 hB4 hB3 hc1 hs0
        go_wp2_with fail
        go_roundw
        case rel =>
          have hst := (World.ownsRow.stored HO3.out k (.string ⟨(hex8 y).toArray⟩))
          have hset : (ss.map Value.string).set k (.string ⟨(hex8 y).toArray⟩) = (ss.set k ⟨(hex8 y).toArray⟩).map Value.string := by rw [List.map_set]
          rw [hset] at hst
          refine ⟨k + 1, by omega, by go_num, ss.set k ⟨(hex8 y).toArray⟩, by rw [List.length_set]; exact HSL.out, fun j hj => ?_, hst.1, HB4.out.setCell (p := ⟨w.heap.size, _, none⟩) (Nat.le_refl _) _⟩
          · by_cases he : j = k
            · rw [he, List.getElem?_set_self (by have := HSL.out; omega), HY.out]
            · rw [List.getElem?_set_ne (by omega)]
              exact HSS.out j (by omega)
        case measure => simp [Go.RowKit.intOf]; omega
      · have hkn : k = n := by omega
        subst hkn
        have hxn := HX.out
        have hmap : ss.map (·.data.toList) = xs.map hex8 := by
          apply List.ext_getElem?
          intro j
          rw [List.getElem?_map, List.getElem?_map]
          by_cases hj : j < k
          · rw [hss j hj, List.getD_eq_getElem?_getD, List.getElem?_eq_getElem (by omega)]
            simp
          · rw [List.getElem?_eq_none (by omega), List.getElem?_eq_none (by omega)]
            rfl
        have hne : xs ≠ [] := by intro e; rw [e] at hxn; simp at hxn; omega
        have hjl := joinX_len xs
        have hjoin : join (ss.map (·.data.toList)) ([44] : List UInt8) = textX xs := by rw [hmap]; unfold textX; rw [if_neg hne]; rfl
        have htl : (textX xs).length ≤ 2304 := by unfold textX; rw [if_neg hne]; omega
        have hf : xs.length ≤ 256 := by omega
        have hcells : ∀ (j : Nat) x, ss[j]? = some x → wr.cell? ⟨w.heap.size, 0 + j, none⟩ = some (.string x) := fun j x hx => by
          have hj : j < ss.length := (List.getElem?_eq_some_iff.1 hx).1
          rw [Nat.zero_add, World.ownsRow.cellAt hO j (by omega), List.getElem?_map, hx]
          rfl
        have hlt2 := (World.ownsRow.lt hO w.heap.size rfl).2
        have hJ := Tryd.strings_Join w.heap.size 0 k ss (⟨#[44]⟩ : ByteArray) wr hcells hlt2 (by omega) (by omega) (by
          show (join (ss.map (·.data.toList)) [44]).length ≤ _
          rw [hjoin]; omega)
        rw [hsl] at hJ
        have HJ := Frame.hid hJ
        have HJN := Frame.hid hjoin
        have HF := Frame.hid hf
        have HB := Frame.hid hB
        clear hss hO hB HST hsl hxn hmap hne hjl hjoin htl hf hcells hlt2 hJ
        go_wp2_with fail
        refine HJ.out.mono ?_
        rintro e w4 ⟨rfl, hB4⟩
        have HB4 := Frame.hid hB4
        clear hB4
        go_wp2_with fail
        go_ret2
        exact ⟨.inl ⟨HF.out, by rw [← HJN.out]; rfl⟩, HB.out.trans (HB4.out.mono HB.out.size)⟩

set_option maxHeartbeats 1000000 in
theorem numbersText_calls (A : Option Addr) (xs : List Nat) (c : Nat) (w : World) (hn : xs.length ≤ 1048576) (hb : ∀ j, j < xs.length → ((xs.getD j 0 : Nat) : Int) < 4294967296) (hA : RdF w A xs) (hz : ZerosAt w) :
    Calls Tryd.prog 43 #[.slice A xs.length c] w (NtV xs w) := by
  go_enter Tryd.func43, Tryd.ntmps43
  go_wp2_with fail
  refine (textOfItemsX_calls A xs c w hn hb hA hz).mono ?_
  rintro e w1 ⟨hc, hB⟩
  have HB := Frame.hid hB
  clear hB
  rcases hc with ⟨hf, rfl⟩ | ⟨hf, rfl⟩
  · have HF := Frame.hid hf
    clear hf hb hA hz
    go_wp2_with fail
    go_ret2
    exact ⟨.inl ⟨HF.out, rfl⟩, HB.out⟩
  · have HF := Frame.hid hf
    clear hf hb hA hz
    go_wp2_with fail
    go_ret2
    exact ⟨.inr ⟨HF.out, rfl⟩, HB.out⟩

end Go.Proofs.YtnhpiebddelebabDoor
