/-
  ComplexText: the program's side, walked, and that its texts are read back.
-/
import Derived.Test.YtnflmdlhcjjfdadGreatDoorTr
import Derived.Test.YtnflmdlhcjjfdadGreatDoorGs
namespace Go.Proofs.YtnflmdlhcjjfdadGreatDoor
open Go.RowKit Go.Lib Rd Go.WideShapes Fl

def hexC (z : Nat × Nat) : List UInt8 := hex8 z.1 ++ hex8 z.2
theorem hexC_len (z : Nat × Nat) : (hexC z).length = 16 := by unfold hexC; rw [List.length_append, hex8_len, hex8_len]
def joinC (xs : List (Nat × Nat)) : List UInt8 := join (xs.map hexC) [44]
def textC (xs : List (Nat × Nat)) : List UInt8 := if xs = [] then [110, 111, 110, 101] else joinC xs
theorem joinC_one (x : Nat × Nat) : joinC [x] = hexC x := by unfold joinC; rw [List.map_cons, List.map_nil, join_one]
theorem joinC_cons (x y : Nat × Nat) (ys : List (Nat × Nat)) : joinC (x :: y :: ys) = hexC x ++ 44 :: joinC (y :: ys) := by
  unfold joinC
  rw [List.map_cons, join_cons, List.map_cons, join_cons]
  unfold joinTail
  rw [List.map_cons, List.flatten_cons]
  simp
theorem joinC_len : ∀ xs : List (Nat × Nat), (joinC xs).length ≤ 17 * xs.length
  | [] => by simp [joinC, join_nil]
  | [x] => by rw [joinC_one, hexC_len]; simp
  | x :: y :: ys => by
    have h := joinC_len (y :: ys)
    rw [joinC_cons, List.length_append, hexC_len, List.length_cons, List.length_cons]
    omega
def Bnd (xs : List (Nat × Nat)) : Prop := ∀ j, j < xs.length → ((xs.getD j (0, 0)).1 : Int) < 4294967296 ∧ ((xs.getD j (0, 0)).2 : Int) < 4294967296
def NtCV (xs : List (Nat × Nat)) (w : World) (e : Ending) (w' : World) : Prop :=
  ((xs.length ≤ 256 ∧ e = .returned (.tuple #[.string ⟨(textC xs).toArray⟩, .bool true])) ∨ (256 < xs.length ∧ e = .returned (.tuple #[.string ⟨#[]⟩, .bool false]))) ∧ Below w.heap.size w w'

theorem textOfComplex_calls (x y : Nat) (hx : (x : Int) < 4294967296) (hy : (y : Int) < 4294967296) (w : World) (hz : ZerosAt w) : Calls Tryz.prog 37 #[.complex .f32 x y] w fun e w' => e = .returned (.tuple #[.string ⟨(hexC (x, y)).toArray⟩, .bool true]) ∧ Below w.heap.size w w' := by
  have HX := Frame.hid hx
  have HY := Frame.hid hy
  have HZ := Frame.hid hz
  have hl1 := hex8_len x
  have hl2 := hex8_len y
  have HG : Hid ((⟨(hexC (x, y)).toArray⟩ : ByteArray) = ⟨(hex8 x ++ hex8 y).toArray⟩) := Frame.hid rfl
  clear hx hy hz
  go_enter Tryz.func37, Tryz.ntmps37
  go_wp2_with fail
  refine (textOfNumber_calls x HX.out _ HZ.out).mono ?_
  rintro e w1 ⟨rfl, hB⟩
  have HB := Frame.hid hB
  clear hB
  go_wp2_with fail
  refine (textOfNumber_calls y HY.out _ (zeros_below HZ.out HB.out)).mono ?_
  rintro e w2 ⟨rfl, hB⟩
  have HB2 := Frame.hid (HB.out.trans (hB.mono HB.out.size))
  clear hB
  generalize hex8 x = T at *
  generalize hex8 y = R at *
  have hs1 : ¬ 9223372036854775807 < T.length + R.length := by omega
  clear hl1 hl2
  go_wp2_with fail
  go_ret2
  exact ⟨by rw [HG.out, ← glue2]; rfl, HB2.out⟩

def ItCAt (xs : List (Nat × Nat)) (n : Nat) (w : World) (i : Value) (wr : World) : Prop :=
  ∃ k : Nat, k ≤ n ∧ i = .int .i64 k ∧ ∃ ss : List ByteArray, ss.length = n ∧ (∀ j, j < k → ss[j]? = some ⟨(hexC (xs.getD j (0, 0))).toArray⟩) ∧
    wr.ownsRow w.heap.size 9 1 (.slice (some ⟨w.heap.size, 0, none⟩) n n) n (ss.map Value.string) ∧ Below w.heap.size w wr

set_option maxRecDepth 100000 in
set_option maxHeartbeats 2000000 in
theorem textOfItemsC_calls (A : Option Addr) (xs : List (Nat × Nat)) (c : Nat) (w : World) (hn : xs.length ≤ 1048576) (hb : Bnd xs) (hA : RdC w A xs) (hz : ZerosAt w) :
    Calls Tryz.prog 36 #[.slice A xs.length c, .int .i64 256, .func (.func 37) #[] #[]] w (NtCV xs w) := by
  obtain ⟨i0, hi, hz0, hz1, hz2⟩ := info_parts infoS
  obtain ⟨n, hxn⟩ : ∃ n, n = xs.length := ⟨_, rfl⟩
  rw [← hxn] at hn ⊢
  have HX := Frame.hid hxn
  have HA := Frame.hid hA
  have HBD := Frame.hid hb
  have HT := Frame.hid hz
  clear hxn hA hb hz
  rcases (by omega : 256 < n ∨ n = 0 ∨ (1 ≤ n ∧ n ≤ 256)) with h | h | ⟨h1, h2⟩
  · have HF : Hid (256 < xs.length) := by show _ < _; rw [← HX.out]; exact h
    go_enter Tryz.func36, Tryz.ntmps36
    go_wp2_with fail
    go_ret2
    exact ⟨.inr ⟨HF.out, rfl⟩, Below.refl _ _⟩
  · subst h
    have e0 : xs = [] := List.eq_nil_of_length_eq_zero HX.out.symm
    have hf : xs.length ≤ 256 := by rw [e0]; simp
    have ht : textC xs = [110, 111, 110, 101] := by unfold textC; rw [if_pos e0]
    have HF := Frame.hid hf
    have HE := Frame.hid ht
    clear hf ht e0
    go_enter Tryz.func36, Tryz.ntmps36
    go_wp2_with fail
    go_ret2
    exact ⟨.inl ⟨HF.out, by rw [HE.out]; rfl⟩, Below.refl _ _⟩
  · go_enter Tryz.func36, Tryz.ntmps36
    go_wp2_with (at_make; refine wpList_make_full _ rfl _ _ 76 rfl w.heap.size 9 i0 (.string ByteArray.empty) 1 Tryz.underlying76 hi hz0 hz1 _ _ _ _ n rfl rfl rfl rfl ?c1 ?c2 ?c3 ?_)
    case c1 => rw [hz2]; omega
    case c2 => unfold maxLen; omega
    case c3 => simp
    intro w1 hown hgrow
    have HST : Hid (ItCAt xs n w (.int .i64 0) w1) := by
      refine ⟨0, Nat.zero_le _, rfl, List.replicate n ByteArray.empty, List.length_replicate, fun j hj => absurd hj (by omega), ?_, (Below.refl _ _).grown hgrow (Nat.le_refl _) (by simp)⟩
      have e : (madeCells #[Value.string ByteArray.empty] n).toList = (List.replicate n ByteArray.empty).map Value.string := by
        rw [List.map_replicate]
        exact toList_madeCells_one _ _
      rw [e] at hown
      exact hown
    clear hown hgrow hi hz0 hz1 hz2
    go_wp2_with fail
    go_loopw [25] (fun i wr => ItCAt xs n w i wr) (fun i _ => n - (Go.RowKit.intOf i).toNat)
    case atStart => exact HST.out
    case round =>
      obtain ⟨k, hk, rfl, ss, hsl, hss, hO, hB⟩ := hrel
      by_cases hlt : k < n
      · obtain ⟨b, off, rfl, hbl, hc⟩ := HA.out (by have := HX.out; omega)
        have hc1 : wr.cell? ⟨b, off + k, none⟩ = some (cx (xs.getD k (0, 0))) := (hB.cell (p := ⟨b, off + k, none⟩) hbl).trans (hc k (by have := HX.out; omega))
        have hbd := HBD.out k (by have := HX.out; omega)
        obtain ⟨y, hy⟩ : ∃ y, y = xs.getD k (0, 0) := ⟨_, rfl⟩
        rw [← hy] at hc1 hbd
        have HY := Frame.hid hy
        have HSS := Frame.hid hss
        have HO := Frame.hid hO
        have HB := Frame.hid hB
        have HSL := Frame.hid hsl
        have HBL := Frame.hid hbl
        have HBDY : Unit → (y.1 : Int) < 4294967296 ∧ (y.2 : Int) < 4294967296 := fun _ => hbd
        clear hc hy hss hO hB hsl HST hbl hbd
        go_wp2_with fail
        refine (textOfComplex_calls y.1 y.2 (HBDY ()).1 (HBDY ()).2 _ (zeros_below HT.out HB.out)).mono ?_
        rintro e w3 ⟨rfl, hB3⟩
        have hO3 := own_below HO.out hB3
        have hB4 := HB.out.trans (hB3.mono HB.out.size)
        obtain ⟨s0, hs0⟩ : ∃ s0, ss[k]? = some s0 := ⟨_, List.getElem?_eq_getElem (by have := HSL.out; omega)⟩
        have hc2 : w3.cell? ⟨w.heap.size, k, none⟩ = some (.string s0) := by
          rw [World.ownsRow.cellAt hO3 k (by omega), List.getElem?_map, hs0]
          rfl
        have hfz := World.ownsRow.frozenAt hO3 k
        have HO3 := Frame.hid hO3
        have HB4 := Frame.hid hB4
        clear hO3 hB4 hB3 hc1 hs0
        go_wp2_with fail
        go_roundw
        case rel =>
          have hst := (World.ownsRow.stored HO3.out k (.string ⟨(hexC y).toArray⟩))
          have hset : (ss.map Value.string).set k (.string ⟨(hexC y).toArray⟩) = (ss.set k ⟨(hexC y).toArray⟩).map Value.string := by rw [List.map_set]
          rw [hset] at hst
          refine ⟨k + 1, by omega, by go_num, ss.set k ⟨(hexC y).toArray⟩, by rw [List.length_set]; exact HSL.out, fun j hj => ?_, hst.1, HB4.out.setCell (p := ⟨w.heap.size, _, none⟩) (Nat.le_refl _) _⟩
          · by_cases he : j = k
            · rw [he, List.getElem?_set_self (by have := HSL.out; omega), HY.out]
            · rw [List.getElem?_set_ne (by omega)]
              exact HSS.out j (by omega)
        case measure => simp [Go.RowKit.intOf]; omega
      · have hkn : k = n := by omega
        subst hkn
        have hxn := HX.out
        have hmap : ss.map (·.data.toList) = xs.map hexC := by
          apply List.ext_getElem?
          intro j
          rw [List.getElem?_map, List.getElem?_map]
          by_cases hj : j < k
          · rw [hss j hj, List.getD_eq_getElem?_getD, List.getElem?_eq_getElem (by omega)]
            simp
          · rw [List.getElem?_eq_none (by omega), List.getElem?_eq_none (by omega)]
            rfl
        have hne : xs ≠ [] := by intro e; rw [e] at hxn; simp at hxn; omega
        have hjl := joinC_len xs
        have hjoin : join (ss.map (·.data.toList)) ([44] : List UInt8) = textC xs := by rw [hmap]; unfold textC; rw [if_neg hne]; rfl
        have htl : (textC xs).length ≤ 4352 := by unfold textC; rw [if_neg hne]; omega
        have hf : xs.length ≤ 256 := by omega
        have hcells : ∀ (j : Nat) x, ss[j]? = some x → wr.cell? ⟨w.heap.size, 0 + j, none⟩ = some (.string x) := fun j x hx => by
          have hj : j < ss.length := (List.getElem?_eq_some_iff.1 hx).1
          rw [Nat.zero_add, World.ownsRow.cellAt hO j (by omega), List.getElem?_map, hx]
          rfl
        have hlt2 := (World.ownsRow.lt hO w.heap.size rfl).2
        have hJ := Tryz.strings_Join w.heap.size 0 k ss (⟨#[44]⟩ : ByteArray) wr hcells hlt2 (by omega) (by omega) (by
          show (join (ss.map (·.data.toList)) [44]).length ≤ _
          rw [hjoin]; omega)
        rw [hsl] at hJ
        have HJ := Frame.hid hJ
        have HJN := Frame.hid hjoin
        have HF := Frame.hid hf
        have HB := Frame.hid hB
        clear hss hO hB HST hsl hxn hmap hne hjl hjoin htl hf hcells hlt2 hJ
        go_wp2_with fail
        refine HJ.out.mono ?_
        rintro e w4 ⟨rfl, hB4⟩
        have HB4 := Frame.hid hB4
        clear hB4
        go_wp2_with fail
        go_ret2
        exact ⟨.inl ⟨HF.out, by rw [← HJN.out]; rfl⟩, HB.out.trans (HB4.out.mono HB.out.size)⟩

set_option maxHeartbeats 1000000 in
theorem complexText_calls (A : Option Addr) (xs : List (Nat × Nat)) (c : Nat) (w : World) (hn : xs.length ≤ 1048576) (hb : Bnd xs) (hA : RdC w A xs) (hz : ZerosAt w) :
    Calls Tryz.prog 16 #[.slice A xs.length c] w (NtCV xs w) := by
  go_enter Tryz.func16, Tryz.ntmps16
  go_wp2_with fail
  refine (textOfItemsC_calls A xs c w hn hb hA hz).mono ?_
  rintro e w1 ⟨hc, hB⟩
  have HB := Frame.hid hB
  clear hB
  rcases hc with ⟨hf, rfl⟩ | ⟨hf, rfl⟩
  · have HF := Frame.hid hf
    clear hf hb hA hz
    go_wp2_with fail
    go_ret2
    exact ⟨.inl ⟨HF.out, rfl⟩, HB.out⟩
  · have HF := Frame.hid hf
    clear hf hb hA hz
    go_wp2_with fail
    go_ret2
    exact ⟨.inr ⟨HF.out, rfl⟩, HB.out⟩

theorem hexC_ne (z : Nat × Nat) : (44 : UInt8) ∉ hexC z := by
  unfold hexC
  rw [List.mem_append, not_or]
  exact ⟨hex8_ne _, hex8_ne _⟩
theorem cut_joinC : ∀ xs : List (Nat × Nat), xs ≠ [] → Ct.cut 44 (joinC xs) = xs.map hexC
  | [], h => absurd rfl h
  | [x], _ => by rw [joinC_one, Ct.cut_miss (hexC_ne _)]; rfl
  | x :: y :: ys, _ => by rw [joinC_cons, Ct.cut_hit _ (hexC_ne _), cut_joinC (y :: ys) (by simp)]; rfl
def canonC (z : Nat × Nat) : Nat × Nat := (canon z.1, canon z.2)
theorem want_canonC {z : Nat × Nat} (h : (z.1 : Int) < 4294967296 ∧ (z.2 : Int) < 4294967296) : WantC (hexC z) (canonC z) := by
  refine ⟨hexC_len z, ?_, ?_⟩
  · have e : (hexC z).take 8 = hex8 z.1 := by unfold hexC; rw [List.take_left' (hex8_len _)]
    rw [e]; exact want_canon h.1
  · have e : (hexC z).drop 8 = hex8 z.2 := by unfold hexC; rw [List.drop_left' (hex8_len _)]
    rw [e]; exact want_canon h.2
theorem ok_textC {xs : List (Nat × Nat)} (hl : xs.length ≤ 256) (hb : ∀ z ∈ xs, (z.1 : Int) < 4294967296 ∧ (z.2 : Int) < 4294967296) : OkC (textC xs) (xs.map canonC) := by
  by_cases h : xs = []
  · subst h
    exact .inl ⟨rfl, rfl⟩
  · have ht : textC xs = joinC xs := by unfold textC; rw [if_neg h]
    refine .inr ⟨?_, by rw [List.length_map]; exact hl, ?_, ?_⟩
    · rw [ht]
      intro e
      have h1 := congrArg (Ct.cut 44) e
      rw [cut_joinC xs h] at h1
      have h2 : Ct.cut 44 noneT = [noneT] := by decide
      rw [h2] at h1
      cases xs with
      | nil => exact h rfl
      | cons x l =>
        rw [List.map_cons] at h1
        injection h1 with h3 _
        have := congrArg List.length h3
        rw [hexC_len] at this
        exact absurd this (by decide)
    · rw [ht, cut_joinC xs h, List.length_map, List.length_map]
    · intro j x hx
      rw [List.getElem?_map] at hx
      cases hj : xs[j]? with
      | none => rw [hj] at hx; cases hx
      | some y =>
        rw [hj] at hx
        injection hx with hx
        subst hx
        exact ⟨hexC y, by rw [ht, cut_joinC xs h, List.getElem?_map, hj]; rfl, want_canonC (hb y (List.mem_of_getElem? hj))⟩

end Go.Proofs.YtnflmdlhcjjfdadGreatDoor
