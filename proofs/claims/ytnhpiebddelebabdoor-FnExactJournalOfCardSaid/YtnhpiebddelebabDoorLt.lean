/-
  The text of a list: what it is, and the specification's side, walked.
-/
import Derived.Test.YtnhpiebddelebabDoorLi
import Derived.Lib.Join
namespace Go.Proofs.YtnhpiebddelebabDoor
open Go.RowKit Go.Lib Rd Go.WideShapes

def okV (x : Int) : Prop := -1000000000000000 ≤ x ∧ x ≤ 1000000000000000
def okL (xs : List Int) : Prop := xs.length ≤ 64 ∧ ∀ j, j < xs.length → okV (xs.getD j 0)
def okLB (xs : List Int) : Bool := decide (xs.length ≤ 64) && (List.range xs.length).all fun j => decide (-1000000000000000 ≤ xs.getD j 0) && decide (xs.getD j 0 ≤ 1000000000000000)
theorem okLB_iff (xs : List Int) : okLB xs = true ↔ okL xs := by
  unfold okLB okL okV
  rw [Bool.and_eq_true, decide_eq_true_eq, List.all_eq_true]
  simp only [List.mem_range, Bool.and_eq_true, decide_eq_true_eq]

/-- The text of the first k numbers. -/
def joinI (xs : List Int) : List UInt8 := join (xs.map itoa) [44]
def textL (xs : List Int) : List UInt8 := if xs = [] then [110, 111, 110, 101] else joinI xs
theorem joinI_snoc (xs : List Int) (x : Int) (h : xs ≠ []) : joinI (xs ++ [x]) = joinI xs ++ 44 :: itoa x := by
  cases xs with
  | nil => exact absurd rfl h
  | cons y ys =>
    unfold joinI
    rw [List.cons_append, List.map_cons, List.map_cons, join_cons, join_cons, List.map_append]
    unfold joinTail
    rw [List.map_append, List.flatten_append]
    simp
theorem joinI_one (x : Int) : joinI [x] = itoa x := by unfold joinI; rw [List.map_cons, List.map_nil, join_one]
theorem take_snocI (xs : List Int) (k : Nat) (h : k < xs.length) : xs.take (k + 1) = xs.take k ++ [xs.getD k 0] := by
  rw [List.take_succ_eq_append_getElem h, List.getD_eq_getElem?_getD, List.getElem?_eq_getElem h]
  rfl
theorem joinI_len : ∀ (xs : List Int), (∀ x ∈ xs, okV x) → (joinI xs).length ≤ 18 * xs.length := by
  intro xs h
  cases xs with
  | nil => simp [joinI, join_nil]
  | cons y ys =>
    have hy := h y (by simp)
    have h1 := itoa_short hy.1 hy.2
    unfold joinI
    rw [List.map_cons, join_cons, List.length_append]
    have h2 : (joinTail [44] (ys.map itoa)).length ≤ 18 * ys.length := by
      clear h1 hy
      induction ys with
      | nil => simp [joinTail]
      | cons z zs ih =>
        have hz := h z (by simp)
        have hz1 := itoa_short hz.1 hz.2
        have := ih (fun x hx => h x (by simp at hx ⊢; rcases hx with hx | hx <;> simp [hx]))
        unfold joinTail at this ⊢
        rw [List.map_cons, List.map_cons, List.flatten_cons, List.length_append]
        simp at this ⊢
        omega
    simp
    omega

/-- What both sides answer. -/
def LtV (xs : List Int) (w : World) (e : Ending) (w' : World) : Prop :=
  (okLB xs = true ∧ e = .returned (.tuple #[.string ⟨(textL xs).toArray⟩, .bool true]) ∨ okLB xs = false ∧ e = .returned (.tuple #[.string ⟨#[]⟩, .bool false])) ∧ Below w.heap.size w w'

theorem glue (T D : List UInt8) : Value.string ((⟨T.toArray⟩ : ByteArray) ++ ((⟨#[44]⟩ : ByteArray) ++ (⟨D.toArray⟩ : ByteArray))) = .string ⟨(T ++ 44 :: D).toArray⟩ := by
  congr 1 <;> (apply bytes_inj; simp)
theorem take_one (xs : List Int) (h : 0 < xs.length) : xs.take 1 = [xs.getD 0 0] := by
  have := take_snocI xs 0 h
  rw [this]; rfl
def TxtAt (xs : List Int) (n : Nat) (w : World) (v i : Value) (wr : World) : Prop :=
  ∃ k : Nat, 1 ≤ k ∧ k ≤ n ∧ i = .int .i64 k ∧ v = .string ⟨(joinI (xs.take k)).toArray⟩ ∧ Below w.heap.size w wr

set_option maxRecDepth 100000 in
set_option maxHeartbeats 2000000 in
theorem l01Text_calls (A : Option Addr) (xs : List Int) (c : Nat) (w : World) (hn : xs.length ≤ 64) (hv : ∀ j, j < xs.length → okV (xs.getD j 0)) (hA : RdI w A xs) :
    Calls Tryd.prog 59 #[.slice A xs.length c] w fun e w' => e = .returned (.string ⟨(textL xs).toArray⟩) ∧ Below w.heap.size w w' := by
  obtain ⟨n, hxn⟩ : ∃ n, n = xs.length := ⟨_, rfl⟩
  rw [← hxn] at hn ⊢
  have HX := Frame.hid hxn
  have HA := Frame.hid hA
  have HV := Frame.hid hv
  clear hxn hA hv
  by_cases h0 : n = 0
  · subst h0
    have e0 : xs = [] := List.eq_nil_of_length_eq_zero HX.out.symm
    have HE := Frame.hid (show textL xs = [110, 111, 110, 101] by unfold textL; rw [if_pos e0])
    clear e0
    go_enter Tryd.func59, Tryd.ntmps59
    go_wp2_with fail
    go_ret
    exact ⟨by rw [HE.out]; rfl, Below.refl _ _⟩
  · obtain ⟨b, off, rfl, hb, hc⟩ := HA.out (by have := HX.out; omega)
    have hc0 := hc 0 (by have := HX.out; omega)
    have hv0 := HV.out 0 (by have := HX.out; omega)
    obtain ⟨x, hx⟩ : ∃ x, x = xs.getD 0 0 := ⟨_, rfl⟩
    rw [← hx, Nat.add_zero] at hc0
    rw [← hx] at hv0
    have HX0 := Frame.hid hx
    have HC := Frame.hid hc
    have HB := Frame.hid hb
    obtain ⟨v0, v1⟩ := hv0
    clear hc hx
    go_enter Tryd.func59, Tryd.ntmps59
    go_wp2_with fail
    refine (l01Dec_calls x (by omega) (by omega) _).mono ?_
    rintro e w1 ⟨rfl, hB1⟩
    have HB1 := Frame.hid hB1
    clear hB1 hc0 v0 v1
    go_wp2_with fail
    go_loopw [3, 4] (fun v i wr => TxtAt xs n w v i wr) (fun _ i _ => n - (Go.RowKit.intOf i).toNat)
    case atStart => exact ⟨1, Nat.le_refl _, by omega, rfl, by rw [take_one xs (by have := HX.out; omega), joinI_one, HX0.out], HB1.out⟩
    case round =>
      obtain ⟨k, hk1, hk, rfl, rfl, hB2⟩ := hrel
      by_cases hlt : k < n
      · have hc1 : wr.cell? ⟨b, off + k, none⟩ = some (.int .i64 (xs.getD k 0)) := (hB2.cell (p := ⟨b, off + k, none⟩) HB.out).trans (HC.out k (by have := HX.out; omega))
        have hvk := HV.out k (by have := HX.out; omega)
        have hsn := joinI_snoc (xs.take k) (xs.getD k 0) (by intro e; have := congrArg List.length e; rw [List.length_take, List.length_nil] at this; have := HX.out; omega)
        rw [← take_snocI xs k (by have := HX.out; omega)] at hsn
        have hTl := joinI_len (xs.take k) (fun z hz => by
          obtain ⟨j, hj, e⟩ := List.getElem_of_mem hz
          rw [List.length_take] at hj
          have := HV.out j (by omega)
          rw [List.getD_eq_getElem?_getD, List.getElem?_eq_getElem (by omega)] at this
          rw [← e, List.getElem_take]
          exact this)
        have hTl2 : (xs.take k).length ≤ 64 := by rw [List.length_take]; have := HX.out; omega
        obtain ⟨y, hy⟩ : ∃ y, y = xs.getD k 0 := ⟨_, rfl⟩
        rw [← hy] at hc1 hvk hsn
        have hil := itoa_short hvk.1 hvk.2
        have HSN := Frame.hid hsn
        have HB2 := Frame.hid hB2
        obtain ⟨v0, v1⟩ := hvk
        generalize joinI (xs.take k) = T at *
        have hs1 : ¬ 9223372036854775807 < T.length + (1 + (itoa y).length) := by omega
        have hs2 : ¬ 9223372036854775807 < 1 + (itoa y).length := by omega
        clear hsn hy hB2 HB1 hTl hTl2 hil
        go_wp2_with fail
        refine (l01Dec_calls y (by omega) (by omega) _).mono ?_
        rintro e w3 ⟨rfl, hB3⟩
        have HB3 := Frame.hid hB3
        clear hB3 hc1 v0 v1
        go_wp2_with fail
        go_roundw
        case rel => exact ⟨k + 1, by omega, by omega, by go_num, by rw [HSN.out, glue], HB2.out.trans (HB3.out.mono HB2.out.size)⟩
        case measure => simp [Go.RowKit.intOf]; omega
      · have hkn : k = n := by omega
        subst hkn
        have HE : Hid (joinI (xs.take k) = textL xs) := by
          show joinI (xs.take k) = textL xs
          rw [List.take_of_length_le (by rw [HX.out]; exact Nat.le_refl _)]
          unfold textL
          rw [if_neg (by intro e; have := HX.out; rw [e] at this; simp at this; omega)]
        have HB2 := Frame.hid hB2
        clear hB2 HB1
        go_wp2_with fail
        go_ret
        exact ⟨by rw [← HE.out]; rfl, HB2.out⟩

end Go.Proofs.YtnhpiebddelebabDoor
