/-
  JournalOf: the specification's side, all of it.
-/
import Derived.Test.YtnhpiebddelebabDoorV9
namespace Go.Proofs.YtnhpiebddelebabDoor
open Go.RowKit Go.Lib Rd Go.WideShapes

theorem idx_mem (c : UInt8) : ∀ l : List UInt8, 0 ≤ indexByte l c ↔ c ∈ l
  | [] => by simp [indexByte]
  | b :: l => by
    have ih := idx_mem c l
    have hg := indexByte_ge l c
    unfold indexByte
    by_cases h : b = c
    · subst h; simp
    · rw [if_neg (by simpa using h)]
      have hne : c ≠ b := fun e => h e.symm
      simp only [List.mem_cons, hne, false_or]
      rw [← ih]
      split
      · rename_i h2
        have : indexByte l c = -1 := by simpa using h2
        rw [this]
      · rename_i h2
        have : indexByte l c ≠ -1 := by simpa using h2
        exact ⟨fun _ => by omega, fun _ => by omega⟩
theorem nl_hit {p : ByteArray} {i : Nat} (hi : i < p.size) (h : p[i] = 10) : nlB p = true := by
  unfold nlB
  rw [decide_eq_true_eq, idx_mem, ← h]
  have : p[i] = p.data.toList[i]'(by rw [size_list]; exact hi) := rfl
  rw [this]
  exact List.getElem_mem _
theorem nl_miss {p : ByteArray} (h : ∀ (i : Nat) (hi : i < p.size), p[i] ≠ 10) : nlB p = false := by
  unfold nlB
  rw [decide_eq_false_iff_not, idx_mem]
  intro hm
  obtain ⟨i, hi, e⟩ := List.getElem_of_mem hm
  exact h i (by rw [← size_list]; exact hi) e
/-- What some lines take at least. -/
def smL (ps : List ByteArray) (k : Nat) : Nat := ((ps.take k).map fun p => p.size + 3).sum
theorem smL_step {ps : List ByteArray} {k : Nat} {p : ByteArray} (h : ps[k]? = some p) : smL ps (k + 1) = smL ps k + (p.size + 3) := by
  unfold smL
  rw [List.take_add_one, h]
  simp
theorem jr_sum (ps : List ByteArray) : ∀ k, smL ps k ≤ (jr (ps.take k)).2.length ∧ (jr (ps.take k)).2.length ≤ smL ps k + 16 * k
  | 0 => by simp [smL, jr]
  | k + 1 => by
    obtain ⟨h1, h2⟩ := jr_sum ps k
    cases h : ps[k]? with
    | none =>
      have e : ps.take (k + 1) = ps.take k := by rw [List.take_add_one, h]; simp
      have e2 : smL ps (k + 1) = smL ps k := by unfold smL; rw [e]
      rw [e, e2]
      omega
    | some p =>
      obtain ⟨b0, b1⟩ := jr_bd k ps
      obtain ⟨d0, d1⟩ := chk_bd _ b0 b1 p.data.toList
      have hj := jl_len _ d0 d1 p.data.toList
      have hs : p.data.toList.length = p.size := size_list p
      rw [jr_take ps k p h, smL_step h, List.length_append]
      omega
theorem smL_no {ps : List ByteArray} {k : Nat} (h : 16000 < smL ps k) : ¬ okJ ps := fun ho => by
  have h1 := (jr_sum ps k).1
  have h2 := jr_all ps k
  have := ho.2
  omega

set_option maxRecDepth 100000 in
set_option maxHeartbeats 4000000 in
theorem specJournalOf_calls (A : Option Addr) (ps : List ByteArray) (n c : Nat) (hxn : n = ps.length) (hn : n ≤ 1048576) (hsz : ∀ (j : Nat) p, ps[j]? = some p → p.size ≤ 1048576) (w : World) (hr : RdL w A ps) :
    Calls Tryd.prog 10 #[.slice A n c] w (jnV ps w) := by
  have HX := Frame.hid hxn
  have HR := Frame.hid hr
  have HSZ := Frame.hid hsz
  clear hxn hr hsz
  go_enter Tryd.func10, Tryd.ntmps10
  go_wp2_with fail
  go_loopw [4, 5] (fun tv iv wr => ∃ k : Nat, k ≤ n ∧ iv = .int .i64 (k : Nat) ∧ tv = .int .i64 (smL ps k : Nat) ∧ smL ps k ≤ 16000 ∧ (∀ (j : Nat) p, j < k → ps[j]? = some p → nlB p = false) ∧ wr = w) (fun _ iv _ => n - (Go.RowKit.intOf iv).toNat)
  case atStart => exact ⟨0, Nat.zero_le _, rfl, rfl, by simp [smL], fun j p hj => absurd hj (by omega), rfl⟩
  case round =>
    obtain ⟨k, hk, rfl, rfl, hs, hnl, rfl⟩ := hrel
    have HNL := Frame.hid hnl
    clear hnl
    by_cases hlt : k < n
    · obtain ⟨b, off, rfl, hb, hc⟩ := HR.out.h (by have := HX.out; omega)
      obtain ⟨p, hp⟩ : ∃ p, ps[k]? = some p := ⟨_, List.getElem?_eq_getElem (by have := HX.out; omega)⟩
      have hc1 := hc k p hp
      have hps := HSZ.out k p hp
      have hst := smL_step hp
      obtain ⟨S, hS⟩ : ∃ S, S = smL ps k := ⟨_, rfl⟩
      rw [← hS] at hs hst ⊢
      have HST := Frame.hid hst
      have HP := Frame.hid hp
      have hlt3 : (k : Int) < (n : Int) := by omega
      have hk0 : (0 : Int) ≤ (k : Int) := by omega
      clear hst hp hc hS
      by_cases hbig : 16000 < S + (p.size + 3)
      · have HNO := Frame.hid (smL_no (ps := ps) (k := k + 1) (by rw [HST.out]; exact hbig))
        have hb16 : (16000 : Int) < (S : Int) + ((p.size : Int) + 3) := by omega
        go_wp2_with fail
        go_ret2
        exact ⟨.inr ⟨HNO.out, rfl⟩, Below.refl _ _⟩
      · have hb16 : ¬ ((16000 : Int) < (S : Int) + ((p.size : Int) + 3)) := by omega
        go_wp2_with fail
        go_loopw [6] (fun iv wr' => ∃ i : Nat, i ≤ p.size ∧ iv = .int .i64 (i : Nat) ∧ (∀ (j : Nat) (hj : j < p.size), j < i → p[j] ≠ 10) ∧ wr' = wr) (fun iv _ => p.size - (Go.RowKit.intOf iv).toNat)
        case atStart => exact ⟨0, Nat.zero_le _, rfl, fun j hj h => absurd h (by omega), rfl⟩
        case round =>
          obtain ⟨i, hi, rfl, hno, rfl⟩ := hrel
          have HNOB := Frame.hid hno
          clear hno
          by_cases hil : i < p.size
          · have hi0 : (0 : Int) ≤ (i : Int) := by omega
            have hi3 : (i : Int) < (p.size : Int) := by omega
            by_cases h10 : p[i] = 10
            · have hbz : (((p[i].toNat : Int)) == (10 : Int)) = true := by rw [h10]; rfl
              have HNO : Hid (¬ okJ ps) := Frame.hid (fun ho => by
                have h1 := ho.1 k p HP.out
                rw [nl_hit hil h10] at h1
                cases h1)
              clear h10
              go_wp2_with fail
              go_ret2
              exact ⟨.inr ⟨HNO.out, rfl⟩, Below.refl _ _⟩
            · have hbz : (((p[i].toNat : Int)) == (10 : Int)) = false := by rw [beq_eq_false_iff_ne]; intro e; exact h10 (UInt8.toNat_inj.1 (by show p[i].toNat = 10; omega))
              have H10 := Frame.hid h10
              clear h10
              go_wp2_with fail
              go_roundw
              case rel =>
                refine ⟨i + 1, by omega, by go_num, fun j hj h => ?_, trivial⟩
                by_cases he : j = i
                · subst he; exact H10.out
                · exact HNOB.out j hj (by omega)
              case measure => simp [Go.RowKit.intOf]; omega
          · have hie : i = p.size := by omega
            have hi3 : ¬ ((i : Int) < (p.size : Int)) := by omega
            have HNB := Frame.hid (nl_miss (p := p) (fun j hj => HNOB.out j hj (by omega)))
            clear hie
            go_wp2_with fail
            go_roundw
            case rel =>
              refine ⟨k + 1, by omega, by go_num, by rw [HST.out]; go_num, by rw [HST.out]; omega, fun j q hj hq => ?_, trivial⟩
              by_cases he : j = k
              · subst he
                have := HP.out
                rw [this] at hq
                injection hq with hq
                rw [← hq]
                exact HNB.out
              · exact HNL.out j q (by omega) hq
            case measure => simp [Go.RowKit.intOf]; omega
    · have hkn : k = n := by omega
      subst hkn
      have he : ps.take k = ps := List.take_of_length_le (by rw [← HX.out]; exact Nat.le_refl _)
      have hju := (jr_sum ps k).2
      rw [he] at hju
      have HC := Frame.hid (l08Journal_calls A ps k c HX.out hn HSZ.out (by omega) wr HR.out)
      have hnl : ∀ (j : Nat) p, ps[j]? = some p → nlB p = false := fun j p hp => HNL.out j p (by have := (List.getElem?_eq_some_iff.1 hp).1; have := HX.out; omega) hp
      have HNA := Frame.hid hnl
      clear he hnl hs
      obtain ⟨J, hJ⟩ : ∃ J, J = (jr ps).2 := ⟨_, rfl⟩
      rw [← hJ] at HC hju
      have HJ := Frame.hid hJ
      clear hJ
      by_cases hbig : 16000 < J.length
      · have hb16 : (16000 : Int) < (J.length : Int) := by omega
        have HNO : Hid (¬ okJ ps) := Frame.hid (fun ho => by have := ho.2; rw [← HJ.out] at this; omega)
        clear hbig
        go_wp2_with fail
        refine HC.out.mono ?_
        rintro e w2 ⟨rfl, hB2⟩
        have HB2 := Frame.hid hB2
        clear hB2
        go_wp2_with fail
        go_ret2
        exact ⟨.inr ⟨HNO.out, rfl⟩, HB2.out⟩
      · have hb16 : ¬ ((16000 : Int) < (J.length : Int)) := by omega
        have HOK : Hid (okJ ps) := Frame.hid ⟨HNA.out, by rw [← HJ.out]; omega⟩
        clear hbig
        go_wp2_with fail
        refine HC.out.mono ?_
        rintro e w2 ⟨rfl, hB2⟩
        have HB2 := Frame.hid hB2
        clear hB2
        go_wp2_with fail
        go_ret2
        exact ⟨.inl ⟨HOK.out, by rw [← HJ.out]; rfl⟩, HB2.out⟩

end Go.Proofs.YtnhpiebddelebabDoor
