/-
  JournalOf: the program's side.
-/
import Derived.Test.YtnhpiebddelebabDoorV7
import Derived.Test.YtnhpiebddelebabDoorCw
namespace Go.Proofs.YtnhpiebddelebabDoor
open Go.RowKit Go.Lib Rd Go.WideShapes

def jnV (ps : List ByteArray) (w : World) (e : Ending) (w' : World) : Prop :=
  ((okJ ps ∧ e = .returned (.tuple #[.string ⟨(jr ps).2.toArray⟩, .bool true])) ∨ (¬ okJ ps ∧ e = .returned (.tuple #[.string ⟨#[]⟩, .bool false]))) ∧ Below w.heap.size w w'
theorem builder_below {T e : TypeId} {B b : Nat} {p : Value} {bs : List Value} {w w' : World} (h : BuilderAt T e B b p bs w) (hB : Below w.heap.size w w') : BuilderAt T e B b p bs w' := by
  have hlt := h.lt
  obtain ⟨h1, v, h2, h3, h4⟩ := h
  exact ⟨h1, v, by rw [hB.block b hlt]; exact h2, own_below h3 hB, h4⟩
theorem isB_below {T e : TypeId} {B b : Nat} {bs : List Value} {w w' : World} (h : IsBuilder T e B b bs w) (hB : Below w.heap.size w w') : IsBuilder T e B b bs w' := h.imp (fun h => builder_below h hB) (fun h => builder_below h hB)
theorem isB_new (w : World) (T e : TypeId) : IsBuilder T e w.heap.size w.heap.size [] (w.alloc (.cells #[.pointer none, .slice none 0 0] T)) := .inl ⟨Nat.le_refl _, .slice none 0 0, by show (w.heap.push _)[w.heap.size]? = _; simp, ⟨rfl, .inl ⟨rfl, rfl⟩⟩, by simp [Value.ownBlock]⟩
theorem byteCells_len (l : List UInt8) : (byteCells l).length = l.length := by simp [byteCells]
theorem byteCells_app (a b : List UInt8) : byteCells a ++ strCells ⟨b.toArray⟩ = byteCells (a ++ b) := by simp [byteCells, strCells]

set_option maxRecDepth 100000 in
set_option maxHeartbeats 4000000 in
theorem journalOf_calls (A : Option Addr) (ps : List ByteArray) (n c : Nat) (hxn : n = ps.length) (hn : n ≤ 1048576) (hsz : ∀ (j : Nat) p, ps[j]? = some p → p.size ≤ 1048576) (w : World) (hr : RdL w A ps) (htab : TabIs Tryd.prog w "internal/strconv.uint64pow10" .u64 pow10Tab) :
    Calls Tryd.prog 12 #[.slice A n c] w (jnV ps w) := by
  have HX := Frame.hid hxn
  have HR := Frame.hid hr
  have HSZ := Frame.hid hsz
  have HT := Frame.hid (tabBelow_of_tabIs htab)
  have HNEW := Frame.hid (isB_new w 53 5)
  clear hxn hr hsz htab
  go_enter Tryd.func12, Tryd.ntmps12
  go_wp2_with fail
  go_loopw [5, 10] (fun cv iv wr => ∃ k : Nat, k ≤ n ∧ iv = .int .i64 (k : Nat) ∧ cv = .int .i64 (jr (ps.take k)).1 ∧ (∀ (j : Nat) p, j < k → ps[j]? = some p → nlB p = false) ∧ (jr (ps.take k)).2.length ≤ 16000 ∧ IsBuilder 53 5 w.heap.size w.heap.size (byteCells (jr (ps.take k)).2) wr ∧ Below w.heap.size w wr) (fun _ iv _ => n - (Go.RowKit.intOf iv).toNat)
  case atStart => exact ⟨0, Nat.zero_le _, rfl, rfl, fun j p hj => absurd hj (by omega), by simp [jr], HNEW.out, (Below.refl _ _).alloc (Nat.le_refl _) _⟩
  case round =>
    obtain ⟨k, hk, rfl, rfl, hnl, hl, hIB, hB⟩ := hrel
    have HNL := Frame.hid hnl
    have HIB := Frame.hid hIB
    have HB := Frame.hid hB
    clear hnl hIB
    by_cases hlt : k < n
    · obtain ⟨b, off, rfl, hb, hc⟩ := HR.out.h (by have := HX.out; omega)
      obtain ⟨p, hp⟩ : ∃ p, ps[k]? = some p := ⟨_, List.getElem?_eq_getElem (by have := HX.out; omega)⟩
      have hc1 := (hB.cell (p := ⟨b, off + k, none⟩) hb).trans (hc k p hp)
      have hps := HSZ.out k p hp
      obtain ⟨b0, b1⟩ := jr_bd k ps
      have hjt := jr_take ps k p hp
      obtain ⟨d0, d1⟩ := chk_bd _ b0 b1 p.data.toList
      have hjb := jr_bd (k + 1) ps
      obtain ⟨m0, hm0⟩ : ∃ m0, m0 = (jr (ps.take k)).1 := ⟨_, rfl⟩
      obtain ⟨t0, ht0⟩ : ∃ t0, t0 = (jr (ps.take k)).2 := ⟨_, rfl⟩
      rw [← hm0] at b0 b1 d0 d1 hjt ⊢
      rw [← ht0] at hjt hl
      have HIB0 : Hid (IsBuilder 53 5 w.heap.size w.heap.size (byteCells t0) wr) := by rw [ht0]; exact HIB.out
      have HCK := Frame.hid (checkOf_calls m0 p hps)
      rw [show chkV m0 p = .tuple #[.int .i64 (chk m0 p.data.toList), .bool true] from chkV_yes b0 b1] at HCK
      obtain ⟨m1, hm1⟩ : ∃ m1, m1 = chk m0 p.data.toList := ⟨_, rfl⟩
      rw [← hm1] at HCK d0 d1 hjt
      have hjl := jl_len m1 d0 d1 p.data.toList
      obtain ⟨s1, hs1⟩ : ∃ s1, s1 = jl m1 p.data.toList := ⟨_, rfl⟩
      rw [← hs1] at hjt hjl
      have HJT := Frame.hid hjt
      have HS1 := Frame.hid hs1
      have HP := Frame.hid hp
      have hlt3 : (k : Int) < (n : Int) := by omega
      have hk0 : (0 : Int) ≤ (k : Int) := by omega
      have hws := hB.size
      have hpl : p.data.toList.length = p.size := size_list p
      clear hjt hs1 hp hc hm0 ht0 hm1 hjb HIB hB
      go_wp2_with fail
      refine (HCK.out _).mono ?_
      rintro e w1 ⟨rfl, rfl⟩
      go_wp2_with fail
      refine (journalLine_calls m1 d0 d1 p hps _ (HT.out.on HB.out).here).mono ?_
      rintro e w2 ⟨rfl, hB2⟩
      rw [← HS1.out]
      have hI2 := isB_below HIB0.out hB2
      have HB2 := Frame.hid (HB.out.trans (hB2.mono hws))
      clear hB2
      go_wp2_with fail
      refine (Tryd.Builder_WriteString w.heap.size w.heap.size (byteCells t0) ⟨s1.toArray⟩ w2 hI2 (by rw [byteCells_len]; show t0.length + s1.toArray.size ≤ _; rw [List.size_toArray]; omega) HB2.out.size).mono ?_
      rintro e w3 ⟨rfl, hI3, hB3⟩
      rw [byteCells_app] at hI3
      have HI3 : Hid (IsBuilder 53 5 w.heap.size w.heap.size (byteCells (t0 ++ s1)) w3) := Frame.hid (.inr hI3)
      have HB3 := Frame.hid (HB2.out.trans hB3)
      have hLL : (byteCells (t0 ++ s1)).length = t0.length + s1.length := by rw [byteCells_len, List.length_append]
      have HLEN := Frame.hid (Tryd.Builder_Len w.heap.size w.heap.size (byteCells (t0 ++ s1)) w3 HI3.out)
      rw [hLL] at HLEN
      have HCO := Frame.hid (Tryd.strings_Contains_one p 10 w3)
      clear hI2 hI3 hB3 hLL
      obtain ⟨L, hL⟩ : ∃ L, L = t0.length + s1.length := ⟨_, rfl⟩
      rw [← hL] at HLEN
      have HL := Frame.hid hL
      have hjs : (jr (ps.take (k + 1))).2.length = L := by rw [HJT.out, hL]; simp
      have HJS := Frame.hid hjs
      clear hjs hL
      cases hnb : nlB p
      · have hdec : decide (0 ≤ indexByte p.data.toList 10) = false := hnb
        have HNB := Frame.hid hnb
        rw [hdec] at HCO
        clear hnb hdec
        by_cases hbig : 16000 < L
        · have hno : ¬ okJ ps := fun h => by
            have h1 := h.2
            have h2 := jr_all ps (k + 1)
            rw [HJS.out] at h2
            omega
          have HNO := Frame.hid hno
          have hb16 : (16000 : Int) < (L : Int) := by omega
          clear hno
          go_wp2_with (first | (go_at_call 29; refine HCO.out.mono ?_; rintro e w4 ⟨rfl, rfl⟩) | (go_at_call 30; refine HLEN.out.mono ?_; rintro e w4 ⟨rfl, rfl⟩))
          go_ret2
          exact ⟨.inr ⟨HNO.out, rfl⟩, HB3.out⟩
        · have hb16 : ¬ ((16000 : Int) < (L : Int)) := by omega
          go_wp2_with (first | (go_at_call 29; refine HCO.out.mono ?_; rintro e w4 ⟨rfl, rfl⟩) | (go_at_call 30; refine HLEN.out.mono ?_; rintro e w4 ⟨rfl, rfl⟩))
          go_roundw
          case rel =>
            refine ⟨k + 1, by omega, by go_num, by rw [HJT.out], fun j q hj hq => ?_, by rw [HJS.out]; omega, by rw [HJT.out]; exact HI3.out, HB3.out⟩
            by_cases he : j = k
            · subst he
              have := HP.out
              rw [this] at hq
              injection hq with hq
              rw [← hq]
              exact HNB.out
            · exact HNL.out j q (by omega) hq
          case measure => simp [Go.RowKit.intOf]; omega
      · have hdec : decide (0 ≤ indexByte p.data.toList 10) = true := hnb
        have hno : ¬ okJ ps := fun h => by
          have h1 := h.1 k p HP.out
          rw [h1] at hnb
          cases hnb
        have HNO := Frame.hid hno
        rw [hdec] at HCO
        clear hnb hdec hno
        go_wp2_with (first | (go_at_call 29; refine HCO.out.mono ?_; rintro e w4 ⟨rfl, rfl⟩) | (go_at_call 30; refine HLEN.out.mono ?_; rintro e w4 ⟨rfl, rfl⟩))
        go_ret2
        exact ⟨.inr ⟨HNO.out, rfl⟩, HB3.out⟩
    · have hkn : k = n := by omega
      subst hkn
      have he : ps.take k = ps := List.take_of_length_le (by rw [← HX.out]; exact Nat.le_refl _)
      have hok : okJ ps := ⟨fun j p hp => HNL.out j p (by have := (List.getElem?_eq_some_iff.1 hp).1; have := HX.out; omega) hp, by rw [he] at hl; exact hl⟩
      have HST := Frame.hid (Tryd.Builder_String_any w.heap.size w.heap.size (jr (ps.take k)).2 wr HIB.out hB.size)
      rw [he] at HST
      have HOK := Frame.hid hok
      clear hok he hB
      go_wp2_with fail
      refine HST.out.mono ?_
      rintro e w2 ⟨rfl, hB2⟩
      have HB2 := Frame.hid (HB.out.trans hB2)
      clear hB2
      go_wp2_with fail
      go_ret2
      exact ⟨.inl ⟨HOK.out, rfl⟩, HB2.out⟩

end Go.Proofs.YtnhpiebddelebabDoor
