/-
  The lines of a text: the program's and the specification's.
-/
import Derived.Test.YtnhpiebddelebabDoorSv
import Derived.Test.YtnhpiebddelebabDoorRl
import Derived.Test.YtnhpiebddelebabDoorG5
namespace Go.Proofs.YtnhpiebddelebabDoor
open Go.RowKit Go.Lib Rd Go.WideShapes

theorem cut_count (c : UInt8) : ∀ l : List UInt8, (Ct.cut c l).length = count l [c] + 1
  | [] => by rw [count_miss (by simp [index])]; rfl
  | b :: l => by
    by_cases h : b = c
    · subst h
      rw [Ct.cut_cons_eq, count_cons_eq, List.length_cons, cut_count b l]; omega
    · obtain ⟨p, ps, e⟩ : ∃ p ps, Ct.cut c l = p :: ps := by
        cases hc : Ct.cut c l with
        | nil => have := Ct.cut_ne c l; rw [hc] at this; simp at this
        | cons p ps => exact ⟨p, ps, rfl⟩
      have ih := cut_count c l
      rw [e] at ih
      rw [Ct.cut_cons_ne l p ps h e, count_cons_ne b c l h]
      simpa using ih
/-- The library's cutting at all marks. -/
theorem split_all (c : UInt8) (s : ByteArray) : (splitB ⟨#[c]⟩ 0 (countB s ⟨#[c]⟩) s).map (·.data.toList) = Ct.cut c s.data.toList := by
  have h1 := splitB_data ⟨#[c]⟩ 0 (countB s ⟨#[c]⟩) s
  rw [h1]
  exact (Ct.split_cut c (countB s ⟨#[c]⟩) s.data.toList).2 (Nat.le_of_eq (cut_count c s.data.toList))
/-- The parts of a text between newlines. -/
def PS (s : ByteArray) : List ByteArray := (Ct.cut 10 s.data.toList).map fun l => ⟨l.toArray⟩
theorem PS_of {s : ByteArray} {ps : List ByteArray} (h : Ct.cut 10 s.data.toList = ps.map (·.data.toList)) : ps = PS s := by
  unfold PS
  rw [h, List.map_map]
  have : ((fun l : List UInt8 => (⟨l.toArray⟩ : ByteArray)) ∘ fun x : ByteArray => x.data.toList) = id := by funext x; rfl
  rw [this, List.map_id]
theorem PS_len (s : ByteArray) : 1 ≤ (PS s).length ∧ (PS s).length ≤ s.size + 1 := by
  unfold PS
  rw [List.length_map]
  have h := Ct.cut_le 10 s.data.toList
  rw [size_list] at h
  exact ⟨Ct.cut_ne _ _, h⟩
/-- Nothing stands behind the last newline. -/
def lastB (s : ByteArray) : Bool := ((PS s).getLastD ByteArray.empty).toList == []
theorem last_at {s : ByteArray} {k : Nat} {r : ByteArray} (hk : (PS s).length = k + 1) (hr : (PS s)[k]? = some r) : (r.toList == []) = lastB s := by
  unfold lastB
  have : (PS s).getLastD ByteArray.empty = r := by
    rw [List.getLastD_eq_getLast?, List.getLast?_eq_getElem?, hk, Nat.add_sub_cancel, hr]
    rfl
  rw [this]
/-- What is read of lines in memory. -/
def RdT (w : World) (g : Nat) (ps : List ByteArray) : Prop := ∀ (j : Nat) x, ps[j]? = some x → w.cell? ⟨g, j, none⟩ = some (.string x)
theorem RdT.below {w w' : World} {g : Nat} {ps : List ByteArray} (h : RdT w g ps) (hg : g < w.heap.size) (hB : Below w.heap.size w w') : RdT w' g ps := fun j x hx => (hB.cell (p := ⟨g, j, none⟩) hg).trans (h j x hx)

set_option maxHeartbeats 1000000 in
theorem linesOf_calls (s : ByteArray) (hs : s.size ≤ 1048576) (m : Int) (w : World) (hm : w.cell? ⟨0, 0, none⟩ = some (.int .i64 m)) :
    Calls Tryd.prog 24 #[.string s] w fun e w' => Below w.heap.size w w' ∧ ((s.size ≤ 16000 ∧ lastB s = true ∧ ∃ g k c, (PS s).length = k + 1 ∧ e = .returned (.tuple #[.slice (some ⟨g, 0, none⟩) k c, .bool true]) ∧ RdT w' g (PS s) ∧ g < w'.heap.size) ∨
      (¬ (s.size ≤ 16000 ∧ lastB s = true) ∧ e = .returned (.tuple #[.slice none 0 0, .bool false]))) := by
  have HM := Frame.hid hm
  clear hm
  by_cases hbig : 16000 < s.size
  · go_enter Tryd.func24, Tryd.ntmps24
    go_wp2_with fail
    go_ret2
    exact ⟨Below.refl _ _, .inr ⟨by omega, rfl⟩⟩
  · have hsz : s.size ≤ 16000 := by omega
    obtain ⟨k, hk⟩ : ∃ k, (PS s).length = k + 1 := ⟨(PS s).length - 1, by have := (PS_len s).1; omega⟩
    have hkb : k ≤ 16000 := by have := (PS_len s).2; omega
    obtain ⟨r, hr⟩ : ∃ r, (PS s)[k]? = some r := ⟨_, List.getElem?_eq_getElem (by omega)⟩
    have hlast := last_at hk hr
    have hSP := fun W hm => Tryd.strings_Split s ⟨#[10]⟩ m W (by omega) hm (by decide)
    rw [show countB s ⟨#[10]⟩ + 1 = k + 1 by rw [← hk]; unfold PS; rw [List.length_map, cut_count], PS_of (split_all 10 s).symm] at hSP
    have hread : ∀ W : World, RdT (W.alloc (.cells ((PS s).map Value.string).toArray 9)) W.heap.size (PS s) := fun W j x hx => by
      rw [World.cell?_alloc_new]
      simp [hx]
    have HSP := Frame.hid hSP
    have HRD := Frame.hid hread
    have HK := Frame.hid hk
    have HR := Frame.hid hr
    have HL := Frame.hid hlast
    have HSZ := Frame.hid hsz
    clear hSP hread hk hr hlast
    cases hb : lastB s
    · have hb1 : (r.toList == []) = false := by rw [HL.out, hb]
      have HB := Frame.hid hb
      clear hb
      go_enter Tryd.func24, Tryd.ntmps24
      go_wp2_with fail
      refine (HSP.out _ HM.out).mono ?_
      rintro e w1 ⟨rfl, hw1⟩
      have hc : w1.cell? ⟨w.heap.size, k, none⟩ = some (.string r) := by rw [hw1]; exact HRD.out w k r HR.out
      have HB1 : Hid (Below w.heap.size w w1) := Frame.hid (by rw [hw1]; exact (Below.refl _ _).alloc (Nat.le_refl _) _)
      clear hw1
      go_wp2_with fail
      go_ret2
      exact ⟨HB1.out, .inr ⟨by simp, rfl⟩⟩
    · have hb1 : (r.toList == []) = true := by rw [HL.out, hb]
      have HB := Frame.hid hb
      clear hb
      go_enter Tryd.func24, Tryd.ntmps24
      go_wp2_with fail
      refine (HSP.out _ HM.out).mono ?_
      rintro e w1 ⟨rfl, hw1⟩
      have hc : w1.cell? ⟨w.heap.size, k, none⟩ = some (.string r) := by rw [hw1]; exact HRD.out w k r HR.out
      have HB1 : Hid (Below w.heap.size w w1) := Frame.hid (by rw [hw1]; exact (Below.refl _ _).alloc (Nat.le_refl _) _)
      have HR1 : Hid (RdT w1 w.heap.size (PS s) ∧ w.heap.size < w1.heap.size) := Frame.hid (by rw [hw1]; exact ⟨HRD.out w, by simp⟩)
      clear hw1
      go_wp2_with fail
      go_ret2
      exact ⟨HB1.out, .inl ⟨HSZ.out, trivial, _, _, _, HK.out, rfl, HR1.out.1, HR1.out.2⟩⟩

set_option maxHeartbeats 1000000 in
theorem l08Lines_calls (s : ByteArray) (hs : s.size ≤ 1048576) (w : World) :
    Calls Tryd.prog 23 #[.string s] w fun e w' => Below w.heap.size w w' ∧ ∃ g k c r, (PS s).length = k + 1 ∧ (PS s)[k]? = some r ∧ e = .returned (.tuple #[.slice (some ⟨g, 0, none⟩) k c, .string r]) ∧ RdT w' g (PS s) ∧ g < w'.heap.size := by
  obtain ⟨k, hk⟩ : ∃ k, (PS s).length = k + 1 := ⟨(PS s).length - 1, by have := (PS_len s).1; omega⟩
  have hkb : k ≤ 1048576 := by have := (PS_len s).2; omega
  obtain ⟨r, hr⟩ : ∃ r, (PS s)[k]? = some r := ⟨_, List.getElem?_eq_getElem (by omega)⟩
  have HC := Frame.hid (l01Cut_calls s 10 hs w)
  have HK := Frame.hid hk
  have HR := Frame.hid hr
  clear hk hr
  go_enter Tryd.func23, Tryd.ntmps23
  go_wp2_with fail
  refine HC.out.mono ?_
  rintro e w1 ⟨g, cap, out, rfl, hcut, hO, hB⟩
  have hps := PS_of hcut
  have hgl := (World.ownsRow.lt hO g rfl).2
  have hrd : RdT w1 g (PS s) := fun j x hx => by rw [← hps] at hx; exact OwnT.cell hO rfl hx
  have hlen : out.length = k + 1 := by rw [hps, HK.out]
  rw [hlen]
  have hcap : k + 1 ≤ cap := by
    rcases hO.2 with ⟨h0, _⟩ | ⟨g', cap', cur, hv, _, _, h1, _⟩
    · cases h0
    · injection hv with _ _ hv
      rw [← hlen, hv]
      exact h1
  have hc := hrd k r HR.out
  have HRD := Frame.hid hrd
  have HB := Frame.hid hB
  clear hcut hO hps hrd hlen hB
  go_wp2_with fail
  have hS0 : Below w1.heap.size w1 w1.drew := (Below.refl _ _).drew
  have hkw : IntKind.i64.wrap (k : Int) = (k : Int) := by rw [IntKind.wrap_i64]; omega
  have hk0 : (0 : Int) ≤ (k : Int) := by omega
  have hkc : (k : Int) ≤ (cap : Int) := by omega
  have hk1 : (k : Int) < (k : Int) + 1 := by omega
  refine region_end 11 (fun W => Below w1.heap.size w1 W) (by kernel_rfl) (by kernel_rfl) hS0 ?_
  simp only [List.take_succ_cons, List.take_zero, List.drop_succ_cons, List.drop_zero]
  iterate 11
    refine' eLex_cons (Or.inl ⟨by rfl, fun wq hSq => _⟩) _
    rotate_left
    · (have q0 := (hSq.cell (p := ⟨g, k, none⟩) hgl).trans hc; go_simp; (try with_reducible rfl))
    simp only [Act.put, List.setIfInBounds_toArray, List.set_cons_zero, List.set_cons_succ]
  refine eLex_nil ?_
  refine wpTail_cons (fun K hK => ?_)
  go_simp
  refine hK.out _ _ (.inr hS0) ?_
  clear hK K
  refine wpTail_cons (fun K hK => ?_)
  go_simp
  refine hK.out _ _ (.inl rfl) ?_
  clear hK K
  refine wpTail_done ?_
  go_wp2_with fail
  go_ret2
  exact ⟨HB.out.drew, _, _, _, _, HK.out, HR.out, rfl, HRD.out.below hgl hS0, Nat.lt_of_lt_of_le hgl hS0.size⟩

end Go.Proofs.YtnhpiebddelebabDoor
