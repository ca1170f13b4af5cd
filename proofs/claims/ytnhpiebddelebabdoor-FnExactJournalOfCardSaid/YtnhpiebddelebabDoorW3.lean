/-
  The law of JournalOf, walked; a list of texts that comes in.
-/
import Derived.Test.YtnhpiebddelebabDoorW2
namespace Go.Proofs.YtnhpiebddelebabDoor
open Go.RowKit Go.Lib Rd Go.WideShapes

theorem okJ_same {ps : List ByteArray} {w1 w1' w2 w2' : World} {e1 e2 : Ending} (h : jnV ps w1 e1 w1') (g : jnV ps w2 e2 w2') : ∃ S b, e1 = .returned (.tuple #[.string S, .bool b]) ∧ e2 = .returned (.tuple #[.string S, .bool b]) := by
  rcases h.1 with ⟨h1, rfl⟩ | ⟨h1, rfl⟩ <;> rcases g.1 with ⟨g1, rfl⟩ | ⟨g1, rfl⟩
  · exact ⟨_, _, rfl, rfl⟩
  · exact absurd h1 g1
  · exact absurd g1 h1
  · exact ⟨_, _, rfl, rfl⟩
theorem jn_fix (ps : List ByteArray) : ∃ S b, ∀ w e w', jnV ps w e w' → e = .returned (.tuple #[.string S, .bool b]) ∧ Below w.heap.size w w' := by
  by_cases h : okJ ps
  · refine ⟨⟨(jr ps).2.toArray⟩, true, fun w e w' hj => ⟨?_, hj.2⟩⟩
    rcases hj.1 with ⟨_, h2⟩ | ⟨h2, _⟩
    · exact h2
    · exact absurd h h2
  · refine ⟨⟨#[]⟩, false, fun w e w' hj => ⟨?_, hj.2⟩⟩
    rcases hj.1 with ⟨h2, _⟩ | ⟨_, h2⟩
    · exact absurd h2 h
    · exact h2

set_option maxRecDepth 100000 in
set_option maxHeartbeats 4000000 in
theorem fnExactJournalOf_walk (A : Option Addr) (ps : List ByteArray) (c : Nat) (hl : ps.length ≤ maxLen) (hsz : ∀ (j : Nat) p, ps[j]? = some p → p.size ≤ maxLen) (w : World) (hr : RdL w A ps) (htab : TabIs Tryd.prog w "internal/strconv.uint64pow10" .u64 pow10Tab) :
    Calls Tryd.prog 4 #[.slice A ps.length c] w fun e w' => e = .returned (.bool true) ∧ Below w.heap.size w w' := by
  obtain ⟨n, hxn⟩ : ∃ n, n = ps.length := ⟨_, rfl⟩
  rw [← hxn] at hl ⊢
  have HX := Frame.hid hxn
  have HR := Frame.hid hr
  have HT := Frame.hid (tabBelow_of_tabIs htab)
  have HS := Frame.hid (szStringS_calls A ps n c hxn hl hsz w hr)
  clear hxn hr htab hl hsz
  go_enter Tryd.func4, Tryd.ntmps4
  go_wp2_with fail
  refine HS.out.mono ?_
  rintro e w1 ⟨⟨r, rfl, hcase⟩, rfl⟩
  rcases hcase with rfl | ⟨r0, hn, hsz⟩
  · go_wp2_with fail
    go_ret
    exact ⟨rfl, Below.refl _ _⟩
  · have hneg : ¬ (r < 0) := by omega
    have HSZ := Frame.hid hsz
    obtain ⟨S, bo, hfix⟩ := jn_fix ps
    have HF := Frame.hid hfix
    clear hsz hfix
    go_wp2_with fail
    refine (toStringS_calls A ps n c HX.out hn w HR.out).mono ?_
    rintro e w2 ⟨g2, rfl, hR2, hB2⟩
    have HC2 := Frame.hid ((specJournalOf_calls (some ⟨g2, 0, none⟩) ps n n HX.out hn HSZ.out w2 hR2).mono (fun e w' h => HF.out w2 e w' h))
    have HB2 := Frame.hid hB2
    clear hR2 hB2
    go_wp2_with fail
    refine HC2.out.mono ?_
    rintro e w3 ⟨rfl, hB3⟩
    have HB3 := Frame.hid (HB2.out.trans (hB3.mono HB2.out.size))
    clear hB3
    go_wp2_with fail
    refine (toStringS_calls A ps n c HX.out hn w3 (HR.out.below HB3.out)).mono ?_
    rintro e w4 ⟨g4, rfl, hR4, hB4⟩
    have HB4 := Frame.hid (HB3.out.trans (hB4.mono HB3.out.size))
    have HR4 := Frame.hid hR4
    have HC4 := Frame.hid ((journalOf_calls (some ⟨g4, 0, none⟩) ps n n HX.out hn HSZ.out w4 hR4 (HT.out.on HB4.out).here).mono (fun e w' h => HF.out w4 e w' h))
    clear hR4 hB4
    go_wp2_with fail
    refine HC4.out.mono ?_
    rintro e w5 ⟨rfl, hB5⟩
    have HR5 := Frame.hid (HR4.out.below hB5)
    have HB5 := Frame.hid (HB4.out.trans (hB5.mono HB4.out.size))
    clear hB5
    go_wp2_with fail
    refine (toStringS_calls A ps n c HX.out hn w5 (HR.out.below HB5.out)).mono ?_
    rintro e w6 ⟨g6, rfl, hR6, hB6⟩
    have HR6 := Frame.hid (HR5.out.below hB6)
    have HB6 := Frame.hid (HB5.out.trans (hB6.mono HB5.out.size))
    have HE := Frame.hid (eqStringS_calls (some ⟨g4, 0, none⟩) (some ⟨g6, 0, none⟩) ps n n n HX.out hn w6 HR6.out hR6)
    clear hR6 hB6
    go_wp2_with fail
    refine HE.out.mono ?_
    rintro e w7 ⟨rfl, m, rfl⟩
    have HB7 := Frame.hid (below_drewN HB6.out m)
    go_wp2_with fail
    go_ret
    exact ⟨rfl, HB7.out⟩

theorem open_lines {H : Type} {enc : TypeId × Value → H} {w : World} {base : Nat} {spare : Nat → Bool} {held : Bool} {v : Value} {d : DataW H} {ps : List MemPlace}
    (h : DataW.Trod enc Tryd.prog w base spare held 25 v d ps) (hsp : ∀ b, spare b = true) (hv : ∃ a len cap, v = .slice a len cap) :
    ∃ A xs c, v = .slice A xs.length c ∧ xs.length ≤ maxLen ∧ (∀ (j : Nat) p, xs[j]? = some p → p.size ≤ maxLen) ∧ RdL w A xs := by
  obtain ⟨a, len, cap, rfl⟩ := hv
  obtain ⟨fuel, hf⟩ := h
  rcases Go.ChangeShapes.open_strings Tryd.underlying25 Tryd.underlying9 (by kernel_rfl) hf with ⟨hcs, _⟩ | ⟨a', len', cap', ss, hcs, _, hl, hm, hz, _, hcell, hsz⟩
  · simp [Value.cells] at hcs
    obtain ⟨rfl, rfl, rfl⟩ := hcs
    exact ⟨none, [], 0, rfl, Nat.zero_le _, fun j p hj => by simp at hj, ⟨fun h0 => absurd h0 (by simp)⟩⟩
  · simp [Value.cells] at hcs
    obtain ⟨rfl, rfl, rfl⟩ := hcs
    rw [hsp, if_pos rfl] at hz
    have htl : (ss.take len).length = len := by rw [List.length_take]; omega
    refine ⟨some a', ss.take len, cap, by rw [htl], by rw [htl]; omega, fun j p hj => hsz p (List.mem_of_mem_take (List.mem_of_getElem? hj)), ⟨fun h0 => ?_⟩⟩
    rw [htl] at h0
    obtain ⟨b, off, spot⟩ := a'
    have c0 := hcell 0 (by omega)
    have hspot : spot = none := by simpa [Addr.add] using World.cell?_spot c0
    subst hspot
    refine ⟨b, off, rfl, ?_, fun j x hx => ?_⟩
    · have := World.block_lt_of_cell? w _ c0
      simpa [Go.WideShapes.add_plain] using this
    · have hj : j < len := by have := (List.getElem?_eq_some_iff.1 hx).1; omega
      have h1 := hcell j (by omega)
      rw [Go.WideShapes.add_plain] at h1
      rw [h1, List.getD_eq_getElem?_getD, ← List.getElem?_take_of_lt hj, hx]
      rfl

end Go.Proofs.YtnhpiebddelebabDoor
