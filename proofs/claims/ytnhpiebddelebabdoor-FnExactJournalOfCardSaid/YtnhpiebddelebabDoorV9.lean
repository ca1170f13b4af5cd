/-
  JournalOf: the specification's side.
-/
import Derived.Test.YtnhpiebddelebabDoorV8
import Derived.Test.YtnhpiebddelebabDoorG5
namespace Go.Proofs.YtnhpiebddelebabDoor
open Go.RowKit Go.Lib Rd Go.WideShapes

theorem glueK (T D : List UInt8) (p : ByteArray) : Value.string ((⟨T.toArray⟩ : ByteArray) ++ ((⟨D.toArray⟩ : ByteArray) ++ (⟨#[32]⟩ : ByteArray) ++ p ++ (⟨#[10]⟩ : ByteArray))) = .string ⟨(T ++ (D ++ 32 :: (p.data.toList ++ [10]))).toArray⟩ := by
  congr 1 <;> (apply bytes_inj; simp)

set_option maxRecDepth 100000 in
set_option maxHeartbeats 4000000 in
theorem l08Journal_calls (A : Option Addr) (ps : List ByteArray) (n c : Nat) (hxn : n = ps.length) (hn : n ≤ 1048576) (hsz : ∀ (j : Nat) p, ps[j]? = some p → p.size ≤ 1048576) (hJ : (jr ps).2.length ≤ 1000000000) (w : World) (hr : RdL w A ps) :
    Calls Tryd.prog 25 #[.slice A n c] w fun e w' => e = .returned (.string ⟨(jr ps).2.toArray⟩) ∧ Below w.heap.size w w' := by
  have HX := Frame.hid hxn
  have HR := Frame.hid hr
  have HSZ := Frame.hid hsz
  have HJJ := Frame.hid (fun k => Nat.le_trans (jr_all ps k) hJ)
  clear hxn hr hsz hJ
  go_enter Tryd.func25, Tryd.ntmps25
  go_wp2_with fail
  go_loopw [3, 4, 5] (fun ov cv iv wr => ∃ k : Nat, k ≤ n ∧ iv = .int .i64 (k : Nat) ∧ cv = .int .i64 (jr (ps.take k)).1 ∧ ov = .string ⟨(jr (ps.take k)).2.toArray⟩ ∧ Below w.heap.size w wr) (fun _ _ iv _ => n - (Go.RowKit.intOf iv).toNat)
  case atStart => exact ⟨0, Nat.zero_le _, rfl, rfl, rfl, Below.refl _ _⟩
  case round =>
    obtain ⟨k, hk, rfl, rfl, rfl, hB⟩ := hrel
    have HB := Frame.hid hB
    by_cases hlt : k < n
    · obtain ⟨b, off, rfl, hb, hc⟩ := HR.out.h (by have := HX.out; omega)
      obtain ⟨p, hp⟩ : ∃ p, ps[k]? = some p := ⟨_, List.getElem?_eq_getElem (by have := HX.out; omega)⟩
      have hc1 := (hB.cell (p := ⟨b, off + k, none⟩) hb).trans (hc k p hp)
      have hbr : b < wr.heap.size := Nat.lt_of_lt_of_le hb hB.size
      have hps := HSZ.out k p hp
      obtain ⟨b0, b1⟩ := jr_bd k ps
      have hjt := jr_take ps k p hp
      obtain ⟨d0, d1⟩ := chk_bd _ b0 b1 p.data.toList
      have htl := HJJ.out k
      obtain ⟨m0, hm0⟩ : ∃ m0, m0 = (jr (ps.take k)).1 := ⟨_, rfl⟩
      obtain ⟨t0, ht0⟩ : ∃ t0, t0 = (jr (ps.take k)).2 := ⟨_, rfl⟩
      rw [← hm0] at b0 b1 d0 d1 hjt ⊢
      rw [← ht0] at hjt htl ⊢
      have HCK := Frame.hid (l01Check_calls m0 p b0 b1 hps)
      obtain ⟨m1, hm1⟩ : ∃ m1, m1 = chk m0 p.data.toList := ⟨_, rfl⟩
      rw [← hm1] at HCK d0 d1 hjt
      have hjl := itoa_short (n := m1) (by omega) (by omega)
      have HD := Frame.hid (l01Dec_calls m1 (by omega) (by omega))
      have HG : Hid (Value.string ((⟨t0.toArray⟩ : ByteArray) ++ ((⟨(itoa m1).toArray⟩ : ByteArray) ++ (⟨#[32]⟩ : ByteArray) ++ p ++ (⟨#[10]⟩ : ByteArray))) = .string ⟨(jr (ps.take (k + 1))).2.toArray⟩) := Frame.hid (by rw [glueK, hjt]; rfl)
      have HM : Hid ((jr (ps.take (k + 1))).1 = m1) := Frame.hid (by rw [hjt])
      obtain ⟨D, hD⟩ : ∃ D, D = itoa m1 := ⟨_, rfl⟩
      rw [← hD] at HD hjl HG
      have hlt3 : (k : Int) < (n : Int) := by omega
      have hk0 : (0 : Int) ≤ (k : Int) := by omega
      have hws := hB.size
      have hs1 : ¬ 9223372036854775807 < D.length + 1 := by omega
      have hs2 : ¬ 9223372036854775807 < D.length + 1 + p.size := by omega
      have hs3 : ¬ 9223372036854775807 < D.length + 1 + p.size + 1 := by omega
      have hs4 : ¬ 9223372036854775807 < t0.length + (D.length + 1 + p.size + 1) := by omega
      clear hjt hp hc hm0 ht0 hm1 hB hD
      go_wp2_with (go_at_call 48; refine (HCK.out _).mono ?_; rintro e w1 ⟨rfl, rfl⟩)
      have hq : ∀ W, Below wr.heap.size wr W → W.cell? ⟨b, off + k, none⟩ = some (.string p) := fun W h => (h.cell (p := ⟨b, off + k, none⟩) hbr).trans hc1
      have hS0 : Below wr.heap.size wr wr.drew := (Below.refl _ _).drew
      refine region_hand 11 (fun W => Below wr.heap.size wr W) (by kernel_rfl) ?_
      refine' wpEnd_take 0 rfl (by kernel_rfl) hS0 (Or.inl ⟨by rfl, fun wq hSq => _⟩) _
      rotate_left
      · (have q0 := hq _ hSq; go_simp; (try with_reducible rfl))
      simp only [Act.put, List.setIfInBounds_toArray, List.set_cons_zero, List.set_cons_succ]
      refine' wpEnd_take 1 rfl (by kernel_rfl) hS0 (Or.inl ⟨by rfl, fun wq hSq => _⟩) _
      rotate_left
      · (have q0 := hq _ hSq; go_simp; (try with_reducible rfl))
      simp only [Act.put, List.setIfInBounds_toArray, List.set_cons_zero, List.set_cons_succ]
      refine' wpEnd_take 4 rfl (by kernel_rfl) hS0 (Or.inl ⟨by rfl, fun wq hSq => _⟩) _
      rotate_left
      · (have q0 := hq _ hSq; go_simp; (try with_reducible rfl))
      simp only [Act.put, List.setIfInBounds_toArray, List.set_cons_zero, List.set_cons_succ]
      refine' wpEnd_take 5 rfl (by kernel_rfl) hS0 (Or.inl ⟨by rfl, fun wq hSq => _⟩) _
      rotate_left
      · (have q0 := hq _ hSq; go_simp; (try with_reducible rfl))
      simp only [Act.put, List.setIfInBounds_toArray, List.set_cons_zero, List.set_cons_succ]
      refine' wpEnd_take 6 rfl (by kernel_rfl) hS0 (Or.inl ⟨by rfl, fun wq hSq => _⟩) _
      rotate_left
      · (have q0 := hq _ hSq; go_simp; (try with_reducible rfl))
      simp only [Act.put, List.setIfInBounds_toArray, List.set_cons_zero, List.set_cons_succ]
      refine' wpEnd_take 7 rfl (by kernel_rfl) hS0 (Or.inl ⟨by rfl, fun wq hSq => _⟩) _
      rotate_left
      · (have q0 := hq _ hSq; go_simp; (try with_reducible rfl))
      simp only [Act.put, List.setIfInBounds_toArray, List.set_cons_zero, List.set_cons_succ]
      refine wpEnd_ready [2] (by kernel_rfl) rfl (AllE.cons rfl (fun K hK => ?_) AllE.nil)
      go_simp
      go_at_call 49
      refine (HD.out _).mono ?_
      rintro e_ w8 ⟨rfl, hB8⟩
      have hS1 := hS0.trans (hB8.mono hS0.size)
      refine hK.out _ _ (.inr hS1) ?_
      clear hK K
      (try simp only [Act.put, List.setIfInBounds_toArray, List.set_cons_zero, List.set_cons_succ])
      refine' wpEnd_take 3 rfl (by kernel_rfl) hS1 (Or.inl ⟨by rfl, fun wq hSq => _⟩) _
      rotate_left
      · (have q0 := hq _ hSq; go_simp; (try with_reducible rfl))
      simp only [Act.put, List.setIfInBounds_toArray, List.set_cons_zero, List.set_cons_succ]
      refine' wpEnd_take 8 rfl (by kernel_rfl) hS1 (Or.inl ⟨by rfl, fun wq hSq => _⟩) _
      rotate_left
      · (have q0 := hq _ hSq; go_simp; (try with_reducible rfl))
      simp only [Act.put, List.setIfInBounds_toArray, List.set_cons_zero, List.set_cons_succ]
      refine' wpEnd_take 9 rfl (by kernel_rfl) hS1 (Or.inl ⟨by rfl, fun wq hSq => _⟩) _
      rotate_left
      · (have q0 := hq _ hSq; go_simp; (try with_reducible rfl))
      simp only [Act.put, List.setIfInBounds_toArray, List.set_cons_zero, List.set_cons_succ]
      refine' wpEnd_take 10 rfl (by kernel_rfl) hS1 (Or.inl ⟨by rfl, fun wq hSq => _⟩) _
      rotate_left
      · (have q0 := hq _ hSq; go_simp; (try with_reducible rfl))
      simp only [Act.put, List.setIfInBounds_toArray, List.set_cons_zero, List.set_cons_succ]
      refine wpEnd_ready [11] (by kernel_rfl) rfl (AllE.cons rfl (fun K hK => ?_) AllE.nil)
      go_simp
      refine hK.out _ _ (.inl rfl) ?_
      clear hK K
      refine wpEnd_done (by kernel_rfl) ?_
      have HBE := Frame.hid (HB.out.trans (hS1.mono hws))
      go_wp2_with fail
      go_roundw
      case rel => exact ⟨k + 1, by omega, by go_num, by rw [HM.out], by rw [← HG.out], HBE.out⟩
      case measure => simp [Go.RowKit.intOf]; omega
    · have hkn : k = n := by omega
      subst hkn
      have he : ps.take k = ps := List.take_of_length_le (by rw [← HX.out]; exact Nat.le_refl _)
      have HE : Hid (jr (ps.take k) = jr ps) := Frame.hid (by rw [he])
      clear he hB
      go_wp2_with fail
      go_ret
      exact ⟨by rw [← HE.out]; rfl, HB.out⟩

end Go.Proofs.YtnhpiebddelebabDoor
