/-
  FlipSheet, the program's side: the sheet that is made of a function of places.
-/
import Derived.Test.YtddbojpkmgmjmaaK9
import Derived.Deep.RegionLaw
namespace Go.Proofs.Ytddbojpkmgmjmaa
open Go.RowKit Fl Go.WideShapes Go.Deep
attribute [local go_sem] kstore_f kalloc_drewN kset_drewN hstore_i hstore_s

theorem ownsRow_call {w W : World} {base : Nat} {e : TypeId} {size : Nat} {v : Value} {n : Nat} {xs : List Value} (h : w.ownsRow base e size v n xs) (hB : Below w.heap.size w W) : W.ownsRow base e size v n xs :=
  ⟨h.1, h.2.imp id fun ⟨g, cap, cur, h1, h2, h3, h4⟩ => ⟨g, cap, cur, h1, h2, (by rw [hB.block g (Array.getElem?_eq_some_iff.1 h3).1]; exact h3), h4⟩⟩
theorem Below.call' {B : Nat} {a W w' : World} (h0 : B ≤ a.heap.size) (h : Below B a W) (hB : Below W.heap.size W w') : Below B a w' := h.trans (hB.mono (Nat.le_trans h0 h.size))
theorem SK_of0 {n : Nat} {wc W : World} (h : n ≤ W.heap.size ∧ SK n wc [] W) : SK n wc [] W := h.2
theorem SK_all0 {n : Nat} {wc W : World} (h : SK n wc [] W) : n ≤ W.heap.size ∧ SK n wc [] W := ⟨h.s, h⟩
theorem flip_place {p q j i : Nat} (hi : i < q) : (j * q + i) % q * p + (j * q + i) / q = i * p + j := by
  have h1 : (j * q + i) % q = i := by rw [Nat.mul_comm, Nat.mul_add_mod, Nat.mod_eq_of_lt hi]
  have h2 : (j * q + i) / q = j := by rw [Nat.mul_comm, Nat.mul_add_div (by omega), Nat.div_eq_of_lt hi, Nat.add_zero]
  rw [h1, h2]

set_option maxRecDepth 100000 in
set_option maxHeartbeats 4000000 in
theorem sheetOfFlip_calls (g p q b off c n : Nat) (xs : List (Nat × Nat × Nat)) (hp : 2 ≤ p ∧ p ≤ 6) (hq : 2 ≤ q ∧ q ≤ 6) (hn : n = xs.length) (hl : n = p * q) (w : World) (hS : Sh3 w g p q (.slice (some ⟨b, off, none⟩) n c)) (hA : RdS w (some ⟨b, off, none⟩) xs) :
    Calls Try.prog 58 #[.int .i64 q, .int .i64 p, .func (.func 64) #[] #[.pointer (some ⟨g, 0, none⟩)]] w fun e w' => ∃ v, e = .returned (.agg #[.int .i64 q, .int .i64 p, v]) ∧ OwnedS w' w.heap.size v (flipL p q xs) ∧ Below w.heap.size w w' := by
  obtain ⟨i0, hi, hz0, hz1, hz2⟩ := info_parts infoSpot
  have gl := hS.l
  have HX := Frame.hid hn
  have HLN := Frame.hid hl
  have HA := Frame.hid hA
  have HS := Frame.hid hS
  clear hn hl hA hS
  go_enter Try.func58, Try.ntmps58
  go_wp2_with fail
  go_loopw [14] (fun jv wr => ∃ j v, j ≤ p ∧ jv = .int .i64 (j : Nat) ∧ FillAt w (w.heap.size + 1) q p v ((flipL p q xs).take (j * q)) wr) (fun jv _ => p - (intOf jv).toNat)
  case atStart =>
    refine ⟨0, .slice none 0 0, Nat.zero_le _, rfl, ⟨?_, ?_, by omega, ?_, ?_, ?_, ?_⟩⟩
    · refine ⟨?_, ?_, ?_, by simp; try omega⟩ <;> simp [go_sem]
    · rw [Nat.zero_mul]; exact OwnedS.nil _ _
    · exact ((Below.refl _ w).alloc (Nat.le_refl _) _).alloc (by simp) _
    · intro i; simp [go_sem]
    · refine ⟨?_, ?_, ?_, by simp; try omega⟩ <;> simp [go_sem]
    · intro i; simp [go_sem]
  case round =>
    obtain ⟨j, v, hj, rfl, hF⟩ := hrel
    have HF := Frame.hid hF
    obtain ⟨d0, d1, d2, d3, d4, d5, d6, d7, d8⟩ := hF.facts
    clear hF
    by_cases hlt : j < p
    · clear d0 d1 d2 d3 d4 d5 d6 d7 d8
      go_wp2_with fail
      go_loopw [18] (fun iv wr => ∃ i v, i ≤ q ∧ iv = .int .i64 (i : Nat) ∧ FillAt w (w.heap.size + 1) q p v ((flipL p q xs).take (j * q + i)) wr) (fun iv _ => q - (intOf iv).toNat)
      case atStart => exact ⟨0, v, Nat.zero_le _, rfl, HF.out⟩
      case round =>
        obtain ⟨i, v', hi', rfl, hF⟩ := hrel
        have HF2 := Frame.hid hF
        obtain ⟨d0, d1, d2, d3, d4, d5, d6, d7, d8⟩ := hF.facts
        clear hF
        by_cases hlt2 : i < q
        · obtain ⟨P, hP⟩ : ∃ P, P = p * q := ⟨_, rfl⟩
          have hP36 : P ≤ 36 := by rw [hP]; exact Nat.mul_le_mul hp.2 hq.2
          obtain ⟨k, hk⟩ : ∃ k, k = j * q + i := ⟨_, rfl⟩
          have hkP : k < P := by
            have : (j + 1) * q ≤ p * q := Nat.mul_le_mul_right q hlt
            rw [Nat.succ_mul] at this
            omega
          obtain ⟨m, hm⟩ : ∃ m, m = i * p + j := ⟨_, rfl⟩
          have hmP : m < P := by
            have : (i + 1) * p ≤ q * p := Nat.mul_le_mul_right p hlt2
            rw [Nat.succ_mul, Nat.mul_comm q p] at this
            omega
          obtain ⟨s, hs⟩ : ∃ s, s = i * p := ⟨_, rfl⟩
          have hcl := fun W (hB : Below wr.heap.size wr W) => flipSpot_calls g b off c n xs HX.out p q i j s m (by rw [HLN.out, ← hP]; exact hmP) (by rw [show (i : Int) * (p : Int) = (s : Int) by rw [hs]; push_cast; rfl, IntKind.wrap_i64]; omega) (by rw [show (s : Int) + (j : Int) = (m : Int) by omega, IntKind.wrap_i64]; omega) W (HS.out.below (HF2.out.bel.trans (hB.mono HF2.out.bel.size))) (HA.out.below (HF2.out.bel.trans (hB.mono HF2.out.bel.size)))
          obtain ⟨x, hx⟩ : ∃ x, x = sx xs m := ⟨_, rfl⟩
          obtain ⟨y, hy⟩ : ∃ y, y = sy xs m := ⟨_, rfl⟩
          obtain ⟨z, hz⟩ : ∃ z, z = sz xs m := ⟨_, rfl⟩
          rw [← hx, ← hy, ← hz] at hcl
          have HCL := Frame.hid hcl
          obtain ⟨L, hL⟩ : ∃ L, L = (List.take (j * q + i) (flipL p q xs)).length := ⟨_, rfl⟩
          have hLk : L = k := by rw [hL, List.length_take, flipL_len, ← hk, ← hP]; omega
          have hL36 : L ≤ 36 := by omega
          have hown : wr.ownsRow (w.heap.size + 1 + 1) 44 3 v' L (cellsS (List.take (j * q + i) (flipL p q xs))) := by rw [hL]; exact HF2.out.own
          have HO := Frame.hid hown
          have hnx := flipL_next p q xs (j * q + i) (by rw [← hk, ← hP]; exact hkP)
          rw [flip_place hlt2, ← hm, ← hx, ← hy, ← hz] at hnx
          have HNX := Frame.hid hnx
          have HLL := Frame.hid hL
          clear hnx hL hLk hown hcl hx hy hz hs hm hk hP hkP hmP
          have hST : SK w.heap.size wr [] wr := SK.start (by omega) (by intro p hp; simp at hp) (by intro p hp; simp at hp)
          go_wp2_with fail
          go_region_law (first | (refine step_append_any rfl _ _ 23 rfl (w.heap.size + 1 + 1) 44 i0 (.agg #[.float .f32 0, .float .f32 0, .float .f32 0]) 3 12 Try.underlying23 hi hz0 hz1 hz2 rfl (by decide) v' L (cellsS (List.take (j * q + i) (flipL p q xs))) rfl ?_ ⟨w'.heap.size, 0, none⟩ 1 1 (cellsS [(x, y, z)]) rfl rfl ?_ (cellsS_one _) ?_ ?_ ?_ ?_; (· (repeat' first | with_reducible exact HO.out | with_reducible apply World.ownsRow.alloc | (with_reducible refine ownsRow_call ?_ (by assumption)) | with_reducible apply ownsRow_drewN | with_reducible apply World.ownsRow.drew)); (· (first | exact news3' _ _ _ _ _ | exact news3 _ _ _ _ _ _)); (· (unfold maxLen; omega)); (· omega); (· (have := hB.size; (try simp at this ⊢) <;> omega)); intro v3 w3 hown3 hgrow3 hnil3; have hsz : w.heap.size + 1 + 1 ≤ w'.heap.size := (by have := hB.size; (try simp at this ⊢) <;> omega); have hB3 := Below.grown (B := w.heap.size + 1 + 1) (Below.refl _ _) hgrow3 (by (try simp) <;> omega) (fun k' hk' => (World.ownsRow.lt HO.out k' hk').1); have hB2 : Below (w.heap.size + 1 + 1) wr w' := (by refine Below.call' (by omega) ?_ hB; first | with_reducible exact Below.refl _ _ | exact (Below.refl _ _).drew | exact below_drewN (Below.refl _ _) _); have HBW := Frame.hid (Below.grown (B := w.heap.size + 1 + 1) (a := wr) (hB2.alloc hsz _) hgrow3 (by (try simp) <;> omega) (fun k' hk' => (World.ownsRow.lt HO.out k' hk').1)); have HOX := Frame.hid hown3; have f2 := (HBW.out.cell (p := ⟨w.heap.size + 1, 2, none⟩) (by simp)).trans d2; have f3 : w3.frozen? ⟨w.heap.size + 1, 2, none⟩ = false := (HBW.out.frozen (p := ⟨w.heap.size + 1, 2, none⟩) (by simp)).trans (d3 2); obtain ⟨A3, c3, rfl⟩ := OwS.form (OwS.of hown3)) | (go_simp; go_at_call 64; refine (HCL.out _ (by first | with_reducible exact Below.refl _ _ | exact (Below.refl _ _).drew | exact below_drewN (Below.refl _ _) _)).mono ?_; rintro e w' ⟨rfl, hB⟩; have e2 : w'.cell? ⟨w.heap.size + 1, 2, none⟩ = some v' := ((hB.cell (p := ⟨w.heap.size + 1, 2, none⟩) (by simp; omega)).trans d2); have hlt1 : w.heap.size + 1 < w'.heap.size := (by have := hB.size; (try simp at this) <;> omega); have e3 : ∀ o, (w'.alloc o).cell? ⟨w.heap.size + 1, 2, none⟩ = some v' := (fun o => (World.cell?_alloc_past _ _ _ hlt1).trans e2); have hne1 : ¬ (w.heap.size + 1 = w'.heap.size) := (by have := hB.size; (try simp at this) <;> omega)))
          all_goals
            go_wp2_with fail
            go_roundw
            case rel => exact ⟨i + 1, _, by omega, by go_num, FillAt.next HF2.out HBW.out HOX.out HNX.out HLL.out⟩
            case measure => simp [intOf]; omega
        · have hiq : i = q := by omega
          subst hiq
          go_wp2_with fail
          go_roundw
          case rel => exact ⟨j + 1, v', by omega, by go_num, by rw [Nat.succ_mul]; exact HF2.out⟩
          case measure => simp [intOf]; omega
    · have hjp : j = p := by omega
      subst hjp
      have hO := HF.out.own
      obtain ⟨A', c', rfl, hR'⟩ := hO.rd
      have HO := Frame.hid hO
      clear hO hR'
      obtain ⟨e0, e1, e2⟩ := set3_read (w := wr) (v0 := .int .i64 q) (v1 := .int .i64 j) (v2 := .slice A' (List.take (j * q) (flipL j q xs)).length c') d4 d5 d6
      generalize hL : (List.take (j * q) (flipL j q xs)).length = L at *
      have HL := Frame.hid hL
      clear hL
      go_wp2_with fail
      refine bodyPost_ret (v := .agg #[.int .i64 q, .int .i64 j, .slice A' L c']) (by simp [results, Try.results58, go_sem, e0, e1, e2]) rfl ⟨_, rfl, ?_, ?_⟩
      · have ho := HO.out
        have e : List.take (j * q) (flipL j q xs) = flipL j q xs := List.take_of_length_le (by rw [flipL_len]; omega)
        rw [e] at ho
        exact (((ho.setO (by omega)).setO (by omega)).setO (by omega)).mono' (by omega)
      · exact ((HF.out.bel.setCell (p := ⟨w.heap.size, 0, none⟩) (Nat.le_refl _) _).setCell (p := ⟨w.heap.size, 1, none⟩) (Nat.le_refl _) _).setCell (p := ⟨w.heap.size, 2, none⟩) (Nat.le_refl _) _

end Go.Proofs.Ytddbojpkmgmjmaa
