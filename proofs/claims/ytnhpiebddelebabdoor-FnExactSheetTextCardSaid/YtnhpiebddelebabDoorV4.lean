/-
  SheetText: the specification's side.
-/
import Derived.Test.YtnhpiebddelebabDoorV3
namespace Go.Proofs.YtnhpiebddelebabDoor
open Go.RowKit Fl Go.WideShapes Go.Deep
attribute [local go_sem] kstore_f kalloc_drewN kset_drewN hstore_i hstore_s

theorem step_append_ks {P : Program} {ops : Array Oper} {o : Oper} {a : Act} {w : World} {K : Act → World → Prop} {Q : Exit → Act → World → Prop} {E : Prop} (hgd : o.guard = none) (s x : Operand) (t : TypeId)
    (ho : o.op = .call { callee := .builtin .append, args := #[s, x], argTypes := #[t, t] })
    (base : Nat) (e : TypeId) (i : TypeInfo) (z : Value) (size bytes : Nat) (ht : P.underlying t = some (.slice e)) (hi : P.info? e = some i) (hz : i.zero = some z)
    (hsize : i.size = size) (hby : i.bytes = bytes) (hzs : z.cells.size = size) (hsz : 0 < size)
    (v : Value) (n : Nat) (xs : List Value) (hs : a.eval s = v) (hown : w.ownsRow base e size v n xs)
    (ad : Addr) (m c : Nat) (news : List Value) (hx : a.eval x = .slice (some ad) m c) (hl : news.length = m * size) (hnews : ∀ j u, news[j]? = some u → w.cell? (ad.add j) = some u) (h1 : ∀ u ∈ news, u.oneCell' = true)
    (h63 : n + m ≤ maxLen) (hbytes : (n + m) * bytes ≤ 140737488355328) (hbase : base ≤ w.heap.size)
    (h : ∀ v' w', w'.ownsRow base e size v' (n + m) (xs ++ news) → w.grownBy w' v.ownBlock → (v' = .slice none 0 0 ↔ v = .slice none 0 0 ∧ m = 0) → K (a.put o.dst v') w') :
    if Region.wanted o (yielded ops a.tmps) = true then Oper.wp P o a w K Q else E := by
  have hw : Region.wanted o (yielded ops a.tmps) = true := by simp [Region.wanted, hgd]
  rw [if_pos hw]
  exact wp_append_own w s x t ho base e i z size bytes ht hi hz hsize hby hzs hsz v n xs hs hown ad m c news hx hl hnews h1 h63 hbytes hbase h
/-- The text of a sheet. -/
def shT (a b : Int) (xs : List (Nat × Nat × Nat)) : List UInt8 := textL [a, b] ++ 59 :: textX (prtL xs)
theorem glueS (T D : List UInt8) : Value.string ((⟨T.toArray⟩ : ByteArray) ++ (⟨#[59]⟩ : ByteArray) ++ (⟨D.toArray⟩ : ByteArray)) = .string ⟨(T ++ 59 :: D).toArray⟩ := by
  congr 1 <;> (apply bytes_inj; simp)
theorem textL_two {a b : Int} (ha : okV a) (hb : okV b) : (textL [a, b]).length ≤ 36 := by
  unfold textL
  rw [if_neg (by simp)]
  have h := joinI_len [a, b] (fun x hx => by simp at hx; rcases hx with rfl | rfl <;> assumption)
  simpa using h
theorem textX_prt (xs : List (Nat × Nat × Nat)) (h : xs.length ≤ 85) : (textX (prtL xs)).length ≤ 2304 := by
  unfold textX
  split
  · simp
  · have h1 := joinX_len (prtL xs)
    rw [prtL_len] at h1
    omega
theorem litF0 (w : World) : OwnF (w.alloc (.cells #[] 94)) w.heap.size (.slice (some ⟨w.heap.size, 0, none⟩) 0 0) [] :=
  World.ownsRow_lit w #[] 0 (Nat.le_refl _) (by unfold maxLen; omega) rfl
theorem rdI_two (w : World) (a b : Int) (t : TypeId) : RdI (w.alloc (.cells #[.int .i64 a, .int .i64 b] t)) (some ⟨w.heap.size, 0, none⟩) [a, b] := fun _ => by
  refine ⟨w.heap.size, 0, rfl, by simp, fun j hj => ?_⟩
  rw [Nat.zero_add, World.cell?_alloc_new]
  have : j = 0 ∨ j = 1 := by simp at hj; omega
  rcases this with rfl | rfl <;> rfl

set_option maxRecDepth 100000 in
set_option maxHeartbeats 8000000 in
theorem l08Sheet_calls (g : Nat) (A : Option Addr) (xs : List (Nat × Nat × Nat)) (n c : Nat) (hxn : n = xs.length) (a b : Int) (ha : okV a) (hb : okV b) (hn : n ≤ 85) (hf : ∀ j, j < (prtL xs).length → (((prtL xs).getD j 0 : Nat) : Int) < 4294967296) (w : World) (hS : Sh3 w g a b (.slice A n c)) (hr : RdS w A xs) :
    Calls Tryd.prog 39 #[.pointer (some ⟨g, 0, none⟩)] w fun e w' => e = .returned (.string ⟨(shT a b xs).toArray⟩) ∧ Below w.heap.size w w' := by
  obtain ⟨i0, hi, hz0, hz1, hz2⟩ := info_parts infoF32
  have HX := Frame.hid hxn
  have HR := Frame.hid hr
  have HF := Frame.hid hf
  have HAB := Frame.hid (And.intro ha hb)
  have d0 := hS.c0
  have d1 := hS.c1
  have d2 := hS.c2
  have gl := hS.l
  have HS := Frame.hid hS
  clear hxn hr hf ha hb hS
  go_enter Tryd.func39, Tryd.ntmps39
  go_wp2_with fail
  go_loopw [3, 4] (fun tv jv wr => ∃ k : Nat, k ≤ n ∧ jv = .int .i64 (k : Nat) ∧ OwnF wr w.heap.size tv (prtL (xs.take k)) ∧ Below w.heap.size w wr) (fun _ jv _ => n - (intOf jv).toNat)
  case atStart => exact ⟨0, Nat.zero_le _, rfl, litF0 w, (Below.refl _ _).alloc (Nat.le_refl _) _⟩
  case round =>
    obtain ⟨k, hk, rfl, hO, hB⟩ := hrel
    have HB := Frame.hid hB
    have hsz := hB.size
    have e0 := (hB.cell (p := ⟨g, 0, none⟩) gl).trans d0
    have e1 := (hB.cell (p := ⟨g, 1, none⟩) gl).trans d1
    have e2 := (hB.cell (p := ⟨g, 2, none⟩) gl).trans d2
    have gr : g < wr.heap.size := Nat.lt_of_lt_of_le gl hsz
    clear d0 d1 d2
    by_cases hlt : k < n
    · obtain ⟨bk, off, rfl, hb, hc⟩ := HR.out.h (by have := HX.out; omega)
      have h3 := (hc k (by have := HX.out; omega)).keep hB hb
      have hsn := prtL_take xs k (by have := HX.out; omega)
      obtain ⟨x, hx⟩ : ∃ x, x = sx xs k := ⟨_, rfl⟩
      obtain ⟨y, hy⟩ : ∃ y, y = sy xs k := ⟨_, rfl⟩
      obtain ⟨z, hz⟩ : ∃ z, z = sz xs k := ⟨_, rfl⟩
      rw [← hx, ← hy, ← hz] at h3 hsn
      have hbr : bk < wr.heap.size := Nat.lt_of_lt_of_le hb hsz
      obtain ⟨ys, hys⟩ : ∃ ys, ys = prtL (xs.take k) := ⟨_, rfl⟩
      rw [← hys] at hO hsn
      have hyl : ys.length ≤ 300 := by rw [hys, prtL_len, List.length_take]; omega
      obtain ⟨L, hL⟩ : ∃ L, L = ys.length := ⟨_, rfl⟩
      have hOL : wr.ownsRow w.heap.size 94 1 u3 L (fl ys) := by rw [hL]; exact hO
      rw [← hL] at hyl
      have HO := Frame.hid hOL
      have HL := Frame.hid hL
      have HSN := Frame.hid hsn
      have hlt3 : (k : Int) < (n : Int) := by omega
      have hk0 : (0 : Int) ≤ (k : Int) := by omega
      obtain ⟨tv, htv⟩ : ∃ tv, tv = u3 := ⟨_, rfl⟩
      subst htv
      have hq : ∀ W, Below wr.heap.size wr W → W.cell? ⟨g, 2, none⟩ = some (.slice (some ⟨bk, off, none⟩) n c) ∧ W.cell? ⟨bk, off + k * 3, none⟩ = some (.float .f32 x) ∧ W.cell? ⟨bk, off + k * 3 + 1, none⟩ = some (.float .f32 y) ∧ W.cell? ⟨bk, off + k * 3 + 2, none⟩ = some (.float .f32 z) := fun W h => ⟨(h.cell (p := ⟨g, 2, none⟩) gr).trans e2, (h.cell (p := ⟨bk, _, none⟩) hbr).trans h3.c0, (h.cell (p := ⟨bk, _, none⟩) hbr).trans h3.c1, (h.cell (p := ⟨bk, _, none⟩) hbr).trans h3.c2⟩
      clear hc hx hy hz hys hO hOL hL hsn hB e0 e1
      go_wp2_with fail
      have hS0 : Below wr.heap.size wr wr.drew := (Below.refl _ _).drew
      refine region_end 25 (fun W => Below w.heap.size wr W) (by kernel_rfl) (by kernel_rfl) (hS0.mono hsz) ?_
      simp only [List.take_succ_cons, List.take_zero, List.drop_succ_cons, List.drop_zero]
      have hq' : ∀ W, Below w.heap.size wr W → W.cell? ⟨g, 2, none⟩ = some (.slice (some ⟨bk, off, none⟩) n c) ∧ W.cell? ⟨bk, off + k * 3, none⟩ = some (.float .f32 x) ∧ W.cell? ⟨bk, off + k * 3 + 1, none⟩ = some (.float .f32 y) ∧ W.cell? ⟨bk, off + k * 3 + 2, none⟩ = some (.float .f32 z) := fun W h => by
        obtain ⟨q0, q1, q2, q3⟩ := hq wr (Below.refl _ _)
        exact ⟨(h.cell (p := ⟨g, 2, none⟩) gl).trans q0, (h.cell (p := ⟨bk, _, none⟩) hb).trans q1, (h.cell (p := ⟨bk, _, none⟩) hb).trans q2, (h.cell (p := ⟨bk, _, none⟩) hb).trans q3⟩
      iterate 25
        refine' eLex_cons (Or.inl ⟨by rfl, fun wq hSq => _⟩) _
        rotate_left
        · (obtain ⟨q0, q1, q2, q3⟩ := hq' _ hSq; go_simp; (try with_reducible rfl))
        simp only [Act.put, List.setIfInBounds_toArray, List.set_cons_zero, List.set_cons_succ]
      refine eLex_nil ?_
      have HO2 : Hid (wr.drew.ownsRow w.heap.size 94 1 tv L (fl ys)) := Frame.hid (World.ownsRow.drew HO.out)
      generalize wr.drew = w2 at hS0 HO2 ⊢
      have hs2 := hS0.size
      refine wpTail_cons (fun K hK => ?_)
      go_simp
      have hS1 := hS0.alloc hs2 (.cells #[.float .f32 x, .float .f32 y, .float .f32 z] 94)
      refine hK.out _ _ (.inr (hS1.mono hsz)) ?_
      clear hK K
      refine wpTail_cons (fun K hK => ?_)
      refine step_append_ks rfl _ _ 82 rfl w.heap.size 94 i0 (.float .f32 0) 1 4 Tryd.underlying82 hi hz0 hz1 hz2 rfl (by decide) tv L (fl ys) rfl ?_ ⟨w2.heap.size, 0, none⟩ 3 3 [.float .f32 x, .float .f32 y, .float .f32 z] rfl rfl (news_three _ _ _ _ _ _ rfl) (one_three _ _ _) (by unfold maxLen; omega) (by omega) (by simp; omega) ?_
      · exact World.ownsRow.alloc (HO2.out) _
      intro v' w3 hown3 hgrow3 hnil3
      have hS3 : Below w.heap.size wr w3 := Below.grown (hS1.mono hsz) hgrow3 (by simp; omega) (fun k' hk' => (World.ownsRow.lt HO.out k' hk').1)
      obtain ⟨g', cap', rfl, hO2⟩ := own_app3 HL.out hown3
      refine hK.out _ _ (.inr hS3) ?_
      clear hK K hgrow3 hnil3 hown3
      have HOX := Frame.hid hO2
      have HBW := Frame.hid (HB.out.trans hS3)
      clear hO2
      refine wpTail_cons (fun K hK => ?_)
      go_simp
      refine hK.out _ _ (.inl rfl) ?_
      clear hK K
      refine wpTail_done ?_
      go_wp2_with fail
      go_roundw
      case rel => exact ⟨k + 1, by omega, by go_num, by rw [HSN.out]; exact HOX.out, HBW.out⟩
      case measure => simp [intOf]; omega
    · have hkn : k = n := by omega
      subst hkn
      have he : prtL (xs.take k) = prtL xs := by rw [List.take_of_length_le (by rw [← HX.out]; exact Nat.le_refl _)]
      rw [he] at hO
      have hpl : (prtL xs).length ≤ 256 := by rw [prtL_len]; have := HX.out; omega
      obtain ⟨A2, c2, rfl, hR2⟩ := hO.reads
      have HNT := Frame.hid (fun W (h : Below wr.heap.size wr W) => l01NText_calls A2 (prtL xs) c2 W hpl HF.out (hR2.below h))
      obtain ⟨L, hL⟩ : ∃ L, L = (prtL xs).length := ⟨_, rfl⟩
      rw [← hL] at HNT ⊢
      clear hO hR2 he hL hB
      go_wp2_with fail
      have hS0 : Below wr.heap.size wr wr.drew := (Below.refl _ _).drew
      have hq : ∀ W, Below wr.heap.size wr W → W.cell? ⟨g, 0, none⟩ = some (.int .i64 a) ∧ W.cell? ⟨g, 1, none⟩ = some (.int .i64 b) := fun W h => ⟨(h.cell (p := ⟨g, 0, none⟩) gr).trans e0, (h.cell (p := ⟨g, 1, none⟩) gr).trans e1⟩
      have hsT := textL_two HAB.out.1 HAB.out.2
      have hsX := textX_prt xs (by have := HX.out; omega)
      refine region_hand 14 (fun W => Below wr.heap.size wr W) (by kernel_rfl) ?_
      refine' wpEnd_take 0 rfl (by kernel_rfl) hS0 (Or.inl ⟨by rfl, fun wq hSq => _⟩) _
      rotate_left
      · (obtain ⟨q0, q1⟩ := hq _ hSq; go_simp; (try with_reducible rfl))
      simp only [Act.put, List.setIfInBounds_toArray, List.set_cons_zero, List.set_cons_succ]
      refine' wpEnd_take 1 rfl (by kernel_rfl) hS0 (Or.inl ⟨by rfl, fun wq hSq => _⟩) _
      rotate_left
      · (obtain ⟨q0, q1⟩ := hq _ hSq; go_simp; (try with_reducible rfl))
      simp only [Act.put, List.setIfInBounds_toArray, List.set_cons_zero, List.set_cons_succ]
      refine' wpEnd_take 2 rfl (by kernel_rfl) hS0 (Or.inl ⟨by rfl, fun wq hSq => _⟩) _
      rotate_left
      · (obtain ⟨q0, q1⟩ := hq _ hSq; go_simp; (try with_reducible rfl))
      simp only [Act.put, List.setIfInBounds_toArray, List.set_cons_zero, List.set_cons_succ]
      refine' wpEnd_take 3 rfl (by kernel_rfl) hS0 (Or.inl ⟨by rfl, fun wq hSq => _⟩) _
      rotate_left
      · (obtain ⟨q0, q1⟩ := hq _ hSq; go_simp; (try with_reducible rfl))
      simp only [Act.put, List.setIfInBounds_toArray, List.set_cons_zero, List.set_cons_succ]
      refine' wpEnd_take 4 rfl (by kernel_rfl) hS0 (Or.inl ⟨by rfl, fun wq hSq => _⟩) _
      rotate_left
      · (obtain ⟨q0, q1⟩ := hq _ hSq; go_simp; (try with_reducible rfl))
      simp only [Act.put, List.setIfInBounds_toArray, List.set_cons_zero, List.set_cons_succ]
      refine' wpEnd_take 5 rfl (by kernel_rfl) hS0 (Or.inl ⟨by rfl, fun wq hSq => _⟩) _
      rotate_left
      · (obtain ⟨q0, q1⟩ := hq _ hSq; go_simp; (try with_reducible rfl))
      simp only [Act.put, List.setIfInBounds_toArray, List.set_cons_zero, List.set_cons_succ]
      refine' wpEnd_take 6 rfl (by kernel_rfl) hS0 (Or.inl ⟨by rfl, fun wq hSq => _⟩) _
      rotate_left
      · (obtain ⟨q0, q1⟩ := hq _ hSq; go_simp; (try with_reducible rfl))
      simp only [Act.put, List.setIfInBounds_toArray, List.set_cons_zero, List.set_cons_succ]
      refine' wpEnd_take 7 rfl (by kernel_rfl) hS0 (Or.inl ⟨by rfl, fun wq hSq => _⟩) _
      rotate_left
      · (obtain ⟨q0, q1⟩ := hq _ hSq; go_simp; (try with_reducible rfl))
      simp only [Act.put, List.setIfInBounds_toArray, List.set_cons_zero, List.set_cons_succ]
      refine' wpEnd_take 11 rfl (by kernel_rfl) hS0 (Or.inl ⟨by rfl, fun wq hSq => _⟩) _
      rotate_left
      · (obtain ⟨q0, q1⟩ := hq _ hSq; go_simp; (try with_reducible rfl))
      simp only [Act.put, List.setIfInBounds_toArray, List.set_cons_zero, List.set_cons_succ]
      generalize wr.drew = wd at hS0 ⊢
      have hsd : wr.heap.size ≤ wd.heap.size := hS0.size
      refine wpEnd_ready [8] (by kernel_rfl) rfl (AllE.cons rfl (fun K hK => ?_) AllE.nil)
      go_simp
      have hS1 := hS0.alloc hsd (.cells #[.int .i64 a, .int .i64 b] 2)
      refine hK.out _ _ (.inr hS1) ?_
      clear hK K
      (try simp only [Act.put, List.setIfInBounds_toArray, List.set_cons_zero, List.set_cons_succ])
      refine wpEnd_ready [9] (by kernel_rfl) rfl (AllE.cons rfl (fun K hK => ?_) AllE.nil)
      go_simp
      go_at_call 59
      refine (l01Text_calls (some ⟨wd.heap.size, 0, none⟩) [a, b] 2 _ (by simp) (fun j hj => ?_) (rdI_two wd a b _)).mono ?_
      · have : j = 0 ∨ j = 1 := by simp at hj; omega
        rcases this with rfl | rfl
        · exact HAB.out.1
        · exact HAB.out.2
      rintro e_ w8 ⟨rfl, hB8⟩
      have hS2 := hS1.trans (hB8.mono hS1.size)
      refine hK.out _ _ (.inr hS2) ?_
      clear hK K
      (try simp only [Act.put, List.setIfInBounds_toArray, List.set_cons_zero, List.set_cons_succ])
      obtain ⟨T, hT⟩ : ∃ T, T = textL [a, b] := ⟨_, rfl⟩
      obtain ⟨X, hX⟩ : ∃ X, X = textX (prtL xs) := ⟨_, rfl⟩
      rw [← hT] at hsT ⊢
      rw [← hX] at hsX
      have HTX := Frame.hid (And.intro hT hX)
      have HNX := Frame.hid (fun W h => by have q := HNT.out W h; rw [← hX] at q; exact q)
      clear hT hX
      have hs1 : ¬ 9223372036854775807 < T.length + 1 := by omega
      have hs2 : ¬ 9223372036854775807 < T.length + (1 + X.length) := by omega
      have hs3 : ¬ 9223372036854775807 < T.length + 1 + X.length := by omega
      refine' wpEnd_take 10 rfl (by kernel_rfl) hS2 (Or.inl ⟨by rfl, fun wq hSq => _⟩) _
      rotate_left
      · (go_simp; (try with_reducible rfl))
      simp only [Act.put, List.setIfInBounds_toArray, List.set_cons_zero, List.set_cons_succ]
      refine wpEnd_ready [12] (by kernel_rfl) rfl (AllE.cons rfl (fun K hK => ?_) AllE.nil)
      go_simp
      go_at_call 60
      refine (HNX.out _ hS2).mono ?_
      rintro e_ w9 ⟨rfl, hB9⟩
      have hS3 := hS2.trans (hB9.mono hS2.size)
      refine hK.out _ _ (.inr hS3) ?_
      clear hK K
      (try simp only [Act.put, List.setIfInBounds_toArray, List.set_cons_zero, List.set_cons_succ])
      refine wpEnd_ready [13] (by kernel_rfl) rfl (AllE.cons rfl (fun K hK => ?_) AllE.nil)
      go_simp
      refine hK.out _ _ (.inr hS3) ?_
      clear hK K
      (try simp only [Act.put, List.setIfInBounds_toArray, List.set_cons_zero, List.set_cons_succ])
      refine wpEnd_ready [14] (by kernel_rfl) rfl (AllE.cons rfl (fun K hK => ?_) AllE.nil)
      go_simp
      refine hK.out _ _ (.inl rfl) ?_
      clear hK K
      refine wpEnd_done (by kernel_rfl) ?_
      have HEND := Frame.hid (HB.out.trans (hS3.mono hsz))
      go_wp2_with fail
      go_ret
      refine ⟨?_, HEND.out⟩
      show Ending.returned (Value.string ((⟨T.toArray⟩ : ByteArray) ++ (⟨#[59]⟩ : ByteArray) ++ (⟨X.toArray⟩ : ByteArray))) = _
      rw [glueS, HTX.out.1, HTX.out.2]
      rfl


theorem sheet_parts {a b : Int} {xs : List (Nat × Nat × Nat)} {n : Nat} (hx : n = xs.length) (h : shB a b xs = true) : okV a ∧ okV b ∧ n ≤ 36 := by
  unfold shB at h
  simp only [Bool.and_eq_true, decide_eq_true_eq] at h
  obtain ⟨⟨h1, h2⟩, _⟩ := h
  obtain ⟨h3, h4, _, h5⟩ := cntB_mul h1
  exact ⟨⟨by omega, by omega⟩, ⟨by omega, by omega⟩, by omega⟩
/-- What both sides hand out. -/
def ShtV (a b : Int) (xs : List (Nat × Nat × Nat)) (w : World) (e : Ending) (w' : World) : Prop :=
  ((shB a b xs = true ∧ e = .returned (.tuple #[.string ⟨(shT a b xs).toArray⟩, .bool true])) ∨ (shB a b xs = false ∧ e = .returned (.tuple #[.string ⟨#[]⟩, .bool false]))) ∧ Below w.heap.size w w'

set_option maxRecDepth 100000 in
set_option maxHeartbeats 2000000 in
theorem specSheetText_calls (A : Option Addr) (xs : List (Nat × Nat × Nat)) (n : Nat) (hxn : n = xs.length) (a b : Int) (hf : ∀ j, j < (prtL xs).length → (((prtL xs).getD j 0 : Nat) : Int) < 4294967296) (w : World) (hn : n ≤ 1048576) (hr : RdS w A xs) :
    Calls Tryd.prog 19 #[.agg #[.int .i64 a, .int .i64 b, .slice A n n]] w (ShtV a b xs w) := by
  have hw : Below w.heap.size w (w.alloc (.cells #[.int .i64 a, .int .i64 b, .slice A n n] 41)) := (Below.refl _ _).alloc (Nat.le_refl _) _
  have hS := Sh3.here w a b (.slice A n n) 41
  have HIS := Frame.hid (l04Is_calls w.heap.size A xs n n hxn a b _ hn hS (hr.below hw))
  have HSH := Frame.hid hS
  have HR := Frame.hid (hr.below hw)
  have HW := Frame.hid hw
  have HX := Frame.hid hxn
  have HF := Frame.hid hf
  clear hr hxn hS hw hf
  cases h1 : shB a b xs
  · have H1 := Frame.hid h1
    clear h1
    go_enter Tryd.func19, Tryd.ntmps19
    go_wp2_with (go_at_call 38; refine (HIS.out).mono ?_; rintro e ws ⟨rfl, hBs⟩; rw [H1.out]; have HBS := Frame.hid hBs; clear hBs)
    go_ret2
    exact ⟨.inr ⟨H1.out, rfl⟩, HW.out.trans (HBS.out.mono HW.out.size)⟩
  · have H1 := Frame.hid h1
    obtain ⟨ha, hb, h36⟩ := sheet_parts HX.out h1
    have HC := Frame.hid (fun W hS hr => l08Sheet_calls w.heap.size A xs n n HX.out a b ha hb (by omega) HF.out W hS hr)
    clear h1 ha hb
    go_enter Tryd.func19, Tryd.ntmps19
    go_wp2_with (first | (go_at_call 38; refine (HIS.out).mono ?_; rintro e ws ⟨rfl, hBs⟩; rw [H1.out]; have HBS := Frame.hid hBs; clear hBs) | (go_at_call 39; refine (HC.out _ (HSH.out.below HBS.out) (HR.out.below HBS.out)).mono ?_; rintro e w9 ⟨rfl, hB9⟩; have HB9 := Frame.hid (HBS.out.trans (hB9.mono HBS.out.size)); clear hB9))
    go_ret2
    exact ⟨.inl ⟨H1.out, rfl⟩, HW.out.trans (HB9.out.mono HW.out.size)⟩

set_option maxRecDepth 100000 in
set_option maxHeartbeats 2000000 in
theorem sheetText_calls (A : Option Addr) (xs : List (Nat × Nat × Nat)) (n : Nat) (hxn : n = xs.length) (a b : Int) (hf : ∀ j, j < (prtL xs).length → (((prtL xs).getD j 0 : Nat) : Int) < 4294967296) (w : World) (hn : n ≤ 1048576) (hr : RdS w A xs) (hz : ZerosAt w) (htab : Go.Lib.TabIs Tryd.prog w "internal/strconv.uint64pow10" .u64 Go.Lib.pow10Tab) :
    Calls Tryd.prog 21 #[.agg #[.int .i64 a, .int .i64 b, .slice A n n]] w (ShtV a b xs w) := by
  have hw : Below w.heap.size w (w.alloc (.cells #[.int .i64 a, .int .i64 b, .slice A n n] 41)) := (Below.refl _ _).alloc (Nat.le_refl _) _
  have HSH := Frame.hid (Sh3.here w a b (.slice A n n) 41)
  have HIS := Frame.hid (validSheet_calls A xs n n hxn a b _ hn (hr.below hw))
  have HR := Frame.hid (hr.below hw)
  have HW := Frame.hid hw
  have HX := Frame.hid hxn
  have HF := Frame.hid hf
  have HZ := Frame.hid hz
  have HT := Frame.hid (Go.Lib.tabBelow_of_tabIs htab)
  clear hr hxn hw hf hz htab
  cases h1 : shB a b xs
  · have H1 := Frame.hid h1
    clear h1
    go_enter Tryd.func21, Tryd.ntmps21
    go_wp2_with (go_at_call 41; refine (HIS.out).mono ?_; rintro e ws ⟨rfl, hBs⟩; rw [H1.out]; have HBS := Frame.hid hBs; clear hBs)
    go_ret2
    exact ⟨.inr ⟨H1.out, rfl⟩, HW.out.trans (HBS.out.mono HW.out.size)⟩
  · have H1 := Frame.hid h1
    obtain ⟨ha, hb, h36⟩ := sheet_parts HX.out h1
    have HAB := Frame.hid (And.intro ha hb)
    clear h1 ha hb
    go_enter Tryd.func21, Tryd.ntmps21
    go_wp2_with fail
    refine (HIS.out).mono ?_
    rintro e ws ⟨rfl, hBs⟩
    rw [H1.out]
    have hS1 := HSH.out.below hBs
    have d0 := hS1.c0
    have d1 := hS1.c1
    have d2 := hS1.c2
    have HS1 := Frame.hid hS1
    have HWS := Frame.hid (HW.out.trans (hBs.mono HW.out.size))
    have HRS := Frame.hid (HR.out.below hBs)
    clear hBs hS1
    go_wp2_with fail
    refine (listText_calls (some ⟨ws.heap.size, 0, none⟩) [a, b] 2 _ (by simp) (fun j hj => ?_) (rdI_two ws a b _) ?_).mono ?_
    · have h := HAB.out
      unfold okV at h
      have : j = 0 ∨ j = 1 := by simp at hj; omega
      rcases this with rfl | rfl <;> (simp; omega)
    · exact (HT.out.on (HWS.out.alloc HWS.out.size _)).here
    rintro e w2 ⟨hc, hB2⟩
    rcases hc with ⟨_, rfl⟩ | ⟨hno, _⟩
    · have hB2' := ((Below.refl ws.heap.size ws).alloc (Nat.le_refl _) (.cells #[.int .i64 a, .int .i64 b] 2)).trans (hB2.mono (by simp))
      have hS2 := HS1.out.below hB2'
      have e0 := hS2.c0
      have e1 := hS2.c1
      have e2 := hS2.c2
      have HB2 := Frame.hid hB2'
      clear hB2 hB2' d0 d1 d2 hS2
      go_wp2_with fail
      refine (partsOfSpots_calls A xs n n HX.out (by omega) w2 (HRS.out.below HB2.out)).mono ?_
      rintro e w3 ⟨A3, c3, L, rfl, hL, hR3, hB3⟩
      have hpl : (prtL xs).length ≤ 256 := by rw [prtL_len]; have := HX.out; omega
      have hnt := numbersText_calls A3 (prtL xs) c3 w3 (by omega) HF.out hR3 (zeros_below HZ.out (HWS.out.trans ((HB2.out.trans (hB3.mono HB2.out.size)).mono HWS.out.size)))
      rw [← hL] at hnt
      have HNT := Frame.hid hnt
      have HB3 := Frame.hid (HB2.out.trans (hB3.mono HB2.out.size))
      have hsX := textX_prt xs (by have := HX.out; omega)
      have hsT := textL_two HAB.out.1 HAB.out.2
      clear hL hR3 hB3 hnt e0 e1 e2
      go_wp2_with fail
      refine (HNT.out).mono ?_
      rintro e w4 ⟨hc, hB4⟩
      rcases hc with ⟨_, rfl⟩ | ⟨hno, _⟩
      · have HB4 := Frame.hid (HWS.out.trans ((HB3.out.trans (hB4.mono HB3.out.size)).mono HWS.out.size))
        obtain ⟨T, hT⟩ : ∃ T, T = textL [a, b] := ⟨_, rfl⟩
        obtain ⟨X, hX⟩ : ∃ X, X = textX (prtL xs) := ⟨_, rfl⟩
        rw [← hT] at hsT ⊢
        rw [← hX] at hsX ⊢
        have HEQ : Hid (Value.string ((⟨T.toArray⟩ : ByteArray) ++ (⟨#[59]⟩ : ByteArray) ++ (⟨X.toArray⟩ : ByteArray)) = .string ⟨(shT a b xs).toArray⟩) := Frame.hid (by rw [glueS, hT, hX]; rfl)
        have hs1 : ¬ 9223372036854775807 < T.length + 1 := by omega
        have hs2 : ¬ 9223372036854775807 < T.length + (1 + X.length) := by omega
        have hs3 : ¬ 9223372036854775807 < T.length + 1 + X.length := by omega
        clear hT hX hB4
        go_wp2_with fail
        go_ret2
        refine ⟨.inl ⟨H1.out, ?_⟩, HB4.out⟩
        show Ending.returned (.tuple #[.string ((⟨T.toArray⟩ : ByteArray) ++ (⟨#[59]⟩ : ByteArray) ++ (⟨X.toArray⟩ : ByteArray)), .bool true]) = _
        rw [HEQ.out]
      · omega
    · exfalso
      have : okLB [a, b] = true := (okLB_iff _).2 ⟨by simp, fun j hj => by
        have : j = 0 ∨ j = 1 := by simp at hj; omega
        rcases this with rfl | rfl
        · exact HAB.out.1
        · exact HAB.out.2⟩
      rw [this] at hno
      cases hno

def shS (a b : Int) (xs : List (Nat × Nat × Nat)) : ByteArray := if shB a b xs then ⟨(shT a b xs).toArray⟩ else ⟨#[]⟩
theorem ShtV.one {a b : Int} {xs : List (Nat × Nat × Nat)} {w w' : World} {e : Ending} (h : ShtV a b xs w e w') : e = .returned (.tuple #[.string (shS a b xs), .bool (shB a b xs)]) ∧ Below w.heap.size w w' := by
  obtain ⟨⟨h1, rfl⟩ | ⟨h1, rfl⟩, hB⟩ := h
  · exact ⟨by unfold shS; rw [h1]; rfl, hB⟩
  · exact ⟨by unfold shS; rw [h1]; rfl, hB⟩

end Go.Proofs.YtnhpiebddelebabDoor
