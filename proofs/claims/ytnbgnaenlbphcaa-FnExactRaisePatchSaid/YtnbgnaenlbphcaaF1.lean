/-
  RaisePatch: what both hand out; the program's side.
-/
import Derived.Test.YtnbgnaenlbphcaaD9
namespace Go.Proofs.Ytnbgnaenlbphcaa
open Go.RowKit Fl Go.WideShapes Go.Deep
attribute [local go_sem] kstore_f kalloc_drewN kset_drewN hstore_i hstore_s

/-- The spots of a raised patch. -/
def RaL (e : Nat) (xs q : List (Nat × Nat × Nat)) : Prop := q.length = plO (e + 1) (e + 2) ∧ PL (e + 1) (fun i j x y z => Rz3 e i j xs (x, y, z)) q
theorem RaL.same {e : Nat} {xs q q' : List (Nat × Nat × Nat)} (he : e ≤ 2) (h : RaL e xs q) (g : RaL e xs q') : LS q q' :=
  PL.same (by omega) h.1 g.1 h.2 g.2 fun i j x y z x' y' z' hij hx hy => Rz3.same (s := (x, y, z)) (s' := (x', y', z')) (fun k _ => S3p.refl _) he hij hx hy
theorem patB_len {e : Nat} {q : List (Nat × Nat × Nat)} (he : e ≤ 2) (h : q.length = plO (e + 1) (e + 2)) : patB ((e + 1 : Nat) : Int) q = finS q := by
  unfold patB
  rw [h]
  rcases (by omega : e = 0 ∨ e = 1 ∨ e = 2) with rfl | rfl | rfl
  · rw [show (decide ((1 : Int) ≤ ((0 + 1 : Nat) : Int)) && decide (((0 + 1 : Nat) : Int) ≤ 3) && decide (((plO (0 + 1) (0 + 2) : Nat) : Int) = ((((0 + 1 : Nat) : Int) + 1) * (((0 + 1 : Nat) : Int) + 2)).tdiv 2)) = true by decide +kernel]; rfl
  · rw [show (decide ((1 : Int) ≤ ((1 + 1 : Nat) : Int)) && decide (((1 + 1 : Nat) : Int) ≤ 3) && decide (((plO (1 + 1) (1 + 2) : Nat) : Int) = ((((1 + 1 : Nat) : Int) + 1) * (((1 + 1 : Nat) : Int) + 2)).tdiv 2)) = true by decide +kernel]; rfl
  · rw [show (decide ((1 : Int) ≤ ((2 + 1 : Nat) : Int)) && decide (((2 + 1 : Nat) : Int) ≤ 3) && decide (((plO (2 + 1) (2 + 2) : Nat) : Int) = ((((2 + 1 : Nat) : Int) + 1) * (((2 + 1 : Nat) : Int) + 2)).tdiv 2)) = true by decide +kernel]; rfl
/-- Whether two lists are finite alike. -/
theorem LS.finD1 {xs ys : List (Nat × Nat × Nat)} (h : LS xs ys) (hx : finS xs = true) : finS ys = true := by
  cases hy : finS ys with
  | true => rfl
  | false =>
    exfalso
    have hall : ∀ j, j < ys.length → fin3 (sx ys j) (sy ys j) (sz ys j) = true := fun j hj => by
      rw [← (h.s j (by rw [h.l]; exact hj)).fin]
      cases hf : fin3 (sx xs j) (sy xs j) (sz xs j) with
      | true => rfl
      | false => rw [finS_bad (by rw [h.l]; exact hj) hf] at hx; cases hx
    rw [finS_upto hall] at hy
    cases hy
theorem LS.symmD {xs ys : List (Nat × Nat × Nat)} (h : LS xs ys) : LS ys xs := ⟨h.l.symm, fun j hj => by obtain ⟨a, b, c⟩ := h.s j (by rw [h.l]; exact hj); exact ⟨a.symm, b.symm, c.symm⟩⟩
theorem LS.finD {xs ys : List (Nat × Nat × Nat)} (h : LS xs ys) : finS xs = finS ys := by
  cases hx : finS xs with
  | true => exact (h.finD1 hx).symm
  | false => cases hy : finS ys with
    | true => rw [h.symmD.finD1 hy] at hx; cases hx
    | false => rfl
/-- What RaisePatch hands out. -/
def RpO (d : Int) (xs l : List (Nat × Nat × Nat)) (ok : Bool) : Prop :=
  ((patB d xs && decide (d ≤ 2)) = false ∧ l = [] ∧ ok = false) ∨
  ((patB d xs && decide (d ≤ 2)) = true ∧ ∃ (e : Nat) (q : List (Nat × Nat × Nat)), d = (e : Int) ∧ e ≤ 2 ∧ RaL e xs q ∧ ok = finS q ∧ l = if finS q = true then q else [])
theorem RpO.same {d : Int} {xs l l' : List (Nat × Nat × Nat)} {ok ok' : Bool} (h : RpO d xs l ok) (g : RpO d xs l' ok') : LS l l' ∧ ok = ok' := by
  rcases h with ⟨h, rfl, rfl⟩ | ⟨h, e, q, hd, he, hq, rfl, rfl⟩ <;> rcases g with ⟨g, rfl, rfl⟩ | ⟨g, e', q', gd, ge, gq, rfl, rfl⟩
  · exact ⟨LS.refl _, rfl⟩
  · rw [h] at g; cases g
  · rw [h] at g; cases g
  · obtain rfl : e = e' := by omega
    have hs := hq.same he gq
    have hf := hs.finD
    rw [← hf]
    refine ⟨?_, rfl⟩
    split
    · exact hs
    · exact LS.refl _
theorem RpO.len {d : Int} {xs l : List (Nat × Nat × Nat)} {ok : Bool} (h : RpO d xs l ok) : l.length ≤ 10 := by
  rcases h with ⟨-, rfl, -⟩ | ⟨-, e, q, -, he, hq, -, rfl⟩
  · simp
  · split
    · rw [hq.1]; exact (plO_le (d := e + 1) (j := e + 2) (by omega) (Nat.le_refl _)).2
    · simp

set_option maxRecDepth 100000 in
set_option maxHeartbeats 4000000 in
theorem raisePatch_calls (A : Option Addr) (c n : Nat) (xs : List (Nat × Nat × Nat)) (hxn : n = xs.length) (hn : n ≤ 1048576) (d : Int) (w : World) (hr : RdS w A xs) :
    Calls Try.prog 53 #[.slice A n c, .int .i64 d] w fun e w' => ∃ v l ok, e = .returned (.tuple #[v, .bool ok]) ∧ RpO d xs l ok ∧ OwnedS w' w.heap.size v l ∧ Below w.heap.size w w' := by
  have HPV := Frame.hid (fun W (hW : Below w.heap.size w W) => patchValid_calls A xs c n hxn d W hn (hr.below hW))
  have hbw : Below w.heap.size w (w.alloc (.cells #[.int .i64 d, .slice A n c] 146)) := (Below.refl _ _).alloc (Nat.le_refl _) _
  cases h1 : patB d xs
  · rw [h1] at HPV
    have H1 := Frame.hid h1
    clear h1 hxn hr
    go_enter Try.func53, Try.ntmps53
    go_wp2_with fail
    refine (HPV.out _ hbw).mono ?_
    rintro e1 w1 ⟨rfl, hB1⟩
    have HB1 := Frame.hid (hbw.trans (hB1.mono hbw.size))
    clear hB1
    go_wp2_with fail
    go_ret2
    exact ⟨_, [], _, rfl, .inl ⟨by rw [H1.out]; rfl, rfl, rfl⟩, OwnedS.nil _ _, HB1.out⟩
  · rw [h1] at HPV
    have H1 := Frame.hid h1
    by_cases h3 : d = 3
    · subst h3
      clear hxn hr h1
      go_enter Try.func53, Try.ntmps53
      go_wp2_with fail
      refine (HPV.out _ hbw).mono ?_
      rintro e1 w1 ⟨rfl, hB1⟩
      have HB1 := Frame.hid (hbw.trans (hB1.mono hbw.size))
      clear hB1
      go_wp2_with fail
      go_ret2
      exact ⟨_, [], _, rfl, .inl ⟨by rw [H1.out]; rfl, rfl, rfl⟩, OwnedS.nil _ _, HB1.out⟩
    · obtain ⟨e0, hde, he0, hl, -⟩ := patB_yes h1
      obtain ⟨e, hee⟩ : ∃ e, e = e0 + 1 := ⟨_, rfl⟩
      rw [← hee] at hde
      subst hde
      clear h1
      have he2 : e ≤ 2 := by omega
      have hn' : n = plO e (e + 1) := by rw [hxn, hl, hee]
      obtain ⟨bk, off, rfl, -, -⟩ := hr.h (by rw [hl]; exact Nat.lt_of_le_of_lt (Nat.zero_le _) (crd_at (d := e0 + 1) (i := 0) (j := 0) (by omega) (by omega)).2)
      obtain ⟨E, hE⟩ : ∃ E, E = e + 1 := ⟨_, rfl⟩
      have wE : IntKind.i64.wrap ((e : Int) + 1) = (E : Int) := by rw [IntKind.wrap_i64]; omega
      have HPO := Frame.hid (fun W (hW : Below w.heap.size w W) => patchOfRaised_calls (.agg #[.int .i64 e, .slice (some ⟨bk, off, none⟩) n c]) E (by omega) (fun i j x y z => Rz3 e i j xs (x, y, z)) W (fun i j hij W' hW' => raisedSpot_calls e i j bk off n c xs hxn he2 hn' (by omega) W' ((hr.below hW).below hW')))
      have HE := Frame.hid hE
      have h3' : ¬ ((e : Int) = 3) := by omega
      have HVV := Frame.hid (fun (A' : Option Addr) (q : List (Nat × Nat × Nat)) (n' c' : Nat) (hq : n' = q.length) (hql : q.length = plO (e + 1) (e + 2)) W (hr' : RdS W A' q) => by have h := patchValid_calls A' q c' n' hq ((E : Nat) : Int) W (by rw [hq, hql]; have : plO (e + 1) (e + 2) ≤ 10 := (plO_le (d := e + 1) (j := e + 2) (by omega) (Nat.le_refl _)).2; omega) hr'; rw [hE, patB_len he2 hql, ← hE] at h; exact h)
      clear hxn hr hl hee hn' hE he0
      go_enter Try.func53, Try.ntmps53
      go_wp2_with fail
      refine (HPV.out _ hbw).mono ?_
      rintro e1 w1 ⟨rfl, hB1⟩
      have k0 : w1.cell? ⟨w.heap.size, 0, none⟩ = some (.int .i64 e) := (hB1.cell (by simp)).trans (by simp [go_sem])
      have k1 : w1.cell? ⟨w.heap.size, 1, none⟩ = some (.slice (some ⟨bk, off, none⟩) n c) := (hB1.cell (by simp)).trans (by simp [go_sem])
      have HB1 := Frame.hid (hbw.trans (hB1.mono hbw.size))
      clear hB1
      go_wp2_with fail
      refine (HPO.out _ HB1.out).mono ?_
      rintro e2 w2 ⟨v, q, rfl, hql, hP, hO, hB2⟩
      obtain ⟨A', c', rfl, hrd⟩ := hO.rd
      obtain ⟨m, hm⟩ : ∃ m, m = q.length := ⟨_, rfl⟩
      have HV2 := Frame.hid (HVV.out A' q m c' hm (by rw [hql, HE.out]))
      have HRA : Hid (RaL e xs q) := Frame.hid ⟨by rw [hql, HE.out], by have h := hP; rw [HE.out] at h; exact h⟩
      have HRD := Frame.hid hrd
      have HO := Frame.hid hO
      have HM := Frame.hid hm
      have HB2 := Frame.hid (HB1.out.trans (hB2.mono HB1.out.size))
      have hs1 := HB1.out.size
      rw [← hm]
      rw [← hm] at HO
      clear hql hP hO hrd hB2 hm k0 k1
      have hb3 : Below w2.heap.size w2 (w2.alloc (.cells #[.int .i64 E, .slice A' m c'] 146)) := (Below.refl _ _).alloc (Nat.le_refl _) _
      go_wp2_with fail
      refine (HV2.out _ (HRD.out.below hb3)).mono ?_
      rintro e3 w3 ⟨rfl, hB3⟩
      have k0 : w3.cell? ⟨w2.heap.size, 0, none⟩ = some (.int .i64 E) := (hB3.cell (by simp)).trans (by simp [go_sem])
      have k1 : w3.cell? ⟨w2.heap.size, 1, none⟩ = some (.slice A' m c') := (hB3.cell (by simp)).trans (by simp [go_sem])
      have hB23 : Below w2.heap.size w2 w3 := hb3.trans (hB3.mono hb3.size)
      have HB3 := Frame.hid (HB2.out.trans (hB23.mono HB2.out.size))
      have HO3 := Frame.hid ((HO.out.kept hB23).mono' hs1)
      clear hB3 hB23 hb3
      cases hf : finS q
      · go_wp2_with fail
        go_ret2
        exact ⟨_, [], _, rfl, .inr ⟨by rw [H1.out]; simp; omega, e, q, rfl, he2, HRA.out, hf.symm, by rw [hf]; rfl⟩, OwnedS.nil _ _, HB3.out⟩
      · go_wp2_with fail
        go_ret2
        refine ⟨_, q, _, rfl, .inr ⟨by rw [H1.out]; simp; omega, e, q, rfl, he2, HRA.out, hf.symm, by rw [hf]; rfl⟩, ?_, HB3.out⟩
        have h := HO3.out
        exact h

end Go.Proofs.Ytnbgnaenlbphcaa
