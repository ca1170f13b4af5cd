/-
  FlatSheet: the spots of a flat sheet, one way or another.
-/
import Derived.Test.YtddbojpkmgmjmaaK2
import Derived.Test.YtddbojpkmgmjmaaK9
namespace Go.Proofs.Ytddbojpkmgmjmaa
open Go.RowKit Fl Go.WideShapes Go.Deep Ieee

/-- The spot with an index is that of a flat sheet. -/
def FlatP (p q wide long k : Nat) (z : Nat × Nat × Nat) : Prop := z.2.2 = 0 ∧ FlatR p q wide long ((k % p : Nat) : Int) ((k / p : Nat) : Int) z.1 z.2.1
def FlatL (p q wide long : Nat) (zs : List (Nat × Nat × Nat)) : Prop := ∀ k z, zs[k]? = some z → FlatP p q wide long k z
theorem FlatL.nil {p q wide long : Nat} : FlatL p q wide long [] := fun k z h => by simp at h
theorem FlatL.snoc {p q wide long : Nat} {zs : List (Nat × Nat × Nat)} {z : Nat × Nat × Nat} (h : FlatL p q wide long zs) (hz : FlatP p q wide long zs.length z) : FlatL p q wide long (zs ++ [z]) := fun k y hk => by
  rcases Nat.lt_or_ge k zs.length with hlt | hge
  · rw [List.getElem?_append_left hlt] at hk; exact h k y hk
  · rw [List.getElem?_append_right hge] at hk
    have h0 : k - zs.length = 0 := by
      rcases Nat.eq_zero_or_pos (k - zs.length) with e | e
      · exact e
      · rw [List.getElem?_eq_none (by simp; omega)] at hk; cases hk
    rw [h0] at hk
    simp at hk
    subst hk
    rw [show k = zs.length by omega]
    exact hz

def FlatZ (p q wide long : Nat) (zs : List (Nat × Nat × Nat)) : Prop := zs.length = p * q ∧ FlatL p q wide long zs

theorem fsame_fin {x y : Nat} (h : FSame .f32 x y) (hf : fin .f32 x = true) : x = y := by
  rcases h with h | ⟨h1, _⟩
  · exact h
  · rw [fin_eq, h1] at hf; cases hf

theorem FlatZ.fins {p q wide long : Nat} {zs zs' : List (Nat × Nat × Nat)} (h : FlatZ p q wide long zs) (g : FlatZ p q wide long zs') (hf : finS zs = true) : zs = zs' := by
  refine List.ext_getElem? fun k => ?_
  rcases Nat.lt_or_ge k zs.length with hlt | hge
  · have hlt' : k < zs'.length := by rw [g.1, ← h.1]; exact hlt
    have e1 := List.getElem?_eq_getElem hlt
    have e2 := List.getElem?_eq_getElem hlt'
    obtain ⟨a1, a2⟩ := h.2 k _ e1
    obtain ⟨b1, b2⟩ := g.2 k _ e2
    obtain ⟨s1, s2⟩ := FlatR.same a2 b2
    have hm := (List.all_eq_true.1 hf) _ (List.getElem_mem hlt)
    unfold fin3 at hm
    simp only [Bool.and_eq_true] at hm
    rw [e1, e2]
    congr 1
    exact Prod.ext (fsame_fin s1 hm.1.1) (Prod.ext (fsame_fin s2 hm.1.2) (a1.trans b1.symm))
  · rw [List.getElem?_eq_none hge, List.getElem?_eq_none (by rw [g.1, ← h.1]; exact hge)]
theorem FlatZ.fin_eq {p q wide long : Nat} {zs zs' : List (Nat × Nat × Nat)} (h : FlatZ p q wide long zs) (g : FlatZ p q wide long zs') : finS zs = finS zs' := by
  cases h1 : finS zs
  · cases h2 : finS zs'
    · rfl
    · rw [g.fins h h2] at h2; rw [h1] at h2; exact h2
  · rw [← h.fins g h1, h1]

/-- Whether there is a flat sheet; its spots. -/
noncomputable def flatB (p q wide long : Nat) : Bool := @decide (∃ zs, FlatZ p q wide long zs ∧ finS zs = true) (Classical.propDecidable _)
noncomputable def flatS (p q wide long : Nat) : List (Nat × Nat × Nat) := @dite _ (∃ zs, FlatZ p q wide long zs ∧ finS zs = true) (Classical.propDecidable _) (fun h => Classical.choose h) (fun _ => [])
theorem flatB_of {p q wide long : Nat} {zs : List (Nat × Nat × Nat)} (h : FlatZ p q wide long zs) : flatB p q wide long = finS zs := by
  unfold flatB
  cases hf : finS zs
  · refine @decide_eq_false _ (Classical.propDecidable _) ?_
    rintro ⟨zs', g, hg⟩
    rw [h.fin_eq g, hg] at hf
    cases hf
  · exact @decide_eq_true _ (Classical.propDecidable _) ⟨zs, h, hf⟩
theorem flatS_of {p q wide long : Nat} {zs : List (Nat × Nat × Nat)} (h : FlatZ p q wide long zs) (hf : finS zs = true) : flatS p q wide long = zs := by
  unfold flatS
  have he : ∃ zs, FlatZ p q wide long zs ∧ finS zs = true := ⟨zs, h, hf⟩
  rw [dif_pos he]
  exact ((Classical.choose_spec he).1.fins h (Classical.choose_spec he).2)
theorem flatS_len {p q wide long : Nat} (h : flatB p q wide long = true) : (flatS p q wide long).length = p * q := by
  unfold flatB at h
  obtain ⟨zs, h1, h2⟩ := @of_decide_eq_true _ (Classical.propDecidable _) h
  rw [flatS_of h1 h2]
  exact h1.1

/-- A product that is a number has factors that are. -/
theorem mul_fin {a b r : Nat} (h : FOp .mul .f32 a b r) (hf : fin .f32 r = true) : fin .f32 a = true := by
  cases ha : fin .f32 a
  · exfalso
    have hk : FloatKind.f32.format = single := rfl
    have hnn : isNan .f32 r = false := by rw [Fl.fin_eq] at hf; simp at hf; exact hf.1
    have hni : isInf .f32 r = false := by rw [Fl.fin_eq] at hf; simp at hf; exact hf.2
    unfold fin at ha
    rw [hk] at ha
    unfold FOp floatBits Format.mul at h
    rw [hk] at h
    simp only at h
    cases hd : single.read a with
    | number => rw [hd] at ha; cases ha
    | nan => rw [hd] at h; simp [Datum.product] at h; rw [hnn] at h; cases h
    | infinity s =>
      rw [hd] at h
      have hinf : ∀ t, isInf .f32 (single.write (.infinity t)) = true := fun t => by cases t <;> decide +kernel
      cases hb : single.read b with
      | nan => rw [hb] at h; simp [Datum.product] at h; rw [hnn] at h; cases h
      | infinity t => rw [hb] at h; simp [Datum.product] at h; rw [h, hinf] at hni; cases hni
      | number t n e =>
        rw [hb] at h
        by_cases hn : n = 0
        · subst hn; simp [Datum.product] at h; rw [hnn] at h; cases h
        · simp [Datum.product, hn] at h; rw [h, hinf] at hni; cases hni
  · rfl

theorem flatB_fin {p q wide long : Nat} (hp : 2 ≤ p) (hq : 2 ≤ q) (h : flatB p q wide long = true) : fin .f32 wide = true ∧ fin .f32 long = true := by
  unfold flatB at h
  obtain ⟨zs, h1, h2⟩ := @of_decide_eq_true _ (Classical.propDecidable _) h
  have hl : 0 < zs.length := by rw [h1.1]; exact Nat.mul_pos (by omega) (by omega)
  have e1 := List.getElem?_eq_getElem hl
  obtain ⟨-, ⟨_, -, m1⟩, _, -, m2⟩ := h1.2 0 _ e1
  have hm := (List.all_eq_true.1 h2) _ (List.getElem_mem hl)
  unfold fin3 at hm
  simp only [Bool.and_eq_true] at hm
  exact ⟨mul_fin m1 hm.1.1, mul_fin m2 hm.1.2⟩

end Go.Proofs.Ytddbojpkmgmjmaa
