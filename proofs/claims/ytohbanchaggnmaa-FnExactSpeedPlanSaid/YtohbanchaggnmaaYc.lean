/-
  SpeedPlan: what both sides reckon; all speeds are finite.
-/
import Derived.Test.YtohbanchaggnmaaY8
import Derived.Test.YtohbanchaggnmaaNz
namespace Go.Proofs.Ytohbanchaggnmaa
open Go.RowKit Fl Ieee Go.WideShapes Go.Deep

/-- Without a sign, or a zero. -/
def NNZ (d : Datum) : Prop := NN d ∨ ∃ p, d = .number true 0 p
theorem write_nnz {d : Datum} (h : NNZ d) : NNZ (single.read (single.write d)) := by
  rcases h with h | ⟨p, rfl⟩
  · exact .inl (write_nn h)
  · refine .inr ⟨-149, ?_⟩
    show single.read (single.nearest true 0 p) = _
    unfold Format.nearest
    rw [if_pos rfl]
    decide +kernel
theorem dwrite_nnz {d : Datum} (h : NNZ d) : NNZ (double.read (double.write d)) := by
  rcases h with (⟨m, p, rfl⟩ | rfl) | ⟨p, rfl⟩
  · left
    obtain ⟨rung, e, hr⟩ : ∃ rung, double.nearest false m p = double.word false rung ∧ rung ≤ 9218868437227405312 := by
      unfold Format.nearest
      split
      · exact ⟨0, rfl, by omega⟩
      · exact ⟨_, rfl, by rw [dinf]; omega⟩
    show NN (double.read (double.nearest false m p))
    rw [e, read_word double false rung (by rw [dsw]; omega)]
    simp only [dl, dbin, dinf]
    split
    · exact .inl ⟨_, _, rfl⟩
    · split
      · exact .inl ⟨_, _, rfl⟩
      · rw [if_pos (by omega)]; exact .inr rfl
  · have : double.read (double.write (.infinity false)) = .infinity false := by decide +kernel
    rw [this]; exact .inl (.inr rfl)
  · refine .inr ⟨-1074, ?_⟩
    show double.read (double.nearest true 0 p) = _
    unfold Format.nearest
    rw [if_pos rfl]
    decide +kernel
theorem rootR_nnz {b r : Nat} (h : RootR b r) : isNan .f32 r = true ∨ NNZ (single.read r) := by
  obtain ⟨y, q, hy, hq, hr⟩ := h
  have hT := sqrt_told hy hq
  unfold FSq at hq
  have hf : FloatKind.f64.format = double := rfl
  cases hs : FloatKind.f64.format.sqrt y with
  | none =>
    rw [hs] at hq
    left
    unfold FCv at hr
    rw [conv_nan (by decide) hq] at hr
    exact hr hq
  | some v =>
    rw [hs] at hq
    have hq : q = v := hq
    have hs' : ((double.read y).root (double.fractionBits + 2)).map double.write = some v := hs
    obtain ⟨d, hd, hv⟩ := Option.map_eq_some_iff.1 hs'
    have hD : NNZ d := by
      unfold Datum.root at hd
      split at hd
      · cases hd
      · rename_i s e
        cases s
        · simp only [Bool.false_eq_true, if_false, Option.some.injEq] at hd
          rw [← hd]; exact .inl (.inr rfl)
        · simp at hd
      · rename_i s m i e
        by_cases hm : m = 0
        · rw [if_pos hm] at hd
          simp only [Option.some.injEq] at hd
          subst hm
          rw [← hd]
          cases s
          · exact .inl (.inl ⟨0, i, rfl⟩)
          · exact .inr ⟨i, rfl⟩
        · rw [if_neg hm] at hd
          cases s
          · simp only [Bool.false_eq_true, if_false, Option.some.injEq] at hd
            rw [← hd]; exact .inl (.inl ⟨_, _, rfl⟩)
          · simp at hd
    have hQ : NNZ (double.read q) := by rw [hq, ← hv]; exact dwrite_nnz hD
    right
    unfold FCv at hr
    rcases hT with hn | ⟨u, hu⟩
    · exfalso
      unfold isNan FloatKind.decode at hn
      rw [hf] at hn
      rcases hQ with (⟨m, p, e⟩ | e) | ⟨p, e⟩ <;> (rw [e] at hn; cases hn)
    · rw [hu] at hr
      have hr : r = u := hr
      have hu2 : u = single.write (double.read q) := by
        unfold floatToFloatBits at hu
        rw [if_neg (by decide)] at hu
        unfold FloatKind.decode at hu
        rw [hf] at hu
        rcases hQ with (⟨m, p, e⟩ | e) | ⟨p, e⟩
        · rw [e] at hu ⊢
          dsimp only at hu
          split at hu
          · cases hu
          · injection hu with hu; exact hu.symm
        · rw [e] at hu ⊢
          injection hu with hu; exact hu.symm
        · rw [e] at hu ⊢
          dsimp only at hu
          split at hu
          · cases hu
          · injection hu with hu; exact hu.symm
      rw [hr, hu2]
      exact write_nnz hQ
theorem root_lt_fin {b r v : Nat} (h : RootR b r) (hv : fin .f32 v = true) (hl : ltW r v = true) : fin .f32 r = true := by
  unfold ltW at hl
  obtain ⟨s, m, p, hd⟩ := fin_numberY hv
  have ho : FloatKind.f32.format.order r v = (single.read r).order (.number s m p) := by
    show (single.read r).order (single.read v) = _
    rw [hd]
  rw [ho] at hl
  unfold fin
  have hk : FloatKind.f32.format = single := rfl
  rw [hk]
  rcases rootR_nnz h with hn | (⟨m', p', e⟩ | e) | ⟨p', e⟩
  · obtain ⟨s', t', hx⟩ := decode_nan hn
    rw [hk] at hx
    rw [hx] at hl
    simp [Datum.order] at hl
  · rw [e]
  · rw [e] at hl
    simp [Datum.order] at hl
  · rw [e]

/-- How fast a tool can be behind a piece. -/
def AfterR (rise b l r : Nat) : Prop := ∃ p q s t, FOp .mul .f32 b b p ∧ FOp .mul .f32 1073741824 rise q ∧ FOp .mul .f32 q l s ∧ FOp .add .f32 p s t ∧ RootR t r
theorem AfterR.same {rise b l r r' : Nat} (h : AfterR rise b l r) (g : AfterR rise b l r') : FSame .f32 r r' := by
  obtain ⟨p, q, s, t, h1, h2, h3, h4, h5⟩ := h
  obtain ⟨P, Q, S, T, g1, g2, g3, g4, g5⟩ := g
  have rf : ∀ x, FSame .f32 x x := FSame.refl .f32
  exact rootR_same (FOp.same (FOp.same (rf _) (rf _) h1 g1) (FOp.same (FOp.same (rf _) (rf _) h2 g2) (rf _) h3 g3) h4 g4) h5 g5
theorem same_fin {x y : Nat} (h : FSame .f32 x y) (hx : fin .f32 x = true) : x = y := by
  rcases h with h | ⟨h1, -⟩
  · exact h
  · rw [fin_eq, h1] at hx; cases hx
theorem selW_one {v r r' b : Nat} (hv : fin .f32 v = true) (hr : RootR b r) (h : FSame .f32 r r') : selW v r = selW v r' := by
  have e : ltW r v = ltW r' v := by unfold ltW; rw [order_same h (FSame.refl _ v)]
  unfold selW
  rw [← e]
  cases hl : ltW r v
  · rfl
  · rw [if_pos rfl, if_pos rfl]; exact same_fin h (root_lt_fin hr hv hl)
theorem selW_fin {v r b : Nat} (hv : fin .f32 v = true) (hr : RootR b r) : fin .f32 (selW v r) = true := by
  unfold selW
  cases hl : ltW r v
  · exact hv
  · rw [if_pos rfl]; exact root_lt_fin hr hv hl

/-- The speeds at first. -/
def v0 (n most : Nat) : List Nat := (List.range (n + 1)).map (fun i => if i = 0 ∨ i = n then 0 else most)
theorem v0_len (n most : Nat) : (v0 n most).length = n + 1 := by simp [v0]
theorem v0_get {n most i : Nat} (h : i < n + 1) : (v0 n most).getD i 0 = if i = 0 ∨ i = n then 0 else most := by
  unfold v0
  rw [List.getD_eq_getElem?_getD, List.getElem?_map, List.getElem?_range h]
  rfl
/-- The speeds after k steps forth. -/
def FW (xs : List Nat) (most rise : Nat) : Nat → List Nat → Prop
  | 0, vs => vs = v0 xs.length most
  | k + 1, vs => ∃ us r, FW xs most rise k us ∧ AfterR rise (us.getD k 0) (xs.getD k 0) r ∧ vs = us.set (k + 1) (selW (us.getD (k + 1) 0) r)
/-- The speeds after k steps back. -/
def BW (xs : List Nat) (most rise : Nat) : Nat → List Nat → Prop
  | 0, vs => FW xs most rise xs.length vs
  | k + 1, vs => ∃ us r, BW xs most rise k us ∧ AfterR rise (us.getD (xs.length - 1 - k + 1) 0) (xs.getD (xs.length - 1 - k) 0) r ∧ vs = us.set (xs.length - 1 - k) (selW (us.getD (xs.length - 1 - k) 0) r)
def FinV (vs : List Nat) : Prop := ∀ i, fin .f32 (vs.getD i 0) = true
theorem FinV.set {vs : List Nat} {j r : Nat} (h : FinV vs) (hr : fin .f32 r = true) : FinV (vs.set j r) := fun i => by
  by_cases hj : j < vs.length
  · rw [getD_set _ _ _ _ hj]
    split
    · exact hr
    · exact h i
  · rw [List.set_eq_of_length_le (by omega)]; exact h i
theorem FW.facts {xs : List Nat} {most rise : Nat} (hm : fin .f32 most = true) : ∀ {k : Nat} {vs : List Nat}, FW xs most rise k vs → vs.length = xs.length + 1 ∧ FinV vs
  | 0, vs, h => by
    have h : vs = v0 xs.length most := h
    subst h
    refine ⟨v0_len _ _, fun i => ?_⟩
    by_cases hi : i < xs.length + 1
    · rw [v0_get hi]
      split
      · decide +kernel
      · exact hm
    · rw [List.getD_eq_getElem?_getD, List.getElem?_eq_none (by rw [v0_len]; omega)]
      decide +kernel
  | k + 1, vs, ⟨us, r, h1, ⟨p, q, s, t, a1, a2, a3, a4, a5⟩, h3⟩ => by
    obtain ⟨g1, g2⟩ := FW.facts hm h1
    subst h3
    exact ⟨by rw [List.length_set]; exact g1, g2.set (selW_fin (g2 _) a5)⟩
theorem BW.facts {xs : List Nat} {most rise : Nat} (hm : fin .f32 most = true) : ∀ {k : Nat} {vs : List Nat}, BW xs most rise k vs → vs.length = xs.length + 1 ∧ FinV vs
  | 0, _, h => FW.facts hm h
  | k + 1, vs, ⟨us, r, h1, ⟨p, q, s, t, a1, a2, a3, a4, a5⟩, h3⟩ => by
    obtain ⟨g1, g2⟩ := BW.facts hm h1
    subst h3
    exact ⟨by rw [List.length_set]; exact g1, g2.set (selW_fin (g2 _) a5)⟩
theorem FW.one {xs : List Nat} {most rise : Nat} (hm : fin .f32 most = true) : ∀ {k : Nat} {vs us : List Nat}, FW xs most rise k vs → FW xs most rise k us → vs = us
  | 0, _, _, h, g => Eq.trans h (Eq.symm g)
  | k + 1, _, _, ⟨us, r, h1, h2, h3⟩, ⟨us', r', g1, g2, g3⟩ => by
    have e := FW.one hm h1 g1
    subst e
    have hs := h2.same g2
    obtain ⟨p, q, s, t, a1, a2, a3, a4, a5⟩ := h2
    rw [h3, g3, selW_one ((FW.facts hm h1).2 _) a5 hs]
theorem BW.one {xs : List Nat} {most rise : Nat} (hm : fin .f32 most = true) : ∀ {k : Nat} {vs us : List Nat}, BW xs most rise k vs → BW xs most rise k us → vs = us
  | 0, _, _, h, g => FW.one hm h g
  | k + 1, _, _, ⟨us, r, h1, h2, h3⟩, ⟨us', r', g1, g2, g3⟩ => by
    have e := BW.one hm h1 g1
    subst e
    have hs := h2.same g2
    obtain ⟨p, q, s, t, a1, a2, a3, a4, a5⟩ := h2
    rw [h3, g3, selW_one ((BW.facts hm h1).2 _) a5 hs]

theorem finV_eq {vs us : List Nat} (hl : vs.length = us.length) (h : ∀ i, i < vs.length → vs.getD i 0 = us.getD i 0) : vs = us := by
  refine List.ext_getElem hl fun i h1 h2 => ?_
  have := h i h1
  rw [List.getD_eq_getElem?_getD, List.getD_eq_getElem?_getD, List.getElem?_eq_getElem h1, List.getElem?_eq_getElem h2] at this
  simpa using this

/-- The sum of two speeds. -/
def bothV (us : List Nat) (k : Nat) : Nat := (floatBits .add .f32 (us.getD k 0) (us.getD (k + 1) 0)).getD 0
theorem add_told {x y : Nat} (hx : fin .f32 x = true) (hy : fin .f32 y = true) : ∃ b, floatBits .add .f32 x y = some b ∧ ∃ o, FloatKind.f32.format.order b 0 = some o := by
  obtain ⟨s, m, p, hd⟩ := fin_numberY hx
  obtain ⟨t, n, q, he⟩ := fin_numberY hy
  obtain ⟨z, M, P, hs⟩ : ∃ z M P, (Datum.number s m p).sum (.number t n q) = some (.number z M P) := ⟨_, _, _, rfl⟩
  have e : floatBits .add .f32 x y = some (single.nearest z M P) := by
    show ((single.read x).sum (single.read y)).map single.write = _
    rw [hd, he, hs]; rfl
  refine ⟨_, e, ?_⟩
  obtain ⟨rung, e2, hr⟩ := nearest_rung z M P
  have h0 : single.read 0 = .number false 0 (-149) := by decide +kernel
  have ho : FloatKind.f32.format.order (single.nearest z M P) 0 = (single.read (single.word z rung)).order (.number false 0 (-149)) := by
    show (single.read (single.nearest z M P)).order (single.read 0) = _
    rw [h0, e2]
  rw [ho, read_word single z rung (by rw [ssw]; omega)]
  simp only [sl, sbin, sinf]
  by_cases h1 : rung < 8388608
  · rw [if_pos h1]; exact ⟨_, rfl⟩
  · rw [if_neg h1]
    by_cases h2 : rung < 2139095040
    · rw [if_pos h2]; exact ⟨_, rfl⟩
    · rw [if_neg h2, if_pos (by omega)]; exact ⟨_, rfl⟩
theorem bothV_of {us : List Nat} {k r : Nat} (hf : FinV us) (h : FOp .add .f32 (us.getD k 0) (us.getD (k + 1) 0) r) : r = bothV us k := by
  obtain ⟨b, hb, -⟩ := add_told (hf k) (hf (k + 1))
  unfold FOp at h
  rw [hb] at h
  unfold bothV
  rw [hb]
  exact h
def gtB (x : Nat) : Bool := FloatKind.f32.format.order x 0 == some Ordering.gt
theorem both_leq {us : List Nat} (hf : FinV us) (k : Nat) : leqW (bothV us k) 0 = !(gtB (bothV us k)) := by
  obtain ⟨b, hb, o, ho⟩ := add_told (hf k) (hf (k + 1))
  unfold bothV
  rw [hb]
  show leqW b 0 = !(gtB b)
  unfold leqW gtB
  rw [ho]
  cases o <;> rfl
/-- The time of the first k pieces. -/
def SM (xs us : List Nat) : Nat → Nat → Prop
  | 0, t => t = 0
  | k + 1, t => ∃ t0 d q, SM xs us k t0 ∧ FOp .mul .f32 1073741824 (xs.getD k 0) d ∧ FOp .quo .f32 d (bothV us k) q ∧ FOp .add .f32 t0 q t
theorem SM.same {xs us : List Nat} : ∀ {k t t' : Nat}, SM xs us k t → SM xs us k t' → FSame .f32 t t'
  | 0, _, _, h, g => .inl (Eq.trans h (Eq.symm g))
  | _ + 1, _, _, ⟨_, _, _, h1, h2, h3, h4⟩, ⟨_, _, _, g1, g2, g3, g4⟩ =>
    FOp.same (SM.same h1 g1) (FOp.same (FOp.same (FSame.refl _ _) (FSame.refl _ _) h2 g2) (FSame.refl _ _) h3 g3) h4 g4
/-- What may be planned. -/
def spB (xs : List Nat) (most rise : Nat) : Bool := decide (1 ≤ xs.length) && decide (xs.length ≤ 64) && posL xs && aboveB most && aboveB rise
/-- The speeds and the time that are handed out. -/
def SpO (xs : List Nat) (most rise : Nat) (vs : List Nat) (t : Nat) (ok : Bool) : Prop :=
  (spB xs most rise = true ∧ ∃ us, BW xs most rise xs.length us ∧
    (((∀ k, k < xs.length → gtB (bothV us k) = true) ∧ ∃ s, SM xs us xs.length s ∧ ((fin .f32 s = true ∧ vs = us ∧ t = s ∧ ok = true) ∨ (fin .f32 s = false ∧ vs = [] ∧ t = 0 ∧ ok = false))) ∨
     ((∃ k, k < xs.length ∧ gtB (bothV us k) = false) ∧ vs = [] ∧ t = 0 ∧ ok = false))) ∨
  (spB xs most rise = false ∧ vs = [] ∧ t = 0 ∧ ok = false)
theorem SpO.same {xs : List Nat} {most rise : Nat} {vs us : List Nat} {t s : Nat} {ok ok' : Bool} (h : SpO xs most rise vs t ok) (g : SpO xs most rise us s ok') : vs = us ∧ FSame .f32 t s ∧ ok = ok' := by
  have rf : ∀ x, FSame .f32 x x := FSame.refl .f32
  rcases h with ⟨h1, V, h2, h3⟩ | ⟨h1, rfl, rfl, rfl⟩ <;> rcases g with ⟨g1, U, g2, g3⟩ | ⟨g1, rfl, rfl, rfl⟩
  · have hm : fin .f32 most = true := by
      unfold spB aboveB at h1
      simp only [Bool.and_eq_true] at h1
      exact h1.1.2.1
    have e := BW.one hm h2 g2
    subst e
    rcases h3 with ⟨a1, T, a2, a3⟩ | ⟨⟨k, ak, a1⟩, rfl, rfl, rfl⟩ <;> rcases g3 with ⟨b1, S, b2, b3⟩ | ⟨⟨k', bk, b1⟩, rfl, rfl, rfl⟩
    · have es := SM.same a2 b2
      have ef := jfin_same es
      rcases a3 with ⟨a4, rfl, rfl, rfl⟩ | ⟨a4, rfl, rfl, rfl⟩ <;> rcases b3 with ⟨b4, rfl, rfl, rfl⟩ | ⟨b4, rfl, rfl, rfl⟩
      · exact ⟨rfl, es, rfl⟩
      · rw [a4, b4] at ef; cases ef
      · rw [a4, b4] at ef; cases ef
      · exact ⟨rfl, rf _, rfl⟩
    · have := a1 k' bk; rw [b1] at this; cases this
    · have := b1 k ak; rw [a1] at this; cases this
    · exact ⟨rfl, rf _, rfl⟩
  · rw [h1] at g1; cases g1
  · rw [h1] at g1; cases g1
  · exact ⟨rfl, rf _, rfl⟩

end Go.Proofs.Ytohbanchaggnmaa
