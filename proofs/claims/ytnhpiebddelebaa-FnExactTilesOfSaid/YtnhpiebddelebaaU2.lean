/-
  TilesOf: what both sides hand out; the rows of the program put behind one another.
-/
import Derived.Test.YtnhpiebddelebaaU1
import Derived.Test.YtnhpiebddelebaaI3
namespace Go.Proofs.Ytnhpiebddelebaa
open Go.RowKit Fl Go.WideShapes Go.Deep
attribute [local go_sem] kstore_f kalloc_drewN kset_drewN hstore_i hstore_s

theorem fop_is {op : BinOp} {k : FloatKind} {x y q r : Nat} (h : floatBits op k x y = some q) (g : FOp op k x y r) : r = q := by
  unfold FOp at g; rw [h] at g; exact g
theorem tile_share_all : ∀ m : Fin 13, ∀ i : Fin 13, i.val ≤ m.val → 1 ≤ m.val → (match floatBits .quo .f32 (floatOfInt .f32 (i.val : Int)) (floatOfInt .f32 (m.val : Int)) with | some q => isShareB q | none => false) = true := by decide +kernel
theorem QuoI.bits {i m : Nat} (h1 : 1 ≤ m) (h2 : m ≤ 12) (hi : i ≤ m) : ∃ q, isShareB q = true ∧ ∀ u, QuoI (i : Int) (m : Int) u → u = q := by
  have h := tile_share_all ⟨m, by omega⟩ ⟨i, by omega⟩ hi h1
  simp only at h
  cases hq : floatBits .quo .f32 (floatOfInt .f32 (i : Int)) (floatOfInt .f32 (m : Int)) with
  | none => rw [hq] at h; cases h
  | some q =>
    rw [hq] at h
    exact ⟨q, h, fun u hu => fop_is hq hu⟩
theorem QuoI.share {i m u : Nat} (h1 : 1 ≤ m) (h2 : m ≤ 12) (hi : i ≤ m) (h : QuoI (i : Int) (m : Int) u) : isShareB u = true := by
  obtain ⟨q, h3, h4⟩ := QuoI.bits h1 h2 hi
  rw [h4 u h]; exact h3
theorem QuoI.one {i m u u' : Nat} (h1 : 1 ≤ m) (h2 : m ≤ 12) (hi : i ≤ m) (h : QuoI (i : Int) (m : Int) u) (g : QuoI (i : Int) (m : Int) u') : u = u' := by
  obtain ⟨q, _, h4⟩ := QuoI.bits h1 h2 hi
  rw [h4 u h, h4 u' g]

/-- The spots of the first rows of tiles. -/
def GridL (a b : Int) (xs : List (Nat × Nat × Nat)) (m n : Nat) (zs : List (Nat × Nat × Nat)) : Prop :=
  ∀ i, i < zs.length → ∃ u v, QuoI ((i % (m + 1) : Nat) : Int) (m : Int) u ∧ QuoI ((i / (m + 1) : Nat) : Int) (n : Int) v ∧ AtO a b xs u v (sx zs i) (sy zs i) (sz zs i) true
theorem GridL.nil {a b : Int} {xs : List (Nat × Nat × Nat)} {m n : Nat} : GridL a b xs m n [] := fun i h => absurd h (by simp)
theorem GridL.row {a b : Int} {xs zs ys : List (Nat × Nat × Nat)} {m n j v : Nat} (h : GridL a b xs m n zs) (hz : zs.length = j * (m + 1)) (hy : ys.length = m + 1) (hv : QuoI (j : Int) (n : Int) v) (hr : TileL a b xs m v ys) : GridL a b xs m n (zs ++ ys) := fun i hi => by
  rw [List.length_append] at hi
  by_cases he : i < zs.length
  · obtain ⟨u', v', h1, h2, h3⟩ := h i he
    refine ⟨u', v', h1, h2, ?_⟩
    simpa [sx, sy, sz, List.getD_eq_getElem?_getD, List.getElem?_append_left he] using h3
  · obtain ⟨k, hk⟩ : ∃ k, k = i - zs.length := ⟨_, rfl⟩
    have hkl : k < m + 1 := by omega
    obtain ⟨u, h1, h2⟩ := hr k (by omega)
    have e0 : i = k + (m + 1) * j := by rw [Nat.mul_comm]; omega
    have e1 : i % (m + 1) = k := by rw [e0, Nat.add_mul_mod_self_left, Nat.mod_eq_of_lt hkl]
    have e2 : i / (m + 1) = j := by rw [e0, Nat.add_mul_div_left _ _ (by omega), Nat.div_eq_of_lt hkl, Nat.zero_add]
    refine ⟨u, v, by rw [e1]; exact h1, by rw [e2]; exact hv, ?_⟩
    have e3 : (zs ++ ys).getD i (0, 0, 0) = ys.getD k (0, 0, 0) := by rw [List.getD_eq_getElem?_getD, List.getD_eq_getElem?_getD, List.getElem?_append_right (by omega), hk]
    unfold sx sy sz at h2 ⊢
    rw [e3]
    exact h2
/-- A place of the tiles has no spot. -/
def NoP (a b : Int) (xs : List (Nat × Nat × Nat)) (m n : Nat) : Prop := ∃ i j u v x y z, i ≤ m ∧ j ≤ n ∧ QuoI ((i : Nat) : Int) (m : Int) u ∧ QuoI ((j : Nat) : Int) (n : Int) v ∧ AtO a b xs u v x y z false
def tilB (m n : Int) : Bool := decide (1 ≤ m) && decide (m ≤ 12) && (decide (1 ≤ n) && decide (n ≤ 12))
/-- What TilesOf hands out. -/
def TilesO (a b : Int) (xs : List (Nat × Nat × Nat)) (m n : Int) (zs : List (Nat × Nat × Nat)) (ok : Bool) : Prop :=
  (ok = true ∧ ∃ p q : Nat, m = p ∧ n = q ∧ (1 ≤ p ∧ p ≤ 12) ∧ (1 ≤ q ∧ q ≤ 12) ∧ zs.length = (q + 1) * (p + 1) ∧ GridL a b xs p q zs) ∨
  (ok = false ∧ zs = [] ∧ (tilB m n = false ∨ shB a b xs = false ∨ ∃ p q : Nat, m = p ∧ n = q ∧ (1 ≤ p ∧ p ≤ 12) ∧ (1 ≤ q ∧ q ≤ 12) ∧ NoP a b xs p q))
theorem AtO.sheet {a b : Int} {xs : List (Nat × Nat × Nat)} {u v x y z : Nat} (h : AtO a b xs u v x y z true) : shB a b xs = true := by
  rcases h with ⟨h1, _⟩ | ⟨_, _, _, _, h⟩
  · unfold placeB at h1; simp only [Bool.and_eq_true] at h1; exact h1.1.1
  · cases h
theorem grid_no {a b : Int} {xs zs : List (Nat × Nat × Nat)} {m n : Int} {p q : Nat} (hm : m = p) (hn : n = q) (hp : 1 ≤ p ∧ p ≤ 12) (hq : 1 ≤ q ∧ q ≤ 12) (hl : zs.length = (q + 1) * (p + 1)) (hG : GridL a b xs p q zs)
    (h : tilB m n = false ∨ shB a b xs = false ∨ ∃ p q : Nat, m = p ∧ n = q ∧ (1 ≤ p ∧ p ≤ 12) ∧ (1 ≤ q ∧ q ≤ 12) ∧ NoP a b xs p q) : False := by
  have h0 : 0 < zs.length := by rw [hl]; exact Nat.mul_pos (by omega) (by omega)
  rcases h with h | h | ⟨p', q', e1, e2, _, _, i, j, u, v, x, y, z, hi, hj, hu, hv, hat⟩
  · have ht : tilB m n = true := by simp [tilB]; omega
    rw [ht] at h
    cases h
  · obtain ⟨u, v, _, _, hat⟩ := hG 0 h0
    rw [AtO.sheet hat] at h
    cases h
  · obtain rfl : p' = p := by omega
    obtain rfl : q' = q := by omega
    have hk : i + (p' + 1) * j < zs.length := by
      rw [hl, Nat.mul_comm (q' + 1)]
      have : (p' + 1) * (j + 1) ≤ (p' + 1) * (q' + 1) := Nat.mul_le_mul_left _ (by omega)
      rw [Nat.mul_add, Nat.mul_one] at this
      omega
    obtain ⟨u', v', h1, h2, h3⟩ := hG _ hk
    have e3 : (i + (p' + 1) * j) % (p' + 1) = i := by rw [Nat.add_mul_mod_self_left, Nat.mod_eq_of_lt (by omega)]
    have e4 : (i + (p' + 1) * j) / (p' + 1) = j := by rw [Nat.add_mul_div_left _ _ (by omega), Nat.div_eq_of_lt (by omega), Nat.zero_add]
    rw [e3] at h1
    rw [e4] at h2
    obtain rfl := QuoI.one hp.1 hp.2 hi hu h1
    obtain rfl := QuoI.one hq.1 hq.2 hj hv h2
    have := (AtO.same rfl hat h3).2
    cases this
theorem TilesO.same {a b : Int} {xs zs zs' : List (Nat × Nat × Nat)} {m n : Int} {ok ok' : Bool} (h : TilesO a b xs m n zs ok) (g : TilesO a b xs m n zs' ok') : LS zs zs' ∧ ok = ok' := by
  rcases h with ⟨rfl, p, q, rfl, rfl, hp, hq, hl, hG⟩ | ⟨rfl, rfl, h⟩
  · rcases g with ⟨rfl, p', q', e1, e2, _, _, gl, gG⟩ | ⟨rfl, rfl, g⟩
    · obtain rfl : p' = p := by omega
      obtain rfl : q' = q := by omega
      refine ⟨⟨by omega, fun i hi => ?_⟩, rfl⟩
      obtain ⟨u, v, h1, h2, h3⟩ := hG i hi
      obtain ⟨u', v', g1, g2, g3⟩ := gG i (by omega)
      have hi1 : i % (p' + 1) ≤ p' := by have := Nat.mod_lt i (show 0 < p' + 1 by omega); omega
      have hi2 : i / (p' + 1) ≤ q' := by
        have : i / (p' + 1) < q' + 1 := (Nat.div_lt_iff_lt_mul (by omega)).2 (by rw [← hl]; exact hi)
        omega
      obtain rfl := QuoI.one hp.1 hp.2 hi1 h1 g1
      obtain rfl := QuoI.one hq.1 hq.2 hi2 h2 g2
      exact (AtO.same rfl h3 g3).1
    · exact (grid_no rfl rfl hp hq hl hG g).elim
  · rcases g with ⟨rfl, p', q', e1, e2, hp, hq, gl, gG⟩ | ⟨rfl, rfl, g⟩
    · exact (grid_no e1 e2 hp hq gl gG h).elim
    · exact ⟨LS.refl _, rfl⟩

/-- What a row of tiles is, in memory. -/
def RowP (a b : Int) (xs : List (Nat × Nat × Nat)) (m n gr j : Nat) (wr : World) (val : Value) : Prop :=
  (∃ g zs v, gr < g ∧ val = .slice (some ⟨g, 0, none⟩) (m + 1) (m + 1) ∧ zs.length = m + 1 ∧ QuoI (j : Int) (n : Int) v ∧ TileL a b xs m v zs ∧ RdS wr (some ⟨g, 0, none⟩) zs) ∨
  (val = .slice none 0 0 ∧ NoP a b xs m n)
theorem RowP.below {a b : Int} {xs : List (Nat × Nat × Nat)} {m n gr j : Nat} {w w' : World} {val : Value} (h : RowP a b xs m n gr j w val) (hB : Below w.heap.size w w') : RowP a b xs m n gr j w' val := by
  rcases h with ⟨g, zs, v, h1, h2, h3, h4, h5, h6⟩ | h
  · exact .inl ⟨g, zs, v, h1, h2, h3, h4, h5, h6.below hB⟩
  · exact .inr h
theorem RowP.put {a b : Int} {xs : List (Nat × Nat × Nat)} {m n gr j k : Nat} {w : World} {val u : Value} (h : RowP a b xs m n gr j w val) : RowP a b xs m n gr j (w.setCell ⟨gr, k, none⟩ u) val := by
  rcases h with ⟨g, zs, v, h1, h2, h3, h4, h5, h6⟩ | h
  · exact .inl ⟨g, zs, v, h1, h2, h3, h4, h5, h6.set (by omega)⟩
  · exact .inr h

end Go.Proofs.Ytnhpiebddelebaa
