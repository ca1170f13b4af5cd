/-
  NearestTile, walked on both sides.
-/
import Derived.Test.YtnhpiebddelebaaKo
import Derived.Deep.RegionHeld3
namespace Go.Proofs.Ytnhpiebddelebaa
open Go.RowKit Fl Go.WideShapes Go.Deep
attribute [local go_sem] kstore_f kalloc_drewN kset_drewN

/-- A list of 1 to 256 spots. -/
def lstS (xs : List (Nat × Nat × Nat)) : Bool := decide (1 ≤ xs.length) && decide (xs.length ≤ 256) && finS xs

/-- How far the k-th spot is. -/
def FarS (xs : List (Nat × Nat × Nat)) (x y z k far : Nat) (ok : Bool) : Prop := ∃ a b c, LessR (sx xs k) (sy xs k) (sz xs k) x y z a b c ∧ LongO a b c far ok
theorem FarS.same {xs : List (Nat × Nat × Nat)} {x y z k f f' : Nat} {o o' : Bool} (h : FarS xs x y z k f o) (g : FarS xs x y z k f' o') : FSame .f32 f f' ∧ o = o' := by
  obtain ⟨a, b, c, h1, h2⟩ := h
  obtain ⟨a', b', c', g1, g2⟩ := g
  exact LongO.same (LessR.same (S3.refl _ _ _) (S3.refl _ _ _) h1 g1) h2 g2
/-- The nearest of the first k spots. -/
def NearR (xs : List (Nat × Nat × Nat)) (x y z : Nat) : Nat → Nat → Nat → Prop
  | 0, i, l => i = 0 ∧ l = 0
  | k + 1, i, l => ∃ i0 l0 far, NearR xs x y z k i0 l0 ∧ FarS xs x y z k far true ∧ ((k = 0 ∨ (FloatKind.f32.format.order far l0 == some .lt) = true) ∧ i = k ∧ l = far ∨ (k ≠ 0 ∧ (FloatKind.f32.format.order far l0 == some .lt) = false) ∧ i = i0 ∧ l = l0)
theorem NearR.same {xs : List (Nat × Nat × Nat)} {x y z : Nat} : ∀ {k i l i' l' : Nat}, NearR xs x y z k i l → NearR xs x y z k i' l' → i = i' ∧ FSame .f32 l l'
  | 0, _, _, _, _, h, g => by obtain ⟨rfl, rfl⟩ := h; obtain ⟨rfl, rfl⟩ := g; exact ⟨rfl, FSame.refl _ _⟩
  | k + 1, _, _, _, _, h, g => by
    obtain ⟨i0, l0, far, h1, h2, h3⟩ := h
    obtain ⟨i0', l0', far', g1, g2, g3⟩ := g
    obtain ⟨rfl, hl⟩ := NearR.same h1 g1
    obtain ⟨hf, _⟩ := FarS.same h2 g2
    rw [order_same hf hl] at h3
    rcases h3 with ⟨h4, rfl, rfl⟩ | ⟨h4, rfl, rfl⟩
    · rcases g3 with ⟨_, rfl, rfl⟩ | ⟨g4, rfl, rfl⟩
      · exact ⟨rfl, hf⟩
      · rcases h4 with h4 | h4
        · exact absurd h4 g4.1
        · rw [g4.2] at h4; cases h4
    · rcases g3 with ⟨g4, rfl, rfl⟩ | ⟨_, rfl, rfl⟩
      · rcases g4 with g4 | g4
        · exact absurd g4 h4.1
        · rw [h4.2] at g4; cases g4
      · exact ⟨rfl, hl⟩
theorem NearR.far {xs : List (Nat × Nat × Nat)} {x y z : Nat} : ∀ {n i l k : Nat}, NearR xs x y z n i l → k < n → ∃ f, FarS xs x y z k f true
  | 0, _, _, _, _, hk => absurd hk (by omega)
  | n + 1, _, _, k, h, hk => by
    obtain ⟨i0, l0, far, h1, h2, _⟩ := h
    by_cases he : k = n
    · subst he; exact ⟨_, h2⟩
    · exact NearR.far h1 (by omega)
/-- What NearestTile may answer. -/
def NearO (xs : List (Nat × Nat × Nat)) (x y z i l : Nat) (ok : Bool) : Prop :=
  ((lstS xs && fin3 x y z) = true ∧ NearR xs x y z xs.length i l ∧ ok = true) ∨
  ((lstS xs && fin3 x y z) = true ∧ (∃ k f, k < xs.length ∧ FarS xs x y z k f false) ∧ i = 0 ∧ l = 0 ∧ ok = false) ∨
  ((lstS xs && fin3 x y z) = false ∧ i = 0 ∧ l = 0 ∧ ok = false)
theorem NearO.same {xs : List (Nat × Nat × Nat)} {x y z i l i' l' : Nat} {o o' : Bool} (h : NearO xs x y z i l o) (g : NearO xs x y z i' l' o') : i = i' ∧ FSame .f32 l l' ∧ o = o' := by
  rcases h with ⟨a, h1, rfl⟩ | ⟨a, ⟨k, f, hk, h1⟩, rfl, rfl, rfl⟩ | ⟨a, rfl, rfl, rfl⟩ <;> rcases g with ⟨b, g1, rfl⟩ | ⟨b, ⟨k', f', hk', g1⟩, rfl, rfl, rfl⟩ | ⟨b, rfl, rfl, rfl⟩
  · obtain ⟨e1, e2⟩ := NearR.same h1 g1; exact ⟨e1, e2, rfl⟩
  · obtain ⟨f2, h2⟩ := h1.far hk'; have := (FarS.same h2 g1).2; cases this
  · rw [a] at b; cases b
  · obtain ⟨f2, h2⟩ := g1.far hk; have := (FarS.same h2 h1).2; cases this
  · exact ⟨rfl, FSame.refl _ _, rfl⟩
  · rw [a] at b; cases b
  · rw [a] at b; cases b
  · rw [a] at b; cases b
  · exact ⟨rfl, FSame.refl _ _, rfl⟩

def NrAt (xs : List (Nat × Nat × Nat)) (x y z n : Nat) (w : World) (iv lv kv : Value) (wr : World) : Prop :=
  ∃ k i l : Nat, k ≤ n ∧ kv = .int .i64 k ∧ iv = .int .i64 i ∧ lv = .float .f32 l ∧ NearR xs x y z k i l ∧ At3 wr w.heap.size x y z ∧ Below w.heap.size w wr ∧ w.heap.size < wr.heap.size

end Go.Proofs.Ytnhpiebddelebaa
