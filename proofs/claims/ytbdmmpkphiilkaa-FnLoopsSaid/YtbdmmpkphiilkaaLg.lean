/-
  The logarithm, as a chain of operations: its bounds, and that it is one number.
  Own work; imports nothing of the program.
-/
import Derived.Test.YtbdmmpkphiilkaaAn
namespace Go.Proofs.Ytbdmmpkphiilkaa
namespace Fl
open Ieee

theorem quot_ge {dg : Nat} {d e : Datum} {a b : Int} (hd : DGe d a) (he : DLe e b) (hp : DPos e) (hn : ∃ c, DGe e c) (hdg : 1 ≤ dg) : ∃ r, d.quotient dg e = some r ∧ DGe r (a - b - 1) := by
  obtain ⟨m, p, rfl, j, h1, h2⟩ := hd
  obtain ⟨c, n, q, rfl, i, g1, _⟩ := hn
  obtain ⟨s', n', q', e', he⟩ := he
  cases e'
  have hn0 : n ≠ 0 := by have := pow_pos' i; omega
  have hm0 : m ≠ 0 := by have := pow_pos' j; omega
  obtain ⟨k, k1, k2⟩ := he.resolve_left hn0
  unfold Datum.quotient
  dsimp only
  rw [if_neg hn0]
  refine ⟨_, rfl, _, _, rfl, ?_⟩
  generalize hmore : dg + n.log2 - m.log2 = more
  have hlj := log_ge_of h1
  have hlk := log_le_of hn0 k1
  have l1 := (two_pow_log m hm0).1
  have l2 := (two_pow_log n hn0).2
  refine ⟨m.log2 + more - n.log2, ?_, by omega⟩
  rw [shl_eq]
  have hD : 2 ^ (m.log2 + more) ≤ m * 2 ^ more := by rw [Nat.pow_add]; exact Nat.mul_le_mul_right _ l1
  have hQ : 2 ^ (m.log2 + more - (n.log2 + 1)) ≤ m * 2 ^ more / n := by
    rw [Nat.le_div_iff_mul_le (by omega)]
    refine Nat.le_trans ?_ hD
    have : 2 ^ (m.log2 + more) = 2 ^ (m.log2 + more - (n.log2 + 1)) * 2 ^ (n.log2 + 1) := by
      rw [← Nat.pow_add]; congr 1; omega
    rw [this]
    exact Nat.mul_le_mul_left _ (Nat.le_of_lt l2)
  have h2p : 2 ^ (m.log2 + more - n.log2) = 2 ^ (m.log2 + more - (n.log2 + 1)) * 2 := by
    rw [← Nat.pow_succ]; congr 1; omega
  rw [h2p]
  omega

theorem prod_ge {d e : Datum} {a b : Int} (hd : DGe d a) (he : DGe e b) : ∃ r, d.product e = some r ∧ DGe r (a + b) := by
  obtain ⟨m, p, rfl, j, h1, h2⟩ := hd
  obtain ⟨n, q, rfl, i, g1, g2⟩ := he
  exact ⟨_, rfl, _, _, rfl, j + i, by rw [Nat.pow_add]; exact Nat.mul_le_mul h1 g1, by omega⟩

theorem FOp.quo_ge {x y r : Nat} {a b l c : Int} (h : FOp .quo .f64 x y r) (hx : WGe x a) (hy : WLe y b) (gx : WLe x l) (gy : WGe y c) (h1 : -1022 ≤ a - b - 1) (h2 : a - b - 1 ≤ l - c) (h3 : l - c ≤ 1023) : WGe r (a - b - 1) := by
  obtain ⟨d, hd, hl⟩ := quot_le (dg := double.fractionBits + 2) gx gy
  obtain ⟨d', hd', hg⟩ := quot_ge (dg := double.fractionBits + 2) hx hy (DGe.pos gy) ⟨c, gy⟩ (by omega)
  rw [hd] at hd'
  cases hd'
  unfold FOp floatBits at h
  simp only at h
  unfold Format.div at h
  have hf : FloatKind.f64.format = double := rfl
  rw [hf, hd] at h
  have h : r = double.write d := h
  subst h
  exact write_ge hg hl h1 h2 h3

theorem FOp.mul_ge {x y r : Nat} {a b k l : Int} (h : FOp .mul .f64 x y r) (hx : WGe x a) (hy : WGe y b) (gx : WLe x k) (gy : WLe y l) (h1 : -1022 ≤ a + b) (h2 : a + b ≤ k + l) (h3 : k + l ≤ 1023) : WGe r (a + b) := by
  obtain ⟨d, hd, hl⟩ := product_le gx gy
  obtain ⟨d', hd', hg⟩ := prod_ge hx hy
  rw [hd] at hd'
  cases hd'
  unfold FOp floatBits at h
  simp only at h
  unfold Format.mul at h
  have hf : FloatKind.f64.format = double := rfl
  rw [hf, hd] at h
  have h : r = double.write d := h
  subst h
  exact write_ge hg hl h1 h2 h3

theorem ge_le {x : Nat} {a b : Int} (h : WGe x a) (g : WLe x b) : a ≤ b := by
  obtain ⟨m, p, e, j, h1, h2⟩ := h
  obtain ⟨s, m', p', e', g⟩ := g
  rw [e] at e'
  cases e'
  have hm : m ≠ 0 := by have := pow_pos' j; omega
  obtain ⟨i, g1, g2⟩ := g.resolve_left hm
  have := log_ge_of h1
  have := log_le_of hm g1
  omega

/-! ### Orders against a constant -/

theorem pos_fin {x : Nat} (h : WPos x) : fin .f64 x = true := by
  obtain ⟨m, p, e⟩ := h
  have hf : FloatKind.f64.format = double := rfl
  unfold fin
  rw [hf, e]
theorem pos_read {x : Nat} (h : WPos x) : double.read (x % 9223372036854775808) = double.read x := by
  have es : double.signWeight = 9223372036854775808 := by decide
  have ha := read_abs double x
  rw [es] at ha
  obtain ⟨m, p, e⟩ := h
  rw [ha, e]
theorem pos_order {x c : Nat} (h : WPos x) : FloatKind.f64.format.order x c = FloatKind.f64.format.order (x % 9223372036854775808) c := by
  have hf : FloatKind.f64.format = double := rfl
  rw [hf]
  unfold Format.order
  rw [pos_read h]
theorem pos_ge {x : Nat} {k : Int} (h : WPos x) (hk : (k + 1023) * 4503599627370496 ≤ ((x % 9223372036854775808 : Nat) : Int)) (hk1 : -1022 ≤ k) : WGe x k := by
  have hg := read_rung_ge (x % 9223372036854775808) k hk (fin_rung (pos_fin h)) hk1
  have e : double.word false (x % 9223372036854775808) = x % 9223372036854775808 := rfl
  rw [e, pos_read h] at hg
  exact hg

def geB (x : Nat) : Bool := FloatKind.f64.format.order x 4609434218613702656 == some Ordering.gt || FloatKind.f64.format.order x 4609434218613702656 == some Ordering.eq
def ltB (x : Nat) : Bool := FloatKind.f64.format.order x 4604930618986332160 == some Ordering.lt

theorem geB_word {x : Nat} (h : WPos x) : geB x = decide (4609434218613702656 ≤ x % 9223372036854775808) := by
  have ei : double.infRung = 9218868437227405312 := by decide
  have hf : FloatKind.f64.format = double := rfl
  have hr := fin_rung (pos_fin h)
  unfold geB
  rw [pos_order h, hf]
  rcases Nat.lt_trichotomy (x % 9223372036854775808) 4609434218613702656 with h | h | h
  · rw [order_words_lt double h (by rw [ei]; omega), decide_eq_false (by omega)]; rfl
  · rw [h, decide_eq_true (by omega)]; decide
  · rw [order_words_gt double h (by rw [ei]; exact hr), decide_eq_true (by omega)]; rfl
theorem ltB_word {x : Nat} (h : WPos x) : ltB x = decide (x % 9223372036854775808 < 4604930618986332160) := by
  have ei : double.infRung = 9218868437227405312 := by decide
  have hf : FloatKind.f64.format = double := rfl
  have hr := fin_rung (pos_fin h)
  unfold ltB
  rw [pos_order h, hf]
  rcases Nat.lt_trichotomy (x % 9223372036854775808) 4604930618986332160 with h | h | h
  · rw [order_words_lt double h (by rw [ei]; omega), decide_eq_true h]; rfl
  · rw [h, decide_eq_false (by omega)]; decide
  · rw [order_words_gt double h (by rw [ei]; exact hr), decide_eq_false (by omega)]; rfl
theorem geB_yes {x : Nat} (h : WPos x) (hg : geB x = true) : WGe x 0 := by
  rw [geB_word h, decide_eq_true_eq] at hg
  exact pos_ge h (by omega) (by omega)
theorem geB_no {x : Nat} (h : WPos x) (hg : geB x = false) : WLe x 1 := by
  rw [geB_word h, decide_eq_false_iff_not] at hg
  exact wle_of_rung (by omega) (by omega) (by omega)
theorem ltB_yes {x : Nat} (h : WPos x) (hg : ltB x = true) : WLe x 0 := by
  rw [ltB_word h, decide_eq_true_eq] at hg
  exact wle_of_rung (by omega) (by omega) (by omega)
theorem ltB_no {x : Nat} (h : WPos x) (hg : ltB x = false) : WGe x (-1) := by
  rw [ltB_word h, decide_eq_false_iff_not] at hg
  exact pos_ge h (by omega) (by omega)

theorem two_le : WLe 4611686018427387904 1 := wle_of_rung (by omega) (by omega) (by omega)
theorem two_ge : WGe 4611686018427387904 1 := by
  have e : double.word false 4611686018427387904 = 4611686018427387904 := rfl
  have := read_rung_ge 4611686018427387904 1 (by omega) (by omega) (by omega)
  rw [e] at this
  exact this
theorem ln2_le : WLe 4604418534313441775 0 := wle_of_rung (by omega) (by omega) (by omega)

/-! ### Rounds while a test holds -/

def Iter (G : Nat → Bool) (S : Nat → Nat → Prop) (y : Nat) : Nat → Nat → Prop
  | 0, x => x = y
  | j + 1, x => ∃ z, Iter G S y j z ∧ G z = true ∧ S z x
theorem Iter.pre {G : Nat → Bool} {S : Nat → Nat → Prop} {y : Nat} : ∀ {j x i : Nat}, Iter G S y j x → i < j → ∃ z, Iter G S y i z ∧ G z = true
  | 0, _, _, _, h => by omega
  | j + 1, x, i, ⟨z, h1, h2, _⟩, hi => by
    by_cases h : i = j
    · subst h; exact ⟨z, h1, h2⟩
    · exact Iter.pre h1 (by omega)
theorem Iter.stop {G : Nat → Bool} {S : Nat → Nat → Prop} {y : Nat} (det : ∀ j x x', Iter G S y j x → Iter G S y j x' → x' = x) {j x j' x' : Nat} (h : Iter G S y j x) (hx : G x = false) (h' : Iter G S y j' x') (hx' : G x' = false) : j' = j ∧ x' = x := by
  have hj : j' = j := by
    rcases Nat.lt_trichotomy j' j with hl | hl | hl
    · obtain ⟨z, h1, h2⟩ := h.pre hl
      have := det _ _ _ h' h1
      subst this
      rw [hx'] at h2; cases h2
    · exact hl
    · obtain ⟨z, h1, h2⟩ := h'.pre hl
      have := det _ _ _ h h1
      subst this
      rw [hx] at h2; cases h2
  subst hj
  exact ⟨rfl, det _ _ _ h h'⟩

def Down (y j x : Nat) : Prop := Iter geB (fun z x => FOp .quo .f64 z 4611686018427387904 x) y j x
def Up (y j x : Nat) : Prop := Iter ltB (fun z x => FOp .mul .f64 z 4611686018427387904 x) y j x

theorem down_step {z x : Nat} {j : Nat} (h1 : WGe z (-149)) (h2 : WLe z (128 - (j : Int))) (hg : geB z = true) (h : FOp .quo .f64 z 4611686018427387904 x) : WGe x (-149) ∧ WLe x (128 - ((j + 1 : Nat) : Int)) ∧ j ≤ 128 := by
  have g0 := geB_yes (DGe.pos h1) hg
  have hj := ge_le g0 h2
  have b1 := FOp.quo_ge h g0 two_le h2 two_ge (by omega) (by omega) (by omega)
  have b2 := FOp.quo_le h h2 two_ge (by omega) (by omega)
  exact ⟨DGe.mono b1 (by omega), b2.mono (by omega), by omega⟩
theorem Down.one {y : Nat} (h1 : WGe y (-149)) (h2 : WLe y 128) : ∀ {j x : Nat}, Down y j x → (WGe x (-149) ∧ WLe x (128 - (j : Int)) ∧ j ≤ 129) ∧ ∀ x', Down y j x' → x' = x
  | 0, x, h => by
    have e : x = y := h
    subst e
    exact ⟨⟨h1, h2.mono (by omega), by omega⟩, fun x' h' => h'⟩
  | j + 1, x, ⟨z, g1, g2, g3⟩ => by
    obtain ⟨⟨b1, b2, _⟩, d⟩ := Down.one h1 h2 g1
    obtain ⟨c1, c2, c3⟩ := down_step b1 b2 g2 g3
    refine ⟨⟨c1, c2, by omega⟩, ?_⟩
    rintro x' ⟨z', k1, k2, k3⟩
    have e := d _ k1
    subst e
    exact FOp.det g3 k3 c2

theorem up_step {z x : Nat} {j : Nat} (h1 : WGe z ((j : Int) - 149)) (hg : ltB z = true) (h : FOp .mul .f64 z 4611686018427387904 x) : WGe x (((j + 1 : Nat) : Int) - 149) ∧ WLe x 1 ∧ j ≤ 149 := by
  have g0 := ltB_yes (DGe.pos h1) hg
  have hj := ge_le h1 g0
  have b1 := FOp.mul_ge h h1 two_ge g0 two_le (by omega) (by omega) (by omega)
  have b2 := FOp.mul_le h g0 two_le (by omega) (by omega)
  exact ⟨DGe.mono b1 (by omega), b2.mono (by omega), by omega⟩
theorem Up.one {y : Nat} (h1 : WGe y (-149)) (h2 : WLe y 1) : ∀ {j x : Nat}, Up y j x → (WGe x ((j : Int) - 149) ∧ WLe x 1 ∧ j ≤ 150) ∧ ∀ x', Up y j x' → x' = x
  | 0, x, h => by
    have e : x = y := h
    subst e
    exact ⟨⟨DGe.mono h1 (by omega), h2, by omega⟩, fun x' h' => h'⟩
  | j + 1, x, ⟨z, g1, g2, g3⟩ => by
    obtain ⟨⟨b1, b2, _⟩, d⟩ := Up.one h1 h2 g1
    obtain ⟨c1, c2, c3⟩ := up_step b1 g2 g3
    refine ⟨⟨c1, c2, by omega⟩, ?_⟩
    rintro x' ⟨z', k1, k2, k3⟩
    have e := d _ k1
    subst e
    exact FOp.det g3 k3 c2

theorem int_le {n : Int} (h0 : -256 ≤ n) (h1 : n ≤ 256) : WLe (floatOfInt .f64 n) 8 := by
  have hz : floatOfInt .f64 n = double.write (.number (decide (n < 0)) n.natAbs 0) := rfl
  unfold WLe
  rw [hz]
  exact write_le ⟨_, _, _, rfl, .inr ⟨8, by have a1 : (2 : Nat) ^ 8 = 256 := rfl; omega, by omega⟩⟩ (by omega) (by omega)

/-- The sum, after j rounds: 25, 23, .. -/
def PolyL (u : Nat) : Nat → Nat → Prop
  | 0, p => p = 0
  | j + 1, p => ∃ q d m, PolyL u j q ∧ FOp .quo .f64 4607182418800017408 (floatOfInt .f64 (25 - 2 * (j : Int))) d ∧ FOp .mul .f64 u q m ∧ FOp .add .f64 d m p
theorem PolyL.one {u : Nat} (hu : WLe u 6) : ∀ {j p : Nat}, j ≤ 13 → PolyL u j p → WLe p (7 * j) ∧ ∀ p', PolyL u j p' → p' = p
  | 0, p, _, h => ⟨by rw [show p = 0 from h]; exact zero_le'.mono (by omega), fun p' h' => (show p' = 0 from h').trans (show p = 0 from h).symm⟩
  | j + 1, p, hj, ⟨q, d, m, h1, h2, h3, h4⟩ => by
    obtain ⟨bq, dq⟩ := PolyL.one hu (by omega) h1
    have bd := FOp.quo_le h2 one_le (int_ge (n := 25 - 2 * (j : Int)) (by omega) (by omega)) (by omega) (by omega)
    have bm := FOp.mul_le h3 hu bq (by omega) (by omega)
    have bp := FOp.add_le h4 (bd.mono (show (0 : Int) - 0 ≤ 6 + 7 * (j : Int) by omega)) bm (by omega) (by omega)
    refine ⟨bp.mono (by omega), ?_⟩
    rintro p' ⟨q', d', m', g1, g2, g3, g4⟩
    have e1 := dq _ g1
    subst e1
    have e2 := FOp.det h2 g2 bd
    subst e2
    have e3 := FOp.det h3 g3 bm
    subst e3
    exact FOp.det h4 g4 bp

/-- The logarithm of x near 1, and e times that of 2. -/
def LogT (e : Int) (x r : Nat) : Prop := ∃ a b s u q m1 m2 m3, FOp .sub .f64 x 4607182418800017408 a ∧ FOp .add .f64 x 4607182418800017408 b ∧ FOp .quo .f64 a b s ∧ FOp .mul .f64 s s u ∧ PolyL u 13 q ∧ FOp .mul .f64 s q m1 ∧ FOp .mul .f64 4611686018427387904 m1 m2 ∧ FOp .mul .f64 (floatOfInt .f64 e) 4604418534313441775 m3 ∧ FOp .add .f64 m2 m3 r
theorem LogT.one {e : Int} {x r : Nat} (he : -256 ≤ e ∧ e ≤ 256) (hx : WLe x 1) (gx : WGe x (-1)) (h : LogT e x r) : WLe r 96 ∧ ∀ z, LogT e x z → z = r := by
  obtain ⟨a, b, s, u, q, m1, m2, m3, h1, h2, h3, h4, h5, h6, h7, h8, h9⟩ := h
  have one1 := one_le.mono (show (0 : Int) ≤ 1 by omega)
  have ba := FOp.sub_le h1 hx one1 (by omega) (by omega)
  have bb := FOp.add_le h2 hx one1 (by omega) (by omega)
  have gb := FOp.add_ge h2 hx one1 gx (DGe.pos one_ge) (by omega) (by omega) (by omega)
  have bs := FOp.quo_le h3 ba gb (by omega) (by omega)
  have bu := FOp.mul_le h4 bs bs (by omega) (by omega)
  obtain ⟨bq, dq⟩ := PolyL.one (bu.mono (by omega)) (Nat.le_refl _) h5
  have b1 := FOp.mul_le h6 bs bq (by omega) (by omega)
  have b2 := FOp.mul_le h7 two_le b1 (by omega) (by omega)
  have b3 := FOp.mul_le h8 (int_le he.1 he.2) ln2_le (by omega) (by omega)
  have br := FOp.add_le h9 (b2.mono (show _ ≤ (95 : Int) by omega)) (b3.mono (show _ ≤ (95 : Int) by omega)) (by omega) (by omega)
  refine ⟨br.mono (by omega), ?_⟩
  rintro z ⟨a', b', s', u', q', m1', m2', m3', g1, g2, g3, g4, g5, g6, g7, g8, g9⟩
  have e1 := FOp.det h1 g1 ba
  subst e1
  have e2 := FOp.det h2 g2 bb
  subst e2
  have e3 := FOp.det h3 g3 bs
  subst e3
  have e4 := FOp.det h4 g4 bu
  subst e4
  have e5 := dq _ g5
  subst e5
  have e6 := FOp.det h6 g6 b1
  subst e6
  have e7 := FOp.det h7 g7 b2
  subst e7
  have e8 := FOp.det h8 g8 b3
  subst e8
  exact FOp.det h9 g9 br

/-- The logarithm of y, a positive number. -/
def LogR (y r : Nat) : Prop := ∃ j x1 i x, Down y j x1 ∧ geB x1 = false ∧ Up x1 i x ∧ ltB x = false ∧ LogT ((j : Int) - (i : Int)) x r
theorem LogR.one {y r : Nat} (h1 : WGe y (-149)) (h2 : WLe y 128) (h : LogR y r) : WLe r 96 ∧ ∀ z, LogR y z → z = r := by
  obtain ⟨j, x1, i, x, k1, k2, k3, k4, k5⟩ := h
  obtain ⟨⟨c1, c2, c3⟩, _⟩ := Down.one h1 h2 k1
  have c4 := geB_no (DGe.pos c1) k2
  obtain ⟨⟨d1, d2, d3⟩, _⟩ := Up.one c1 c4 k3
  have d4 := ltB_no (DGe.pos d1) k4
  obtain ⟨br, dr⟩ := LogT.one (by omega) d2 d4 k5
  refine ⟨br, ?_⟩
  rintro z ⟨j', x1', i', x', g1, g2, g3, g4, g5⟩
  obtain ⟨e1, e2⟩ := Iter.stop (fun a b c hb hc => (Down.one h1 h2 hb).2 c hc) k1 k2 g1 g2
  subst e1
  subst e2
  obtain ⟨e3, e4⟩ := Iter.stop (fun a b c hb hc => (Up.one c1 c4 hb).2 c hc) k3 k4 g3 g4
  subst e3
  subst e4
  exact dr _ g5

end Fl
end Go.Proofs.Ytbdmmpkphiilkaa
