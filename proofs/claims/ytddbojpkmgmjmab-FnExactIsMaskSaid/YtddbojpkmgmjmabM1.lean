/-
  The distance of a sum from 1: the difference both ways is one number with both signs.
-/
import Derived.Test.YtddbojpkmgmjmabRv
import Derived.Test.YtddbojpkmgmjmabJa
namespace Go.Proofs.Ytddbojpkmgmjmab
open Go.RowKit Fl Ieee

theorem mread_word (s : Bool) {rung : Nat} (h : rung ≤ 2139095040) : single.read (single.word s rung) = if rung < 8388608 then Datum.number s rung single.leastPlace else if rung < 2139095040 then Datum.number s (8388608 + rung % 8388608) (single.leastPlace + (rung / 8388608 - 1 : Nat)) else Datum.infinity s := by
  have es : single.signWeight = 2147483648 := by decide
  have eb : single.binade = 8388608 := by decide
  have ei : single.infRung = 2139095040 := by decide
  have h1 : single.word s rung % 2147483648 = rung := by unfold Format.word; rw [es]; cases s <;> simp <;> omega
  have h2 : (single.word s rung / 2147483648 % 2 == 1) = s := by
    unfold Format.word
    rw [es]
    cases s
    · have : rung / 2147483648 = 0 := by omega
      simp [this]
    · have : (2147483648 + rung) / 2147483648 = 1 := by omega
      simp [this]
  unfold Format.read
  rw [es, eb, ei, h1, h2]
  dsimp only
  by_cases c1 : rung < 8388608
  · rw [if_pos c1, if_pos c1]
  · rw [if_neg c1, if_neg c1]
    by_cases c2 : rung < 2139095040
    · rw [if_pos c2, if_pos c2]
    · rw [if_neg c2, if_neg c2, if_pos (by omega)]

theorem mword_opp (s : Bool) {rung : Nat} (h : rung ≤ 2139095040) : single.read (single.word (!s) rung) = (single.read (single.word s rung)).opposite := by
  rw [mread_word s h, mread_word (!s) h]
  by_cases c1 : rung < 8388608
  · rw [if_pos c1, if_pos c1]; rfl
  · rw [if_neg c1, if_neg c1]
    by_cases c2 : rung < 2139095040
    · rw [if_pos c2, if_pos c2]; rfl
    · rw [if_neg c2, if_neg c2]; rfl

theorem mnearest (m : Nat) (p : Int) : ∃ rung, rung ≤ 2139095040 ∧ ∀ s, single.nearest s m p = single.word s rung := by
  by_cases h : m = 0
  · exact ⟨0, Nat.zero_le _, fun s => by unfold Format.nearest; rw [if_pos h]⟩
  · refine ⟨min ((max (p + m.log2 - single.fractionBits) single.leastPlace - single.leastPlace).toNat * single.binade + Toward.even.cut false (m <<< (p - max (p + m.log2 - single.fractionBits) single.leastPlace).toNat) (max (p + m.log2 - single.fractionBits) single.leastPlace - p).toNat) single.infRung, ?_, fun s => ?_⟩
    · have ei : single.infRung = 2139095040 := by decide
      rw [ei]
      exact Nat.min_le_right _ _
    · unfold Format.nearest
      rw [if_neg h]
      rfl

theorem mword_num (s : Bool) {rung : Nat} (h : rung ≤ 2139095040) : isNan .f32 (single.word s rung) = false := by
  unfold isNan FloatKind.decode
  show (single.read (single.word s rung)).isNaN = false
  rw [mread_word s h]
  split
  · rfl
  · split <;> rfl

theorem mwrite_num {d : Datum} (h : d.isNaN = false) : ∃ s rung, rung ≤ 2139095040 ∧ single.write d = single.word s rung := by
  cases d with
  | nan => cases h
  | infinity s => exact ⟨s, 2139095040, Nat.le_refl _, rfl⟩
  | number s m p =>
    obtain ⟨r, h1, h2⟩ := mnearest m p
    exact ⟨s, r, h1, h2 s⟩

theorem fin_number {x : Nat} (h : fin .f32 x = true) : ∃ s m p, single.read x = .number s m p := by
  unfold fin at h
  have hk : FloatKind.f32.format = single := rfl
  rw [hk] at h
  cases hd : single.read x with
  | number s m p => exact ⟨s, m, p, rfl⟩
  | infinity s => rw [hd] at h; cases h
  | nan s t => rw [hd] at h; cases h

/-- A number more does not make a not-a-number. -/
theorem madd_num {s x r : Nat} (hs : isNan .f32 s = false) (hx : fin .f32 x = true) (h : FOp .add .f32 s x r) : isNan .f32 r = false := by
  obtain ⟨t, m, p, hd⟩ := fin_number hx
  unfold isNan FloatKind.decode at hs
  have hk : FloatKind.f32.format = single := rfl
  rw [hk] at hs
  unfold FOp floatBits Format.add at h
  rw [hk] at h
  simp only at h
  rw [hd] at h
  cases he : single.read s with
  | nan => rw [he] at hs; cases hs
  | infinity u =>
    rw [he] at h
    obtain ⟨u', rung, h1, h2⟩ := mwrite_num (d := .infinity u) rfl
    have h' : r = single.write (.infinity u) := h
    rw [h', h2]
    exact mword_num _ h1
  | number u n q =>
    rw [he] at h
    obtain ⟨s', m', p', e1, _⟩ := sum_val (s := u) (t := t) (m := n) (n := m) (i := q) (j := p)
    rw [e1] at h
    obtain ⟨u', rung, h1, h2⟩ := mwrite_num (d := .number s' m' p') rfl
    have h' : r = single.write (.number s' m' p') := h
    rw [h', h2]
    exact mword_num _ h1

theorem SumTo.num {xs : List Nat} : ∀ {k r : Nat}, k ≤ xs.length → finL xs = true → SumTo xs k r → isNan .f32 r = false
  | 0, _, _, _, h => by
    have h' := h
    unfold SumTo at h'
    subst h'
    decide +kernel
  | k + 1, _, hk, hf, h => by
    unfold SumTo at h
    obtain ⟨s, h1, h2⟩ := h
    exact madd_num (SumTo.num (by omega) hf h1) (finL_get hf (by omega)) h2

/-- The sum less 1, and 1 less the sum. -/
theorem opp_sub {s a b : Nat} (hn : isNan .f32 s = false) (h1 : FOp .sub .f32 s 1065353216 a) (h2 : FOp .sub .f32 1065353216 s b) : (single.read b = (single.read a).opposite ∨ (a = 0 ∧ b = 0)) ∧ isNan .f32 a = false := by
  have e1 : single.read 1065353216 = .number false 8388608 (-23) := by decide +kernel
  unfold isNan FloatKind.decode at hn
  have hk : FloatKind.f32.format = single := rfl
  rw [hk] at hn
  unfold FOp floatBits Format.sub at h1 h2
  rw [hk] at h1 h2
  simp only at h1 h2
  rw [e1] at h1 h2
  cases he : single.read s with
  | nan => rw [he] at hn; cases hn
  | infinity u =>
    rw [he] at h1 h2
    have g1 : a = single.word u 2139095040 := h1
    have g2 : b = single.word (!u) 2139095040 := h2
    rw [g1, g2]
    exact ⟨.inl (mword_opp u (Nat.le_refl _)), mword_num _ (Nat.le_refl _)⟩
  | number u n q =>
    rw [he] at h1 h2
    have g1 : a = single.write ((Datum.number (if signed u n (q - min q (-23)).toNat + signed true 8388608 (-23 - min q (-23)).toNat = 0 then u && true else decide (signed u n (q - min q (-23)).toNat + signed true 8388608 (-23 - min q (-23)).toNat < 0)) (signed u n (q - min q (-23)).toNat + signed true 8388608 (-23 - min q (-23)).toNat).natAbs (min q (-23)))) := h1
    have g2 : b = single.write ((Datum.number (if signed false 8388608 (-23 - min (-23) q).toNat + signed (!u) n (q - min (-23) q).toNat = 0 then false && !u else decide (signed false 8388608 (-23 - min (-23) q).toNat + signed (!u) n (q - min (-23) q).toNat < 0)) (signed false 8388608 (-23 - min (-23) q).toNat + signed (!u) n (q - min (-23) q).toNat).natAbs (min (-23) q))) := h2
    rw [Int.min_comm (-23) q] at g2
    have so : ∀ (v : Bool) (m k : Nat), signed (!v) m k = -signed v m k := fun v m k => by cases v <;> simp [signed]
    have s1 : signed true 8388608 (-23 - min q (-23)).toNat = -signed false 8388608 (-23 - min q (-23)).toNat := so false _ _
    rw [s1] at g1
    rw [so u] at g2
    have hpos : 0 < signed false 8388608 (-23 - min q (-23)).toNat := by
      show (0 : Int) < ((8388608 <<< (-23 - min q (-23)).toNat : Nat) : Int)
      rw [Nat.shiftLeft_eq]
      have := Nat.two_pow_pos (-23 - min q (-23)).toNat
      have : 0 < 8388608 * 2 ^ (-23 - min q (-23)).toNat := by omega
      exact_mod_cast this
    have hneg : u = true → signed u n (q - min q (-23)).toNat ≤ 0 := fun e => by
      subst e
      show -((n <<< (q - min q (-23)).toNat : Nat) : Int) ≤ 0
      exact Int.neg_nonpos_of_nonneg (Int.natCast_nonneg _)
    generalize signed false 8388608 (-23 - min q (-23)).toNat = B at g1 g2 hpos
    generalize signed u n (q - min q (-23)).toNat = C at g1 g2 hneg
    generalize min q (-23) = p at g1 g2
    by_cases h0 : C + -B = 0
    · have hu : u = false := by
        cases u
        · rfl
        · have := hneg rfl; omega
      have h0' : B + -C = 0 := by omega
      rw [if_pos h0, h0, hu] at g1
      rw [if_pos h0', h0'] at g2
      have k1 : a = 0 := g1
      have k2 : b = 0 := g2
      rw [k1, k2]
      exact ⟨.inr ⟨rfl, rfl⟩, by decide +kernel⟩
    · have h0' : ¬ (B + -C = 0) := by omega
      rw [if_neg h0] at g1
      rw [if_neg h0'] at g2
      have ea : (B + -C).natAbs = (C + -B).natAbs := by omega
      have es : decide (B + -C < 0) = !decide (C + -B < 0) := by
        by_cases h : C + -B < 0
        · rw [decide_eq_true h, decide_eq_false (by omega)]; rfl
        · rw [decide_eq_false h, decide_eq_true (by omega)]; rfl
      rw [ea, es] at g2
      obtain ⟨rung, hr, hw⟩ := mnearest (C + -B).natAbs p
      have k1 : a = single.word (decide (C + -B < 0)) rung := g1.trans (hw _)
      have k2 : b = single.word (!decide (C + -B < 0)) rung := g2.trans (hw _)
      rw [k1, k2]
      exact ⟨.inl (mword_opp _ hr), mword_num _ hr⟩

def leqF (x y : Nat) : Bool := FloatKind.f32.format.order x y == some .lt || FloatKind.f32.format.order x y == some .eq
def geqF (x y : Nat) : Bool := FloatKind.f32.format.order x y == some .gt || FloatKind.f32.format.order x y == some .eq

theorem leq_fv {x y : Nat} {a b : Rat} (hx : FV .f32 x a) (hy : FV .f32 y b) : leqF x y = decide (a ≤ b) := by
  unfold leqF
  rw [ford hx hy]
  by_cases c1 : a < b
  · rw [if_pos c1, decide_eq_true (Rat.le_of_lt c1)]; rfl
  · rw [if_neg c1]
    by_cases c2 : a = b
    · rw [if_pos c2, decide_eq_true (by rw [c2]; exact Rat.le_refl)]; rfl
    · rw [if_neg c2, decide_eq_false (by grind)]; rfl
theorem geq_fv {x y : Nat} {a b : Rat} (hx : FV .f32 x a) (hy : FV .f32 y b) : geqF x y = decide (b ≤ a) := by
  unfold geqF
  rw [ford hx hy]
  by_cases c1 : a < b
  · rw [if_pos c1, decide_eq_false (by grind)]; rfl
  · rw [if_neg c1]
    by_cases c2 : a = b
    · rw [if_pos c2, decide_eq_true (by rw [c2]; exact Rat.le_refl)]; rfl
    · rw [if_neg c2, decide_eq_true (by grind)]; rfl

/-- The greater one of both differences is at most 0.001 just if the difference is so both ways. -/
theorem dist_mask (P : Program) {s a b : Nat} (hn : isNan .f32 s = false) (h1 : FOp .sub .f32 s 1065353216 a) (h2 : FOp .sub .f32 1065353216 s b) :
    ∃ v, (∀ (ts : Array TypeId) (t : TypeId) (W : World), (Builtin.max_ ts t #[.float .f32 a, .float .f32 b]).run P W = .ok (.float .f32 v) W) ∧ leqF v 981668463 = (geqF a 3129152111 && leqF a 981668463) := by
  obtain ⟨ho, ha⟩ := opp_sub hn h1 h2
  obtain ⟨C, hC⟩ : ∃ C, FV .f32 981668463 C := ⟨_, _, _, _, (by decide +kernel : FloatKind.f32.format.read 981668463 = .number false 8589935 (-33)), rfl⟩
  have hNC : FV .f32 3129152111 (-C) := fv_opp hC (by decide +kernel)
  rcases ho with ho | ⟨rfl, rfl⟩
  · cases hd : single.read a with
    | nan => unfold isNan FloatKind.decode at ha; have hk : FloatKind.f32.format = single := rfl; rw [hk, hd] at ha; cases ha
    | infinity u =>
      have hb : single.read b = .infinity (!u) := by rw [ho, hd]; rfl
      have oab : FloatKind.f32.format.order a b = some (if u then .lt else .gt) := by
        show (single.read a).order (single.read b) = _
        rw [hd, hb]
        cases u <;> rfl
      have c0 : single.read 981668463 = .number false 8589935 (-33) := by decide +kernel
      have c1 : single.read 3129152111 = .number true 8589935 (-33) := by decide +kernel
      have o1 : FloatKind.f32.format.order a 981668463 = some (if u then .lt else .gt) := by
        show (single.read a).order (single.read 981668463) = _
        rw [hd, c0]; rfl
      have o2 : FloatKind.f32.format.order a 3129152111 = some (if u then .lt else .gt) := by
        show (single.read a).order (single.read 3129152111) = _
        rw [hd, c1]; rfl
      have o3 : FloatKind.f32.format.order b 981668463 = some (if u then .gt else .lt) := by
        show (single.read b).order (single.read 981668463) = _
        rw [hb, c0]; cases u <;> rfl
      cases u
      · refine ⟨a, fun ts t W => by simp [Builtin.max_, Builtin.max2, oab], ?_⟩
        unfold leqF geqF
        rw [o1, o2]; rfl
      · refine ⟨b, fun ts t W => by simp [Builtin.max_, Builtin.max2, oab], ?_⟩
        unfold leqF geqF
        rw [o1, o2, o3]; rfl
    | number u m p =>
      have fa : FV .f32 a (dv u m p) := ⟨u, m, p, hd, rfl⟩
      have fb : FV .f32 b (-dv u m p) := fv_opp fa ho
      generalize dv u m p = q at fa fb
      have oab := ford fa fb
      rw [geq_fv fa hNC, leq_fv fa hC]
      by_cases c1 : q < -q
      · rw [if_pos c1] at oab
        refine ⟨b, fun ts t W => by simp [Builtin.max_, Builtin.max2, oab], ?_⟩
        rw [leq_fv fb hC, ← Bool.decide_and]
        exact decide_eq_decide.2 (by constructor <;> (intro h; first | (constructor <;> grind) | grind))
      · rw [if_neg c1] at oab
        by_cases c2 : q = -q
        · rw [if_pos c2] at oab
          by_cases hg : (FloatKind.f32.decode a).neg = true
          · refine ⟨b, fun ts t W => by simp [Builtin.max_, Builtin.max2, oab, hg], ?_⟩
            rw [leq_fv fb hC, ← Bool.decide_and]
            exact decide_eq_decide.2 (by constructor <;> (intro h; first | (constructor <;> grind) | grind))
          · refine ⟨a, fun ts t W => by simp [Builtin.max_, Builtin.max2, oab, hg], ?_⟩
            rw [leq_fv fa hC, ← Bool.decide_and]
            exact decide_eq_decide.2 (by constructor <;> (intro h; first | (constructor <;> grind) | grind))
        · rw [if_neg c2] at oab
          refine ⟨a, fun ts t W => by simp [Builtin.max_, Builtin.max2, oab], ?_⟩
          rw [leq_fv fa hC, ← Bool.decide_and]
          exact decide_eq_decide.2 (by constructor <;> (intro h; first | (constructor <;> grind) | grind))
  · refine ⟨0, fun ts t W => ?_, by decide +kernel⟩
    have o0 : FloatKind.f32.format.order 0 0 = some .eq := by decide +kernel
    simp [Builtin.max_, Builtin.max2, o0]

/-- Whether a sum is near to 1. -/
def okSum (s : Nat) : Bool := match floatBits .sub .f32 s 1065353216 with | some a => geqF a 3129152111 && leqF a 981668463 | none => false
theorem okSum_same {s t : Nat} (h : FSame .f32 s t) : okSum s = okSum t := by
  unfold okSum
  rcases h with rfl | ⟨h1, h2⟩
  · rfl
  · rw [bits_nan_left h1, bits_nan_left h2]
theorem okSum_of {s a : Nat} (h : FOp .sub .f32 s 1065353216 a) : okSum s = (geqF a 3129152111 && leqF a 981668463) := by
  unfold okSum
  unfold FOp at h
  split at h
  · subst h; rename_i hb; rw [hb]
  · rename_i hb
    rw [hb]
    have : FloatKind.f32.format.order a 3129152111 = none := order_nan_left h
    unfold geqF
    rw [this]
    rfl

def lenM (n : Nat) : Bool := decide (n = 1) || decide (n = 3) || decide (n = 5)
/-- What is a mask. -/
def MaskV (xs : List Nat) (b : Bool) : Prop := (lenM xs.length = false ∧ b = false) ∨ (lenM xs.length = true ∧ ∃ s, SumTo xs xs.length s ∧ b = (finL xs && okSum s))
theorem MaskV.one {xs : List Nat} {b c : Bool} (h : MaskV xs b) (g : MaskV xs c) : b = c := by
  rcases h with ⟨h1, h2⟩ | ⟨h1, s, h2, h3⟩ <;> rcases g with ⟨g1, g2⟩ | ⟨g1, t, g2, g3⟩
  · rw [h2, g2]
  · rw [h1] at g1; cases g1
  · rw [h1] at g1; cases g1
  · rw [h3, g3, okSum_same (SumTo.same h2 g2)]

end Go.Proofs.Ytddbojpkmgmjmab
