/-
  Floats up to not-a-numbers: what an operation on floats gives, and when two runs of it agree.
  Own work; imports nothing of the program.
-/
import Derived.Laws.FloatArith
import Derived.Deep.Draws
import Derived.WalkKit
namespace Go.Proofs.Ytnbgnaenlbphcaa
namespace Fl

/-- The bits are those of a not-a-number. -/
def isNan (k : FloatKind) (b : Nat) : Bool := (k.decode b).isNaN

/-- Two words are one number, all not-a-numbers being one. -/
def FSame (k : FloatKind) (a b : Nat) : Prop := a = b ∨ (isNan k a = true ∧ isNan k b = true)

/-- What '+', '-', '*', '/' may leave. -/
def FOp (op : BinOp) (k : FloatKind) (x y r : Nat) : Prop :=
  match floatBits op k x y with
  | some b => r = b
  | none => isNan k r = true

theorem FSame.refl (k : FloatKind) (a : Nat) : FSame k a a := .inl rfl
theorem FSame.symm {k : FloatKind} {a b : Nat} (h : FSame k a b) : FSame k b a := by
  rcases h with h | ⟨h1, h2⟩
  · exact .inl h.symm
  · exact .inr ⟨h2, h1⟩
theorem FSame.trans {k : FloatKind} {a b c : Nat} (h : FSame k a b) (g : FSame k b c) : FSame k a c := by
  rcases h with rfl | ⟨h1, h2⟩
  · exact g
  · rcases g with rfl | ⟨g1, g2⟩
    · exact .inr ⟨h1, h2⟩
    · exact .inr ⟨h1, g2⟩

theorem decode_nan {k : FloatKind} {b : Nat} (h : isNan k b = true) : ∃ s t, k.format.read b = .nan s t := by
  unfold isNan FloatKind.decode at h
  cases hd : k.format.read b with
  | nan s t => exact ⟨s, t, rfl⟩
  | number => rw [hd] at h; simp [Ieee.Datum.isNaN] at h
  | infinity => rw [hd] at h; simp [Ieee.Datum.isNaN] at h

theorem bits_nan_left {op : BinOp} {k : FloatKind} {x y : Nat} (h : isNan k x = true) : floatBits op k x y = none := by
  obtain ⟨s, t, hx⟩ := decode_nan h
  unfold floatBits
  cases op <;> simp only [Ieee.Format.add, Ieee.Format.sub, Ieee.Format.mul, Ieee.Format.div, hx] <;> simp [Ieee.Datum.sum, Ieee.Datum.product, Ieee.Datum.quotient]

theorem bits_nan_right {op : BinOp} {k : FloatKind} {x y : Nat} (h : isNan k y = true) : floatBits op k x y = none := by
  obtain ⟨s, t, hy⟩ := decode_nan h
  unfold floatBits
  cases op <;> simp only [Ieee.Format.add, Ieee.Format.sub, Ieee.Format.mul, Ieee.Format.div, hy] <;> cases k.format.read x <;> simp [Ieee.Datum.sum, Ieee.Datum.product, Ieee.Datum.quotient, Ieee.Datum.opposite]

/-- An operation on the same numbers gives the same numbers. -/
theorem FOp.same {op : BinOp} {k : FloatKind} {x y r x' y' r' : Nat} (hx : FSame k x x') (hy : FSame k y y') (h : FOp op k x y r) (h' : FOp op k x' y' r') : FSame k r r' := by
  unfold FOp at h h'
  rcases hx with rfl | ⟨n1, n2⟩
  · rcases hy with rfl | ⟨m1, m2⟩
    · cases hb : floatBits op k x y with
      | some b => rw [hb] at h h'; exact .inl (h.trans h'.symm)
      | none => rw [hb] at h h'; exact .inr ⟨h, h'⟩
    · rw [bits_nan_right m1] at h; rw [bits_nan_right m2] at h'; exact .inr ⟨h, h'⟩
  · rw [bits_nan_left n1] at h; rw [bits_nan_left n2] at h'; exact .inr ⟨h, h'⟩

theorem order_nan_left {k : FloatKind} {x y : Nat} (h : isNan k x = true) : k.format.order x y = none := by
  obtain ⟨s, t, hx⟩ := decode_nan h
  simp [Ieee.Format.order, hx, Ieee.Datum.order]
theorem order_nan_right {k : FloatKind} {x y : Nat} (h : isNan k y = true) : k.format.order x y = none := by
  obtain ⟨s, t, hy⟩ := decode_nan h
  unfold Ieee.Format.order
  rw [hy]
  cases k.format.read x <;> simp [Ieee.Datum.order]

theorem order_same {k : FloatKind} {x y x' y' : Nat} (hx : FSame k x x') (hy : FSame k y y') : k.format.order x y = k.format.order x' y' := by
  rcases hx with rfl | ⟨n1, n2⟩
  · rcases hy with rfl | ⟨m1, m2⟩
    · rfl
    · rw [order_nan_right m1, order_nan_right m2]
  · rw [order_nan_left n1, order_nan_left n2]

theorem compare_self (a : Int) : compare a a = .eq := by simp [compare, compareOfLessAndEq]

/-- A number is equal to itself, a not-a-number to nothing. -/
theorem order_self (k : FloatKind) (x : Nat) : k.format.order x x = if isNan k x then none else some .eq := by
  unfold isNan FloatKind.decode Ieee.Format.order
  cases hd : k.format.read x with
  | nan s t => simp [Ieee.Datum.order, Ieee.Datum.isNaN]
  | infinity s => simp [Ieee.Datum.order, Ieee.Datum.isNaN, compare, compareOfLessAndEq]
  | number s m e => simp [Ieee.Datum.order, Ieee.Datum.isNaN, compare, compareOfLessAndEq]

theorem arr32 (a u : Nat) (_ : a < 2) (hu : u < 8388607) : (a * 2147483648 + 2139095040 + 1 + u) % 2147483648 = 2139095041 + u := by omega
theorem arr64 (a u : Nat) (_ : a < 2) (hu : u < 4503599627370495) : (a * 9223372036854775808 + 9218868437227405312 + 1 + u) % 9223372036854775808 = 9218868437227405313 + u := by omega

theorem read_nan32 (b u : Nat) (h : b % 2147483648 = 2139095041 + u) : (Ieee.single.read b).isNaN = true := by
  have e1 : Ieee.single.signWeight = 2147483648 := by decide
  have e2 : Ieee.single.binade = 8388608 := by decide
  have e3 : Ieee.single.infRung = 2139095040 := by decide
  simp only [Ieee.Format.read, e1, e2, e3, h]
  rw [if_neg (Nat.not_lt.2 (by omega)), if_neg (Nat.not_lt.2 (by omega)), if_neg (Nat.ne_of_gt (by omega))]
  rfl
theorem read_nan64 (b u : Nat) (h : b % 9223372036854775808 = 9218868437227405313 + u) : (Ieee.double.read b).isNaN = true := by
  have e1 : Ieee.double.signWeight = 9223372036854775808 := by decide
  have e2 : Ieee.double.binade = 4503599627370496 := by decide
  have e3 : Ieee.double.infRung = 9218868437227405312 := by decide
  simp only [Ieee.Format.read, e1, e2, e3, h]
  rw [if_neg (Nat.not_lt.2 (by omega)), if_neg (Nat.not_lt.2 (by omega)), if_neg (Nat.ne_of_gt (by omega))]
  rfl

theorem nan_of_cut32 (t : Nat) : isNan .f32 (t % 2 * 2 ^ 31 + 0x7f800000 + 1 + t / 2 % (2 ^ 23 - 1)) = true :=
  read_nan32 _ (t / 2 % (2 ^ 23 - 1)) (arr32 (t % 2) (t / 2 % (2 ^ 23 - 1)) (Nat.mod_lt _ (by omega)) (Nat.mod_lt _ (by omega)))
theorem nan_of_cut64 (t : Nat) : isNan .f64 (t % 2 * 2 ^ 63 + 0x7ff0000000000000 + 1 + t / 2 % (2 ^ 52 - 1)) = true :=
  read_nan64 _ (t / 2 % (2 ^ 52 - 1)) (arr64 (t % 2) (t / 2 % (2 ^ 52 - 1)) (Nat.mod_lt _ (by omega)) (Nat.mod_lt _ (by omega)))

theorem nan_lt_cut (k : FloatKind) (x y t : Nat) : isNan k ((Question.nanBits k x y).cut t) = true := by
  cases k
  · exact nan_of_cut32 t
  · exact nan_of_cut64 t
theorem nan_conv_cut (k : FloatKind) (x t : Nat) : isNan k ((Question.nanConv k x).cut t) = true := by
  cases k
  · exact nan_of_cut32 t
  · exact nan_of_cut64 t

theorem lt_of_cut32 (t : Nat) : t % 2 * 2 ^ 31 + 0x7f800000 + 1 + t / 2 % (2 ^ 23 - 1) < 4294967296 := by
  have h1 : t % 2 < 2 := Nat.mod_lt _ (by omega)
  have h2 : t / 2 % (2 ^ 23 - 1) < 2 ^ 23 - 1 := Nat.mod_lt _ (by omega)
  omega
theorem lt_of_cut64 (t : Nat) : t % 2 * 2 ^ 63 + 0x7ff0000000000000 + 1 + t / 2 % (2 ^ 52 - 1) < 18446744073709551616 := by
  have h1 : t % 2 < 2 := Nat.mod_lt _ (by omega)
  have h2 : t / 2 % (2 ^ 52 - 1) < 2 ^ 52 - 1 := Nat.mod_lt _ (by omega)
  omega

theorem cut_nan_lt (k : FloatKind) (x y t : Nat) : (Question.nanBits k x y).cut t < 2 ^ k.format.width := by
  cases k
  · exact lt_of_cut32 t
  · exact lt_of_cut64 t
theorem cut_conv_lt (k : FloatKind) (x t : Nat) : (Question.nanConv k x).cut t < 2 ^ k.format.width := by
  cases k
  · exact lt_of_cut32 t
  · exact lt_of_cut64 t

theorem bits_lt {op : BinOp} {k : FloatKind} {x y r : Nat} (h : floatBits op k x y = some r) : r < 2 ^ k.format.width := by
  unfold floatBits at h
  split at h
  · exact k.format.add_lt h
  · exact k.format.sub_lt h
  · exact k.format.mul_lt h
  · exact k.format.div_lt h
  · cases h

section
variable {P : Program} (w : World)
/-- '+', '-', '*', '/' on any floats run: what they leave is told, but for the bits of a not-a-number; no memory changes. -/
theorem run_arith_any (op : BinOp) (hop : op = .add ∨ op = .sub ∨ op = .mul ∨ op = .quo) (t : TypeId) (k : FloatKind) (x y : Nat) :
    ∃ r n, (binOp op t (.float k x) (.float k y)).run P w = .ok (.float k r) (w.drewN n) ∧ FOp op k x y r ∧ r < 2 ^ k.format.width := by
  cases hb : floatBits op k x y with
  | some b =>
    refine ⟨b, 0, run_float_arith w op t k x y b hb, ?_, bits_lt hb⟩
    unfold FOp; rw [hb]
  | none =>
    refine ⟨(Question.nanBits k x y).cut (w.tape w.drawn (.nanBits k x y)), 1, ?_, ?_, cut_nan_lt ..⟩
    · unfold floatBits at hb
      rcases hop with rfl | rfl | rfl | rfl <;> simp only at hb <;> simp [binOp, Op.floatArith, hb, Question.forced, World.drewN]
    · unfold FOp; rw [hb]; exact nan_lt_cut ..
end

def isAr : BinOp → Bool
  | .add | .sub | .mul | .quo => true
  | _ => false
theorem isAr_or {op : BinOp} (h : isAr op = true) : op = .add ∨ op = .sub ∨ op = .mul ∨ op = .quo := by
  cases op <;> simp [isAr] at h <;> simp

/-- The walk's law for it. -/
theorem wpList_arith {P : Program} {ops : Array Oper} {rest : List Oper} {o : Oper} {a : Act} {w : World} {Q : Exit → Act → World → Prop} (hg : o.guard = none) (op : BinOp) (t t' : TypeId) (x y : Operand)
    (ho : o.op = .binOp op t x y t') (hop' : isAr op = true) (k : FloatKind) (bx b : Nat) (hx : a.eval x = .float k bx) (hy : a.eval y = .float k b)
    (h : ∀ r n, FOp op k bx b r → r < 2 ^ k.format.width → wpList P ops Q rest (a.put o.dst (.float k r)) (w.drewN n)) : wpList P ops Q (o :: rest) a w := by
  have hop := isAr_or hop'
  refine wpList_plain hg fun K hK => ?_
  obtain ⟨r, n, hr, h1, h2⟩ := run_arith_any (P := P) w op hop t k bx b
  unfold Oper.wp execOp
  have hgd : (eqGuard op t x y (.float k bx) (.float k b)).run P w = .ok () w := by
    rcases hop with rfl | rfl | rfl | rfl <;> simp [eqGuard]
  simp only [ho, hx, hy, Sem.run_bind, hgd, Result.andThen_ok, hr, Sem.run_pure]
  exact hK _ _ (h r n h1 h2)

/-! ### Conversions between the two kinds -/

/-- What 'float64(x)', 'float32(x)' may leave: told, but for a not-a-number's bits and for numbers too great. -/
def FCv (s k : FloatKind) (b r : Nat) : Prop :=
  match floatToFloatBits s b k with
  | some q => r = q
  | none => isNan s b = true → isNan k r = true

theorem conv_nan {s k : FloatKind} (hne : s ≠ k) {b : Nat} (h : isNan s b = true) : floatToFloatBits s b k = none := by
  obtain ⟨g, t, hx⟩ := decode_nan h
  unfold floatToFloatBits
  rw [if_neg hne]
  unfold FloatKind.decode
  rw [hx]

/-- A conversion of the same number gives the same number, where it is told. -/
theorem FCv.same {s k : FloatKind} (hne : s ≠ k) {b b' r r' : Nat} (hb : FSame s b b') (hfit : isNan s b = true ∨ ∃ q, floatToFloatBits s b k = some q) (h : FCv s k b r) (h' : FCv s k b' r') : FSame k r r' := by
  unfold FCv at h h'
  rcases hb with rfl | ⟨n1, n2⟩
  · rcases hfit with hn | ⟨q, hq⟩
    · rw [conv_nan hne hn] at h h'; exact .inr ⟨h hn, h' hn⟩
    · rw [hq] at h h'; exact .inl (h.trans h'.symm)
  · rw [conv_nan hne n1] at h; rw [conv_nan hne n2] at h'; exact .inr ⟨h n1, h' n2⟩

section
variable {P : Program} (w : World)
theorem run_conv_any (src dst : TypeId) (s k : FloatKind) (hne : s ≠ k) (b : Nat) (hs : (P.underlying src).isSome = true) (hd : P.underlying dst = some (.float k)) (hw : s = .f32 ∨ k = .f32) :
    ∃ r n, (convert src dst (.float s b)).run P w = .ok (.float k r) (w.drewN n) ∧ FCv s k b r ∧ r < 2 ^ k.format.width := by
  obtain ⟨u, hs'⟩ := Option.isSome_iff_exists.1 hs
  cases hb : floatToFloatBits s b k with
  | some q =>
    have hlt : q < 2 ^ k.format.width := by
      unfold floatToFloatBits at hb
      rw [if_neg hne] at hb
      split at hb
      · cases hb
      · cases hb; exact k.format.write_lt _
      · split at hb
        · cases hb
        · cases hb; exact k.format.write_lt _
    refine ⟨q, 0, run_convert_float_float w src dst s k b q hs hd hb, ?_, hlt⟩
    unfold FCv; rw [hb]
  | none =>
    unfold floatToFloatBits at hb
    rw [if_neg hne] at hb
    split at hb
    · rename_i hx
      refine ⟨(Question.nanConv k b).cut (w.tape w.drawn (.nanConv k b)), 1, ?_, ?_, cut_conv_lt ..⟩
      · cases u <;> simp [convert, run_underlying hs', run_underlying hd, Conv.floatToFloat, hne, hx, Question.forced, World.drewN]
      · unfold FCv; split
        · rename_i q hq; unfold floatToFloatBits at hq; rw [if_neg hne, hx] at hq; cases hq
        · exact fun _ => nan_conv_cut ..
    · cases hb
    · rename_i sg m e hx
      split at hb
      · rename_i ho
        have hlt : (Question.floatToFloat b).cut (w.tape w.drawn (.floatToFloat b)) < 4294967296 := by
          unfold Question.cut; exact Nat.mod_lt _ (by omega)
        refine ⟨(Question.floatToFloat b).cut (w.tape w.drawn (.floatToFloat b)), 1, ?_, ?_, ?_⟩
        · cases u <;> simp [convert, run_underlying hs', run_underlying hd, Conv.floatToFloat, hne, hx, ho, Question.forced, World.drewN]
        · unfold FCv; split
          · rename_i q hq; unfold floatToFloatBits at hq; rw [if_neg hne, hx] at hq; simp [ho] at hq
          · intro hn; unfold isNan at hn; rw [hx] at hn; simp [Ieee.Datum.isNaN] at hn
        · cases k
          · exact hlt
          · have e : (2 : Nat) ^ FloatKind.f64.format.width = 18446744073709551616 := by decide
            rw [e]; omega
      · cases hb
end

theorem wpList_conv {P : Program} {ops : Array Oper} {rest : List Oper} {o : Oper} {a : Act} {w : World} {Q : Exit → Act → World → Prop} (hg : o.guard = none) (src dst : TypeId) (x : Operand)
    (ho : o.op = .convert src dst x) (s k : FloatKind) (hne : s ≠ k) (hw : s = .f32 ∨ k = .f32) (b : Nat) (hx : a.eval x = .float s b) (hs : (P.underlying src).isSome = true) (hd : P.underlying dst = some (.float k))
    (h : ∀ r n, FCv s k b r → r < 2 ^ k.format.width → wpList P ops Q rest (a.put o.dst (.float k r)) (w.drewN n)) : wpList P ops Q (o :: rest) a w := by
  refine wpList_plain hg fun K hK => ?_
  obtain ⟨r, n, hr, h1, h2⟩ := run_conv_any (P := P) w src dst s k hne b hs hd hw
  unfold Oper.wp execOp
  simp only [ho, hx, Sem.run_bind, Result.andThen_ok, hr, Sem.run_pure]
  exact hK _ _ (h r n h1 h2)

/-- A conversion half run, as a region that draws its order leaves it. -/
theorem upon_conv {P : Program} {o : Oper} {a : Act} {w : World} {K : Act → World → Prop} {Q : Exit → Act → World → Prop} (src dst : TypeId) (s k : FloatKind) (b : Nat) (hne : s ≠ k) (hw : s = .f32 ∨ k = .f32)
    (hs : (P.underlying src).isSome = true) (hd : P.underlying dst = some (.float k)) (h : ∀ r n, FCv s k b r → r < 2 ^ k.format.width → K (a.put o.dst (.float k r)) (w.drewN n)) :
    Oper.upon P o a K Q (((convert src dst (.float s b)).run P w).andThen fun v w' => Result.ok (Next.value v) w') := by
  obtain ⟨r, n, hr, h1, h2⟩ := run_conv_any (P := P) w src dst s k hne b hs hd hw
  rw [hr]
  exact h r n h1 h2

/-- Arithmetic half run, as a region that draws its order leaves it. -/
theorem upon_arith {P : Program} {o : Oper} {a : Act} {w : World} {K : Act → World → Prop} {Q : Exit → Act → World → Prop} (op : BinOp) (t : TypeId) (k : FloatKind) (x y : Nat) (hop : isAr op = true)
    (h : ∀ r n, FOp op k x y r → r < 2 ^ k.format.width → K (a.put o.dst (.float k r)) (w.drewN n)) :
    Oper.upon P o a K Q (((binOp op t (.float k x) (.float k y)).run P w).andThen fun v w' => Result.ok (Next.value v) w') := by
  obtain ⟨r, n, hr, h1, h2⟩ := run_arith_any (P := P) w op (isAr_or hop) t k x y
  rw [hr]
  exact h r n h1 h2

/-! ### The square root; a function of the library that answers in place -/

def FSq (x r : Nat) : Prop :=
  match FloatKind.f64.format.sqrt x with
  | some b => r = b
  | none => isNan .f64 r = true

theorem sqrt_nan {x : Nat} (h : isNan .f64 x = true) : FloatKind.f64.format.sqrt x = none := by
  obtain ⟨s, t, hx⟩ := decode_nan h
  unfold Ieee.Format.sqrt
  rw [hx]; rfl

theorem FSq.same {x x' r r' : Nat} (hx : FSame .f64 x x') (h : FSq x r) (h' : FSq x' r') : FSame .f64 r r' := by
  unfold FSq at h h'
  rcases hx with rfl | ⟨n1, n2⟩
  · cases hb : FloatKind.f64.format.sqrt x with
    | some b => rw [hb] at h h'; exact .inl (h.trans h'.symm)
    | none => rw [hb] at h h'; exact .inr ⟨h, h'⟩
  · rw [sqrt_nan n1] at h; rw [sqrt_nan n2] at h'; exact .inr ⟨h, h'⟩

theorem run_sqrt_any {P : Program} (w : World) (x : Nat) : ∃ r n, (Extern.MathSqrt.sqrt #[.float .f64 x]).run P w = .ok (.float .f64 r) (w.drewN n) ∧ FSq x r ∧ r < 2 ^ FloatKind.f64.format.width := by
  have e : Extern.MathSqrt.sqrt #[.float .f64 x] = (match FloatKind.f64.format.sqrt x with
    | some r => pure (.float .f64 r)
    | none => do pure (.float .f64 (← choose (.nanBits .f64 x x)))) := rfl
  rw [e]
  cases hb : FloatKind.f64.format.sqrt x with
  | some b => exact ⟨b, 0, rfl, by unfold FSq; rw [hb], FloatKind.f64.format.sqrt_lt hb⟩
  | none =>
    refine ⟨(Question.nanBits .f64 x x).cut (w.tape w.drawn (.nanBits .f64 x x)), 1, ?_, ?_, cut_nan_lt ..⟩
    · simp [Question.forced, World.drewN]
    · unfold FSq; rw [hb]; exact nan_lt_cut ..

/-- The walk's law for a call of a function without a body, of one argument. -/
theorem wpList_ext1 {P : Program} {ops : Array Oper} {rest : List Oper} {o : Oper} {a : Act} {w : World} {Q : Exit → Act → World → Prop} (hg : o.guard = none) (f : FuncId) (x : Operand) (ts : Array TypeId)
    (ho : o.op = .call { callee := .value (.func f), args := #[x], argTypes := ts }) (v : Value) (hx : a.eval x = v) (R : Value → Nat → Prop)
    (hrun : ∃ u n, (callFunc f #[v]).run P w = .ok (.value u) (w.drewN n) ∧ R u n)
    (h : ∀ u n, R u n → wpList P ops Q rest (a.put o.dst u) (w.drewN n)) : wpList P ops Q (o :: rest) a w := by
  refine wpList_plain hg fun K hK => ?_
  obtain ⟨u, n, hr, h1⟩ := hrun
  unfold Oper.wp execOp
  have ef : a.eval (.func f) = .func (.func f) #[] #[] := rfl
  simp only [ho, resolve, ef, Deferred.ofValue, invoke, Sem.run_bind, Sem.run_pure, Result.andThen_ok, List.map_toArray, List.map_cons, List.map_nil, hx, Array.append_empty, Array.empty_append, hr]
  exact hK _ _ (h u n h1)

end Fl
end Go.Proofs.Ytnbgnaenlbphcaa
