/-
  Nets are valid: the program's two maps.
-/
import Derived.Test.YtnbgnaenlbphcaaO4
import Derived.Maps.OwnSet
import Derived.Maps.OwnOps
import Derived.WideKeyPair
import Derived.DeepKeys4
namespace Go.Proofs.Ytnbgnaenlbphcaa
open Go.RowKit Fl Go.WideShapes Go.Deep Go.Maps
open Go.ChangeMaps (setBlock)
attribute [local go_sem] kstore_f kalloc_drewN kset_drewN hstore_i hstore_s

theorem keyI : Keyed Try.prog 2 := int_keyed Try.underlying2
theorem arrP : Go.WideMaps.ArrKey Try.prog 107 2 2 := ⟨Try.underlying107, by kernel_rfl, by kernel_rfl, by kernel_rfl⟩
theorem laidO : laidOutB Try.prog = true := by kernel_rfl
theorem keyP : Keyed Try.prog 107 := Keyed.of_law (deep_law_laid laidO (m := 2) (by omega) (of_decide_eq_true (by kernel_rfl)) (by kernel_rfl) (by kernel_rfl))
/-- What a side reads as, a key. -/
def sdK (a b : Int) : Lit := .string (keyBytes [.int .i64 a, .int .i64 b])
/-- A number among the 64-bit ones. -/
def w64 (a : Int) : Prop := (Lit.int .i64 a).wf = true
theorem typesSize : ∃ m, Try.prog.types.size = m + 1 := ⟨Try.prog.types.size - 1, by have : 0 < Try.prog.types.size := of_decide_eq_true (by kernel_rfl); omega⟩
theorem keyOf_side {a b : Int} (wa : w64 a) (wb : w64 b) : keyOf Try.prog 107 (.agg #[.int .i64 a, .int .i64 b]) = some (sdK a b) := Go.WideMaps.keyOf_pair arrP Try.underlying2 typesSize wa wb
theorem sdK_inj {a b a' b' : Int} (wa : w64 a) (wb : w64 b) (wa' : w64 a') (wb' : w64 b') (h : sdK a b = sdK a' b') : (a, b) = (a', b') := by
  have h1 := keyOf_side wa wb
  have h2 := keyOf_side wa' wb'
  rw [← h] at h2
  have := keyP.inj h1 h2
  simp at this
  rw [this.1, this.2]
theorem keyOf_i64 {a : Int} (wa : w64 a) : keyOf Try.prog 2 (.int .i64 a) = some (.int .i64 a) := keyOf_int_mk Try.underlying2 wa

theorem plainElem_bool_inv {P : Program} {e : TypeId} (he : P.underlying e = some .bool) {v : Value} {z : DataW Unit × List MemPlace} (h : plainElem P e v = some z) : ∃ x, v = .bool x ∧ z = (.lit (.bool x), []) := by
  unfold plainElem at h
  rw [he] at h
  split at h
  · cases h; exact ⟨_, rfl, rfl⟩
  · rename_i h1; cases h1
  · rename_i h1; cases h1
  · cases h
theorem wpList_lookup_own_bool {P : Program} (w : World) {ops : Array Oper} {rest : List Oper} {o : Oper} {a : Act} {Q : Exit → Act → World → Prop}
    (hg : o.guard = none) (m x : Operand) (t : TypeId) (hop : o.op = Op.lookup t m x false)
    (k e : TypeId) (K : Keyed P k) (ht : P.underlying t = some (.map k e)) (he : P.underlying e = some .bool) (hz : (zeroValue e).run P w = .ok (.bool false) w) (b n : Nat) (D : DataW Unit)
    (hm : a.eval m = .map (some b)) (hown : w.ownsMap P k (plainElem P e) b n D) (key : Value) (kl : Lit) (hx : a.eval x = key) (hkey : keyOf P k key = some kl) (r : Bool) (hr : D.atKey kl (.lit (.bool false)) = .lit (.bool r))
    (hK : wpList P ops Q rest (a.put o.dst (.bool r)) w) :
    wpList P ops Q (o :: rest) a w := by
  refine wpList_plain hg fun K' hK' => ?_
  obtain ⟨v, ps, hrun, hv⟩ := hown.lookup K ht hz (plainElem_bool he false) hkey
  obtain ⟨x', rfl, hx'⟩ := plainElem_bool_inv he hv
  have e1 : D.atKey kl (.lit (.bool false)) = .lit (.bool x') := congrArg Prod.fst hx'
  rw [hr] at e1
  injection e1 with e1
  injection e1 with e1
  subst e1
  unfold Oper.wp
  simp [execOp, hop, hm, hx, hrun, Result.andThen]
  exact hK' _ _ hK

theorem has_sorted (l : List (Lit × DataW Unit)) (k : Lit) : Maps.has (.map (l.foldr DataW.insert [])) k = l.any (fun p => p.1.sameKey k) := by
  rw [has_eq]
  induction l with
  | nil => rfl
  | cons x r ih => rw [List.foldr_cons, any_insert, ih, List.any_cons]
theorem owns_empty {P : Program} {k : TypeId} {R : Value → Option (DataW Unit × List MemPlace)} {w : World} {b n : Nat} {D : DataW Unit} (h : w.ownsMap P k R b n D) (K : Keyed P k) (hno : ∀ l, Maps.has D l = false) : Maps.size D = 0 := by
  obtain ⟨es, clock, hb, F, hs, rfl⟩ := h
  rw [size_eq, length_sorted, List.length_map]
  rcases hl : es.toList with _ | ⟨x, r⟩
  · rfl
  · have hk := fit_keys F
    have h1 := hno (Go.WideElems.rg P k R x).1
    rw [has_sorted, hl] at h1
    have h2 := hk (Go.WideElems.rg P k R x) (by rw [hl]; simp)
    have h3 := K.one.key h2
    rw [List.map_cons, List.any_cons] at h1
    simp only [Bool.or_eq_false_iff] at h1
    have h4 := h1.1
    generalize (Go.WideElems.rg P k R x).1 = l at h3 h4
    cases l <;> simp_all [WideAt.IsKeyLit, Lit.sameKey]
theorem size_pos {D : DataW Unit} (hD : IsMap D) {l : Lit} (h : Maps.has D l = true) : Maps.size D ≠ 0 := by
  obtain ⟨es, rfl⟩ := hD
  intro e
  rw [size_eq] at e
  have := List.eq_nil_of_length_eq_zero e
  subst this
  simp [has_eq] at h

/-- What the program holds as lonely spots. -/
structure LonS (n : Nat) (L : List (Int × Int)) (D : DataW Unit) : Prop where
  a : ∀ l, Maps.has D l = true → ∃ j : Nat, j < n ∧ l = .int .i64 (j : Int) ∧ ∀ s ∈ L, s.1 ≠ (j : Int)
  b : ∀ j : Nat, j < n → (∀ s ∈ L, s.1 ≠ (j : Int)) → Maps.has D (.int .i64 (j : Int)) = true
theorem LonS.none : LonS 0 [] (.map []) := ⟨fun l h => by simp [has_eq] at h, fun j hj => absurd hj (by omega)⟩
theorem LonS.put {n : Nat} {D : DataW Unit} (h : LonS n [] D) (hD : IsMap D) (d : DataW Unit) : LonS (n + 1) [] (D.put (.int .i64 (n : Int)) d) := by
  refine ⟨fun l hl => ?_, fun j hj _ => ?_⟩
  · by_cases e : l = .int .i64 (n : Int)
    · exact ⟨n, by omega, e, fun s hs => by cases hs⟩
    · rw [has_put_other e] at hl
      obtain ⟨j, hj, e2, h2⟩ := h.a l hl
      exact ⟨j, by omega, e2, h2⟩
  · by_cases e : j = n
    · subst e
      exact has_put_same hD (by trivial) d
    · rw [has_put_other (by intro e2; injection e2 with _ e2; omega)]
      exact h.b j (by omega) fun s hs => by cases hs
theorem LonS.del {n : Nat} {L : List (Int × Int)} {D : DataW Unit} (h : LonS n L D) (s : Int × Int) : LonS n (L ++ [s]) (D.del (.int .i64 s.1)) := by
  refine ⟨fun l hl => ?_, fun j hj hn => ?_⟩
  · by_cases e : l = .int .i64 s.1
    · rw [e, has_del_same] at hl
      cases hl
    · rw [has_del_other e] at hl
      obtain ⟨j, hj, e2, h2⟩ := h.a l hl
      refine ⟨j, hj, e2, fun t ht => ?_⟩
      rcases List.mem_append.1 ht with ht | ht
      · exact h2 t ht
      · simp at ht
        subst ht
        intro e3
        exact e (by rw [e2, e3])
  · have hne : s.1 ≠ (j : Int) := hn s (by simp)
    rw [has_del_other (by intro e; injection e with _ e; exact hne e.symm)]
    exact h.b j hj fun t ht => hn t (by simp [ht])

/-- What the program holds as sides that are there. -/
def ThrS (L : List (Int × Int)) (D : DataW Unit) : Prop := ∀ a b, w64 a → w64 b → D.atKey (sdK a b) (.lit (.bool false)) = .lit (.bool (decide ((a, b) ∈ L)))
theorem ThrS.none : ThrS [] (.map []) := fun a b _ _ => by
  rw [atKey_of_not_has (by simp [has_eq])]
  simp
theorem ThrS.put {L : List (Int × Int)} {D : DataW Unit} (h : ThrS L D) (hD : IsMap D) {x y : Int} (wx : w64 x) (wy : w64 y) : ThrS (L ++ [(x, y)]) (D.put (sdK x y) (.lit (.bool true))) := fun a b wa wb => by
  by_cases e : (a, b) = (x, y)
  · injection e with e1 e2
    subst e1
    subst e2
    rw [atKey_put_same hD (by trivial)]
    simp
  · rw [atKey_put_other (fun e2 => e (sdK_inj wa wb wx wy e2)), h a b wa wb]
    simp [e]

end Go.Proofs.Ytnbgnaenlbphcaa
