/-
  NearestTile, walked on both sides.
-/
import Derived.Test.YtoldefcajampcaaKo
import Derived.Deep.RegionHeld3
namespace Go.Proofs.Ytoldefcajampcaa
open Go.RowKit Fl Go.WideShapes Go.Deep
attribute [local go_sem] kstore_f kalloc_drewN kset_drewN

/-- A list of 1 to 256 spots. -/
def lstS (xs : List (Nat × Nat × Nat)) : Bool := decide (1 ≤ xs.length) && decide (xs.length ≤ 256) && finS xs

set_option maxRecDepth 100000 in
set_option maxHeartbeats 2000000 in
theorem isListOfSpots_calls (A : Option Addr) (xs : List (Nat × Nat × Nat)) (c n : Nat) (hxn : n = xs.length) (w : World) (hn : n ≤ 1048576) (hr : RdS w A xs) :
    Calls Try.prog 86 #[.slice A n c] w fun e w' => e = .returned (.bool (lstS xs)) ∧ Below w.heap.size w w' := by
  have e1 : lstS xs = (decide (1 ≤ n) && decide (n ≤ 256) && finS xs) := by rw [hxn]; rfl
  have HC := Frame.hid (fun w hr => by have h := areSpots_calls A xs c w (by omega) hr; rw [← hxn] at h; exact h : ∀ w, RdS w A xs → Calls Try.prog 64 #[.slice A n c] w fun e w' => e = .returned (.bool (finS xs)) ∧ Below w.heap.size w w')
  have HR := Frame.hid hr
  have HE := Frame.hid e1
  clear e1 hr hxn
  by_cases h1 : 1 ≤ n <;> by_cases h2 : n ≤ 256
  all_goals
    go_enter Try.func86, Try.ntmps86
    go_wp2_with (go_at_call 64; refine (HC.out _ HR.out).mono ?_; rintro e w' ⟨rfl, hB⟩)
    all_goals go_ret
    all_goals refine ⟨ret_bool (by rw [HE.out]; simp [h1, h2]), ?_⟩
    all_goals first | exact hB | exact Below.refl _ _

set_option maxRecDepth 100000 in
set_option maxHeartbeats 2000000 in
theorem l04List_calls (A : Option Addr) (xs : List (Nat × Nat × Nat)) (c n : Nat) (hxn : n = xs.length) (w : World) (hn : n ≤ 1048576) (hr : RdS w A xs) :
    Calls Try.prog 83 #[.slice A n c] w fun e w' => e = .returned (.bool (lstS xs)) ∧ Below w.heap.size w w' := by
  have e1 : lstS xs = (decide (1 ≤ n) && decide (n ≤ 256) && finS xs) := by rw [hxn]; rfl
  have HC := Frame.hid (fun w hr => by have h := l04Spots_calls A xs c w (by omega) hr; rw [← hxn] at h; exact h : ∀ w, RdS w A xs → Calls Try.prog 98 #[.slice A n c] w fun e w' => e = .returned (.bool (finS xs)) ∧ Below w.heap.size w w')
  have HR := Frame.hid hr
  have HE := Frame.hid e1
  clear e1 hr hxn
  by_cases h1 : 1 ≤ n <;> by_cases h2 : n ≤ 256
  all_goals
    go_enter Try.func83, Try.ntmps83
    go_wp2_with (go_at_call 98; refine (HC.out _ HR.out).mono ?_; rintro e w' ⟨rfl, hB⟩)
    all_goals go_ret
    all_goals refine ⟨ret_bool (by rw [HE.out]; simp [h1, h2]), ?_⟩
    all_goals first | exact hB | exact Below.refl _ _

/-- How far the k-th spot is. -/
def FarS (xs : List (Nat × Nat × Nat)) (x y z k far : Nat) (ok : Bool) : Prop := ∃ a b c, LessR (sx xs k) (sy xs k) (sz xs k) x y z a b c ∧ LongO a b c far ok
theorem FarS.same {xs : List (Nat × Nat × Nat)} {x y z k f f' : Nat} {o o' : Bool} (h : FarS xs x y z k f o) (g : FarS xs x y z k f' o') : FSame .f32 f f' ∧ o = o' := by
  obtain ⟨a, b, c, h1, h2⟩ := h
  obtain ⟨a', b', c', g1, g2⟩ := g
  exact LongO.same (LessR.same (S3.refl _ _ _) (S3.refl _ _ _) h1 g1) h2 g2
/-- The nearest of the first k spots. -/
def NearR (xs : List (Nat × Nat × Nat)) (x y z : Nat) : Nat → Nat → Nat → Prop
  | 0, i, l => i = 0 ∧ l = 0
  | k + 1, i, l => ∃ i0 l0 far, NearR xs x y z k i0 l0 ∧ FarS xs x y z k far true ∧ ((k = 0 ∨ (FloatKind.f32.format.order far l0 == some .lt) = true) ∧ i = k ∧ l = far ∨ (k ≠ 0 ∧ (FloatKind.f32.format.order far l0 == some .lt) = false) ∧ i = i0 ∧ l = l0)
theorem NearR.same {xs : List (Nat × Nat × Nat)} {x y z : Nat} : ∀ {k i l i' l' : Nat}, NearR xs x y z k i l → NearR xs x y z k i' l' → i = i' ∧ FSame .f32 l l'
  | 0, _, _, _, _, h, g => by obtain ⟨rfl, rfl⟩ := h; obtain ⟨rfl, rfl⟩ := g; exact ⟨rfl, FSame.refl _ _⟩
  | k + 1, _, _, _, _, h, g => by
    obtain ⟨i0, l0, far, h1, h2, h3⟩ := h
    obtain ⟨i0', l0', far', g1, g2, g3⟩ := g
    obtain ⟨rfl, hl⟩ := NearR.same h1 g1
    obtain ⟨hf, _⟩ := FarS.same h2 g2
    rw [order_same hf hl] at h3
    rcases h3 with ⟨h4, rfl, rfl⟩ | ⟨h4, rfl, rfl⟩
    · rcases g3 with ⟨_, rfl, rfl⟩ | ⟨g4, rfl, rfl⟩
      · exact ⟨rfl, hf⟩
      · rcases h4 with h4 | h4
        · exact absurd h4 g4.1
        · rw [g4.2] at h4; cases h4
    · rcases g3 with ⟨g4, rfl, rfl⟩ | ⟨_, rfl, rfl⟩
      · rcases g4 with g4 | g4
        · exact absurd g4 h4.1
        · rw [h4.2] at g4; cases g4
      · exact ⟨rfl, hl⟩
theorem NearR.far {xs : List (Nat × Nat × Nat)} {x y z : Nat} : ∀ {n i l k : Nat}, NearR xs x y z n i l → k < n → ∃ f, FarS xs x y z k f true
  | 0, _, _, _, _, hk => absurd hk (by omega)
  | n + 1, _, _, k, h, hk => by
    obtain ⟨i0, l0, far, h1, h2, _⟩ := h
    by_cases he : k = n
    · subst he; exact ⟨_, h2⟩
    · exact NearR.far h1 (by omega)
/-- What NearestTile may answer. -/
def NearO (xs : List (Nat × Nat × Nat)) (x y z i l : Nat) (ok : Bool) : Prop :=
  ((lstS xs && fin3 x y z) = true ∧ NearR xs x y z xs.length i l ∧ ok = true) ∨
  ((lstS xs && fin3 x y z) = true ∧ (∃ k f, k < xs.length ∧ FarS xs x y z k f false) ∧ i = 0 ∧ l = 0 ∧ ok = false) ∨
  ((lstS xs && fin3 x y z) = false ∧ i = 0 ∧ l = 0 ∧ ok = false)
theorem NearO.same {xs : List (Nat × Nat × Nat)} {x y z i l i' l' : Nat} {o o' : Bool} (h : NearO xs x y z i l o) (g : NearO xs x y z i' l' o') : i = i' ∧ FSame .f32 l l' ∧ o = o' := by
  rcases h with ⟨a, h1, rfl⟩ | ⟨a, ⟨k, f, hk, h1⟩, rfl, rfl, rfl⟩ | ⟨a, rfl, rfl, rfl⟩ <;> rcases g with ⟨b, g1, rfl⟩ | ⟨b, ⟨k', f', hk', g1⟩, rfl, rfl, rfl⟩ | ⟨b, rfl, rfl, rfl⟩
  · obtain ⟨e1, e2⟩ := NearR.same h1 g1; exact ⟨e1, e2, rfl⟩
  · obtain ⟨f2, h2⟩ := h1.far hk'; have := (FarS.same h2 g1).2; cases this
  · rw [a] at b; cases b
  · obtain ⟨f2, h2⟩ := g1.far hk; have := (FarS.same h2 h1).2; cases this
  · exact ⟨rfl, FSame.refl _ _, rfl⟩
  · rw [a] at b; cases b
  · rw [a] at b; cases b
  · rw [a] at b; cases b
  · exact ⟨rfl, FSame.refl _ _, rfl⟩

def NrAt (xs : List (Nat × Nat × Nat)) (x y z n : Nat) (w : World) (iv lv kv : Value) (wr : World) : Prop :=
  ∃ k i l : Nat, k ≤ n ∧ kv = .int .i64 k ∧ iv = .int .i64 i ∧ lv = .float .f32 l ∧ NearR xs x y z k i l ∧ At3 wr w.heap.size x y z ∧ Below w.heap.size w wr ∧ w.heap.size < wr.heap.size

set_option maxRecDepth 100000 in
set_option maxHeartbeats 4000000 in
theorem nearestTile_calls (A : Option Addr) (xs : List (Nat × Nat × Nat)) (c n : Nat) (hxn : n = xs.length) (x y z : Nat) (w : World) (hn : n ≤ 1048576) (hr : RdS w A xs) :
    Calls Try.prog 49 #[.slice A n c, .agg #[.float .f32 x, .float .f32 y, .float .f32 z]] w fun e w' => ∃ i l ok, e = .returned (.tuple #[.int .i64 (i : Nat), .float .f32 l, .bool ok]) ∧ NearO xs x y z i l ok ∧ Below w.heap.size w w' := by
  have HR := Frame.hid hr
  have HX := Frame.hid hxn
  clear hr hxn
  have HLST := Frame.hid (fun w' (hB : Below w.heap.size w w') => isListOfSpots_calls A xs c n HX.out w' hn (HR.out.below hB))
  cases h1 : lstS xs
  · have H1 := Frame.hid h1
    go_enter Try.func49, Try.ntmps49
    go_wp2_with (go_at_call 86; refine (HLST.out _ ((Below.refl _ _).alloc (Nat.le_refl _) _)).mono ?_; rintro e w' ⟨rfl, hB⟩; rw [H1.out])
    refine bodyPost_ret (v := .tuple #[.int .i64 ((0 : Nat) : Int), .float .f32 0, .bool false]) (by simp [results, Try.results49, go_sem]) rfl ⟨0, 0, false, rfl, .inr (.inr ⟨by rw [H1.out]; rfl, rfl, rfl, rfl⟩), ?_⟩
    exact (below_ch (below_al _ (below_st _)) hB rfl).2
  · have H1 := Frame.hid h1
    cases h2 : fin3 x y z
    · have H2 := Frame.hid h2
      go_enter Try.func49, Try.ntmps49
      go_wp2_with (first | (go_at_call 86; refine (HLST.out _ ((Below.refl _ _).alloc (Nat.le_refl _) _)).mono ?_; rintro e w' ⟨rfl, hB⟩; rw [H1.out]; have hc := rd_of hB; have HBB := Frame.hid hB; clear hB) | (go_at_call 17; refine (isSpot_calls _ _ _ _).mono ?_; rintro e w'' ⟨rfl, m, rfl⟩; rw [H2.out]))
      refine bodyPost_ret (v := .tuple #[.int .i64 ((0 : Nat) : Int), .float .f32 0, .bool false]) (by simp [results, Try.results49, go_sem]) rfl ⟨0, 0, false, rfl, .inr (.inr ⟨by rw [H1.out, H2.out]; rfl, rfl, rfl, rfl⟩), ?_⟩
      exact (below_dn _ (below_al _ (below_ch (below_al _ (below_st _)) HBB.out rfl))).2
    · have H2 := Frame.hid h2
      go_enter Try.func49, Try.ntmps49
      go_wp2_with (first | (go_at_call 86; refine (HLST.out _ ((Below.refl _ _).alloc (Nat.le_refl _) _)).mono ?_; rintro e w' ⟨rfl, hB⟩; rw [H1.out]; have hc := rd_of hB; have HBB := Frame.hid hB; clear hB) | (go_at_call 17; refine (isSpot_calls _ _ _ _).mono ?_; rintro e w'' ⟨rfl, m, rfl⟩; rw [H2.out]))
      go_loopw [7, 8, 23] (fun iv lv kv wr => NrAt xs x y z n w iv lv kv wr) (fun _ _ kv _ => n - (intOf kv).toNat)
      case atStart =>
        have hA := (At3.here w x y z 26).keep HBB.out (by simp)
        have hl : w.heap.size < w'.heap.size := by have := HBB.out.size; simp at this; omega
        refine ⟨0, 0, 0, Nat.zero_le _, rfl, rfl, rfl, ⟨rfl, rfl⟩, ?_, (below_dn _ (below_al _ (below_ch (below_al _ (below_st _)) HBB.out rfl))).2, by simp; omega⟩
        exact hA.keep ((below_drewN ((Below.refl _ _).alloc (Nat.le_refl _) _) m) : Below w'.heap.size w' _) hl
      case round =>
        obtain ⟨k, i, l, hk, rfl, rfl, rfl, hN, hA, hB, hsz⟩ := hrel
        by_cases hlt : k < n
        · obtain ⟨b, off, rfl, hb, hc'⟩ := HR.out.h (by have := HX.out; omega)
          have h3 := (hc' k (by have := HX.out; omega)).keep hB hb
          have c0 := h3.c0
          have c1 := h3.c1
          have c2 := h3.c2
          have a0 := hA.c0
          have a1 := hA.c1
          have a2 := hA.c2
          have hbs : b < wr.heap.size := Nat.lt_of_lt_of_le hb hB.size
          obtain ⟨x1, hx⟩ : ∃ x1, x1 = sx xs k := ⟨_, rfl⟩
          obtain ⟨y1, hy⟩ : ∃ y1, y1 = sy xs k := ⟨_, rfl⟩
          obtain ⟨z1, hz⟩ : ∃ z1, z1 = sz xs k := ⟨_, rfl⟩
          rw [← hx] at c0
          rw [← hy] at c1
          rw [← hz] at c2
          have HXYZ := Frame.hid (And.intro hx (And.intro hy hz))
          have HN := Frame.hid hN
          have HA := Frame.hid hA
          have HB := Frame.hid hB
          have HSZ := Frame.hid hsz
          clear hc' h3 hx hy hz hN hA hB hb HLST hc HBB h1 h2
          go_wp2_with (go_at_call 90; refine (less_calls _ _ _ _ _ _ _).mono ?_; rintro e w1 ⟨p, q, r, rfl, hL, hB1⟩; have HL := Frame.hid hL; have HB1 := Frame.hid hB1; clear hL hB1 c0 c1 c2 a0 a1 a2)
          refine (longOfSpot_calls _ _ _ _).mono ?_
          rintro e w2 ⟨far, ok, rfl, hF, hB2⟩
          have HBT : Hid (Below wr.heap.size wr w2) := (below_ch (below_ch (below_al _ (below_st _)) HB1.out rfl) hB2 rfl).2
          have HFA : Hid (FarS xs x y z k far ok) := by obtain ⟨rfl, rfl, rfl⟩ := HXYZ.out; exact ⟨_, _, _, HL.out, hF⟩
          clear hF hB2 HL HB1 HXYZ
          cases ok
          · go_wp2_with fail
            refine bodyPost_ret (v := .tuple #[.int .i64 ((0 : Nat) : Int), .float .f32 0, .bool false]) (by simp [results, Try.results49, go_sem]) rfl ⟨0, 0, false, rfl, .inr (.inl ⟨by rw [H1.out, H2.out]; rfl, ⟨k, far, by have := HX.out; omega, HFA.out⟩, rfl, rfl, rfl⟩), ?_⟩
            exact HB.out.trans (HBT.out.mono HB.out.size)
          · rcases (by omega : k = 0 ∨ 0 < k) with hk0 | hk0
            · subst hk0
              go_wp2_with fail
              go_roundw
              case rel => exact ⟨0 + 1, 0, far, by omega, by go_num, by go_num, rfl, ⟨i, l, far, HN.out, HFA.out, .inl ⟨.inl rfl, rfl, rfl⟩⟩, HA.out.keep HBT.out HSZ.out, HB.out.trans (HBT.out.mono HB.out.size), Nat.lt_of_lt_of_le HSZ.out HBT.out.size⟩
              case measure => simp [intOf]; omega
            · cases ho : (FloatKind.f32.format.order far l == some Ordering.lt)
              · have HO := Frame.hid ho
                go_wp2_with fail
                go_roundw
                case rel => exact ⟨k + 1, i, l, by omega, by go_num, by go_num, rfl, ⟨i, l, far, HN.out, HFA.out, .inr ⟨⟨by omega, HO.out⟩, rfl, rfl⟩⟩, HA.out.keep HBT.out HSZ.out, HB.out.trans (HBT.out.mono HB.out.size), Nat.lt_of_lt_of_le HSZ.out HBT.out.size⟩
                case measure => simp [intOf]; omega
              · have HO := Frame.hid ho
                go_wp2_with fail
                go_roundw
                case rel => exact ⟨k + 1, k, far, by omega, by go_num, by go_num, rfl, ⟨i, l, far, HN.out, HFA.out, .inl ⟨.inr HO.out, rfl, rfl⟩⟩, HA.out.keep HBT.out HSZ.out, HB.out.trans (HBT.out.mono HB.out.size), Nat.lt_of_lt_of_le HSZ.out HBT.out.size⟩
                case measure => simp [intOf]; omega
        · have hkn : k = n := by omega
          subst hkn
          have HN := Frame.hid hN
          have HB := Frame.hid hB
          clear hN hB hA
          go_wp2_with fail
          refine bodyPost_ret (v := .tuple #[.int .i64 (i : Int), .float .f32 l, .bool true]) (by simp [results, Try.results49, go_sem]) rfl ⟨i, l, true, rfl, .inl ⟨by rw [H1.out, H2.out]; rfl, by rw [← HX.out]; exact HN.out, rfl⟩, HB.out⟩

set_option maxRecDepth 100000 in
set_option maxHeartbeats 4000000 in
theorem specNearestTile_calls (A : Option Addr) (xs : List (Nat × Nat × Nat)) (c n : Nat) (hxn : n = xs.length) (x y z : Nat) (w : World) (hn : n ≤ 1048576) (hr : RdS w A xs) :
    Calls Try.prog 48 #[.slice A n c, .agg #[.float .f32 x, .float .f32 y, .float .f32 z]] w fun e w' => ∃ i l ok, e = .returned (.tuple #[.int .i64 (i : Nat), .float .f32 l, .bool ok]) ∧ NearO xs x y z i l ok ∧ Below w.heap.size w w' := by
  have HR := Frame.hid hr
  have HX := Frame.hid hxn
  clear hr hxn
  have HLST := Frame.hid (fun w' (hB : Below w.heap.size w w') => l04List_calls A xs c n HX.out w' hn (HR.out.below hB))
  cases h1 : lstS xs
  · have H1 := Frame.hid h1
    go_enter Try.func48, Try.ntmps48
    go_wp2_with (go_at_call 83; refine (HLST.out _ ((Below.refl _ _).alloc (Nat.le_refl _) _)).mono ?_; rintro e w' ⟨rfl, hB⟩; rw [H1.out])
    refine bodyPost_ret (v := .tuple #[.int .i64 ((0 : Nat) : Int), .float .f32 0, .bool false]) (by simp [results, Try.results48, go_sem]) rfl ⟨0, 0, false, rfl, .inr (.inr ⟨by rw [H1.out]; rfl, rfl, rfl, rfl⟩), ?_⟩
    exact (below_ch (below_al _ (below_st _)) hB rfl).2
  · have H1 := Frame.hid h1
    cases h2 : fin3 x y z
    · have H2 := Frame.hid h2
      go_enter Try.func48, Try.ntmps48
      go_wp2_with (first | (go_at_call 83; refine (HLST.out _ ((Below.refl _ _).alloc (Nat.le_refl _) _)).mono ?_; rintro e w' ⟨rfl, hB⟩; rw [H1.out]; have hc := rd_of hB; have HBB := Frame.hid hB; clear hB) | (go_at_call 50; refine (l04Spot_calls _ _ _ _).mono ?_; rintro e w'' ⟨rfl, m, rfl⟩; rw [H2.out]))
      refine bodyPost_ret (v := .tuple #[.int .i64 ((0 : Nat) : Int), .float .f32 0, .bool false]) (by simp [results, Try.results48, go_sem]) rfl ⟨0, 0, false, rfl, .inr (.inr ⟨by rw [H1.out, H2.out]; rfl, rfl, rfl, rfl⟩), ?_⟩
      exact (below_dn _ (below_al _ (below_ch (below_al _ (below_st _)) HBB.out rfl))).2
    · have H2 := Frame.hid h2
      go_enter Try.func48, Try.ntmps48
      go_wp2_with (first | (go_at_call 83; refine (HLST.out _ ((Below.refl _ _).alloc (Nat.le_refl _) _)).mono ?_; rintro e w' ⟨rfl, hB⟩; rw [H1.out]; have hc := rd_of hB; have HBB := Frame.hid hB; clear hB) | (go_at_call 50; refine (l04Spot_calls _ _ _ _).mono ?_; rintro e w'' ⟨rfl, m, rfl⟩; rw [H2.out]))
      go_loopw [7, 8, 9] (fun iv lv kv wr => NrAt xs x y z n w iv lv kv wr) (fun _ _ kv _ => n - (intOf kv).toNat)
      case atStart =>
        have hA := (At3.here w x y z 26).keep HBB.out (by simp)
        have hl : w.heap.size < w'.heap.size := by have := HBB.out.size; simp at this; omega
        refine ⟨0, 0, 0, Nat.zero_le _, rfl, rfl, rfl, ⟨rfl, rfl⟩, ?_, (below_dn _ (below_al _ (below_ch (below_al _ (below_st _)) HBB.out rfl))).2, by simp; omega⟩
        exact hA.keep ((below_drewN ((Below.refl _ _).alloc (Nat.le_refl _) _) m) : Below w'.heap.size w' _) hl
      case round =>
        obtain ⟨k, i, l, hk, rfl, rfl, rfl, hN, hA, hB, hsz⟩ := hrel
        by_cases hlt : k < n
        · obtain ⟨b, off, rfl, hb, hc'⟩ := HR.out.h (by have := HX.out; omega)
          have h3 := (hc' k (by have := HX.out; omega)).keep hB hb
          have c0 := h3.c0
          have c1 := h3.c1
          have c2 := h3.c2
          have a0 := hA.c0
          have a1 := hA.c1
          have a2 := hA.c2
          have hbs : b < wr.heap.size := Nat.lt_of_lt_of_le hb hB.size
          obtain ⟨x1, hx⟩ : ∃ x1, x1 = sx xs k := ⟨_, rfl⟩
          obtain ⟨y1, hy⟩ : ∃ y1, y1 = sy xs k := ⟨_, rfl⟩
          obtain ⟨z1, hz⟩ : ∃ z1, z1 = sz xs k := ⟨_, rfl⟩
          rw [← hx] at c0
          rw [← hy] at c1
          rw [← hz] at c2
          have HXYZ := Frame.hid (And.intro hx (And.intro hy hz))
          have HN := Frame.hid hN
          have HA := Frame.hid hA
          have HB := Frame.hid hB
          have HSZ := Frame.hid hsz
          clear hc' h3 hx hy hz hN hA hB hb HLST hc HBB h1 h2
          have hws : w.heap.size < wr.heap.size := HSZ.out
          have p0 : (0 : Int) ≤ (k : Int) := by omega
          have p1 : (k : Int) < (n : Int) := by omega
          have hST : SK wr.heap.size wr [((⟨b, off + k * 3, none⟩ : Addr), Value.float .f32 x1), ((⟨b, off + k * 3 + 1, none⟩ : Addr), Value.float .f32 y1), ((⟨b, off + k * 3 + 2, none⟩ : Addr), Value.float .f32 z1), ((⟨w.heap.size, 0, none⟩ : Addr), Value.float .f32 x), ((⟨w.heap.size, 1, none⟩ : Addr), Value.float .f32 y), ((⟨w.heap.size, 2, none⟩ : Addr), Value.float .f32 z)] wr := SK.start (Nat.le_refl _) (by intro p hp; simp at hp; rcases hp with rfl | rfl | rfl | rfl | rfl | rfl <;> assumption) (by intro p hp; simp at hp; rcases hp with rfl | rfl | rfl | rfl | rfl | rfl <;> assumption)
          clear hbs hws
          go_wp2_with fail
          go_region_held3 (fun W => W.cell? ⟨b, off + k * 3, none⟩ = some (.float .f32 x1) ∧ W.cell? ⟨b, off + k * 3 + 1, none⟩ = some (.float .f32 y1) ∧ W.cell? ⟨b, off + k * 3 + 2, none⟩ = some (.float .f32 z1) ∧ W.cell? ⟨w.heap.size, 0, none⟩ = some (.float .f32 x) ∧ W.cell? ⟨w.heap.size, 1, none⟩ = some (.float .f32 y) ∧ W.cell? ⟨w.heap.size, 2, none⟩ = some (.float .f32 z) ∧ wr.heap.size ≤ W.heap.size ∧ SK wr.heap.size wr [((⟨b, off + k * 3, none⟩ : Addr), Value.float .f32 x1), ((⟨b, off + k * 3 + 1, none⟩ : Addr), Value.float .f32 y1), ((⟨b, off + k * 3 + 2, none⟩ : Addr), Value.float .f32 z1), ((⟨w.heap.size, 0, none⟩ : Addr), Value.float .f32 x), ((⟨w.heap.size, 1, none⟩ : Addr), Value.float .f32 y), ((⟨w.heap.size, 2, none⟩ : Addr), Value.float .f32 z)] W) ((refine SK_all6 ?_; (repeat' first | with_reducible assumption | exact SK_of6 (by with_reducible assumption) | exact hST | apply SK.drew | apply SK.drewN | apply SK.alloc | (refine SK.call ?_ (by with_reducible assumption)) | (refine SK.set ?_ _ _ _ (by omega)))))
            (first | (go_at_call 89; refine (l04Less_calls _ _ _ _ _ _ _).mono ?_; rintro e w' ⟨p, q, r, rfl, hL, hB⟩; have HL := Frame.hid hL) | (go_at_call 23; refine (specLongOfSpot_calls _ _ _ _).mono ?_; rintro e w' ⟨far, ok, rfl, hF, hB⟩))
          have hSK : SK wr.heap.size wr [((⟨b, off + k * 3, none⟩ : Addr), Value.float .f32 x1), ((⟨b, off + k * 3 + 1, none⟩ : Addr), Value.float .f32 y1), ((⟨b, off + k * 3 + 2, none⟩ : Addr), Value.float .f32 z1), ((⟨w.heap.size, 0, none⟩ : Addr), Value.float .f32 x), ((⟨w.heap.size, 1, none⟩ : Addr), Value.float .f32 y), ((⟨w.heap.size, 2, none⟩ : Addr), Value.float .f32 z)] _ := SK_of6 (by with_reducible assumption)
          have HBT := Frame.hid hSK.m
          have HFA : Hid (FarS xs x y z k far ok) := by obtain ⟨rfl, rfl, rfl⟩ := HXYZ.out; exact ⟨_, _, _, HL.out, hF⟩
          clear hF HL HXYZ
          cases ok
          · go_wp2_with fail
            refine bodyPost_ret (v := .tuple #[.int .i64 ((0 : Nat) : Int), .float .f32 0, .bool false]) (by simp [results, Try.results48, go_sem]) rfl ⟨0, 0, false, rfl, .inr (.inl ⟨by rw [H1.out, H2.out]; rfl, ⟨k, far, by have := HX.out; omega, HFA.out⟩, rfl, rfl, rfl⟩), ?_⟩
            exact HB.out.trans (HBT.out.mono HB.out.size)
          · rcases (by omega : k = 0 ∨ 0 < k) with hk0 | hk0
            · subst hk0
              go_wp2_with fail
              go_roundw
              case rel => exact ⟨0 + 1, 0, far, by omega, by go_num, by go_num, rfl, ⟨i, l, far, HN.out, HFA.out, .inl ⟨.inl rfl, rfl, rfl⟩⟩, HA.out.keep HBT.out HSZ.out, HB.out.trans (HBT.out.mono HB.out.size), Nat.lt_of_lt_of_le HSZ.out HBT.out.size⟩
              case measure => simp [intOf]; omega
            · cases ho : (FloatKind.f32.format.order far l == some Ordering.lt)
              · have HO := Frame.hid ho
                go_wp2_with fail
                go_roundw
                case rel => exact ⟨k + 1, i, l, by omega, by go_num, by go_num, rfl, ⟨i, l, far, HN.out, HFA.out, .inr ⟨⟨by omega, HO.out⟩, rfl, rfl⟩⟩, HA.out.keep HBT.out HSZ.out, HB.out.trans (HBT.out.mono HB.out.size), Nat.lt_of_lt_of_le HSZ.out HBT.out.size⟩
                case measure => simp [intOf]; omega
              · have HO := Frame.hid ho
                go_wp2_with fail
                go_roundw
                case rel => exact ⟨k + 1, k, far, by omega, by go_num, by go_num, rfl, ⟨i, l, far, HN.out, HFA.out, .inl ⟨.inr HO.out, rfl, rfl⟩⟩, HA.out.keep HBT.out HSZ.out, HB.out.trans (HBT.out.mono HB.out.size), Nat.lt_of_lt_of_le HSZ.out HBT.out.size⟩
                case measure => simp [intOf]; omega
        · have hkn : k = n := by omega
          subst hkn
          have HN := Frame.hid hN
          have HB := Frame.hid hB
          clear hN hB hA
          go_wp2_with fail
          refine bodyPost_ret (v := .tuple #[.int .i64 (i : Int), .float .f32 l, .bool true]) (by simp [results, Try.results48, go_sem]) rfl ⟨i, l, true, rfl, .inl ⟨by rw [H1.out, H2.out]; rfl, by rw [← HX.out]; exact HN.out, rfl⟩, HB.out⟩

end Go.Proofs.Ytoldefcajampcaa
