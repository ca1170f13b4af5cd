/-
  CornerSheet, walked on both sides; sheets that are handed out.
-/
import Derived.Test.YtddbojpkmgmjmaaKq
namespace Go.Proofs.Ytddbojpkmgmjmaa
open Go.RowKit Fl Go.WideShapes Go.Deep
attribute [local go_sem] kstore_f kalloc_drewN kset_drewN hstore_i hstore_s

/-- A sheet that is handed out: itself if it is valid, else nothing. -/
structure ShO (w : World) (B : Nat) (a b : Int) (xs : List (Nat × Nat × Nat)) (a' b' : Int) (v : Value) (ok : Bool) : Prop where
  k : ok = shB a b xs
  t : ok = true → a' = a ∧ b' = b ∧ OwS w B v xs.length ∧ ∃ A c, v = .slice A xs.length c ∧ RdS w A xs
  f : ok = false → a' = 0 ∧ b' = 0 ∧ v = .slice none 0 0
theorem ShO.below {w w' : World} {B : Nat} {a b a' b' : Int} {xs : List (Nat × Nat × Nat)} {v : Value} {ok : Bool} (h : ShO w B a b xs a' b' v ok) (hB : Below w.heap.size w w') : ShO w' B a b xs a' b' v ok := by
  refine ⟨h.k, fun e => ?_, h.f⟩
  obtain ⟨h1, h2, h3, A, c, h4, h5⟩ := h.t e
  exact ⟨h1, h2, h3.below hB, A, c, h4, h5.below hB⟩
theorem OwS.set {w : World} {B n k i : Nat} {v u : Value} (h : OwS w B v n) (hk : k < B) : OwS (w.setCell ⟨k, i, none⟩ u) B v n := ⟨by
  rcases h.h with h1 | ⟨g, cap, cs, rfl, hg, hh, hs⟩
  · exact .inl h1
  · exact .inr ⟨g, cap, cs, rfl, hg, by rw [Below.heap_setCell _ _ _ _ (by simp; omega)]; exact hh, hs⟩⟩

set_option maxRecDepth 100000 in
set_option maxHeartbeats 2000000 in
theorem sheetIfValid_calls (A : Option Addr) (xs : List (Nat × Nat × Nat)) (c n : Nat) (hxn : n = xs.length) (a b : Int) (w : World) (hn : n ≤ 1048576) (hr : RdS w A xs) :
    Calls Try.prog 57 #[.agg #[.int .i64 a, .int .i64 b, .slice A n c]] w fun e w' => ∃ a' b' v ok, e = .returned (.tuple #[.agg #[.int .i64 a', .int .i64 b', v], .bool ok]) ∧ (ok = shB a b xs ∧ (ok = true → a' = a ∧ b' = b ∧ v = .slice A n c) ∧ (ok = false → a' = 0 ∧ b' = 0 ∧ v = .slice none 0 0)) ∧ Below w.heap.size w w' := by
  have hw : Below w.heap.size w ((w.alloc (.cells #[.int .i64 a, .int .i64 b, .slice A n c] 25)).alloc (.cells #[.int .i64 0, .int .i64 0, .slice none 0 0] 25)) := by (apply bel_of; (repeat (first | apply below_dn | apply below_al)); exact below_st _)
  have HC := Frame.hid (validSheet_calls A xs c n hxn a b _ hn (hr.below hw))
  clear hr hxn hw
  cases h1 : shB a b xs
  · have H1 := Frame.hid h1
    go_enter Try.func57, Try.ntmps57
    go_wp2_with (go_at_call 63; refine (HC.out).mono ?_; rintro e w' ⟨rfl, hB⟩; rw [H1.out]; have hc := rd_of hB; have hz := fz_of hB; have hs := sz_of hB)
    have k0 : w'.cell? ⟨w.heap.size + 1, 0, none⟩ = some (.int .i64 0) := by rw [hc _ _ (by simp)]; simp [go_sem]
    have k1 : w'.cell? ⟨w.heap.size + 1, 1, none⟩ = some (.int .i64 0) := by rw [hc _ _ (by simp)]; simp [go_sem]
    have k2 : w'.cell? ⟨w.heap.size + 1, 2, none⟩ = some (.slice none 0 0) := by rw [hc _ _ (by simp)]; simp [go_sem]
    obtain ⟨e0, e1, e2⟩ := set3_read (w := w') (v0 := .int .i64 0) (v1 := .int .i64 0) (v2 := .slice none 0 0) k0 k1 k2
    refine bodyPost_ret (v := .tuple #[.agg #[.int .i64 0, .int .i64 0, .slice none 0 0], .bool false]) (by simp [results, Try.results57, go_sem, e0, e1, e2]) rfl ⟨_, _, _, _, rfl, ⟨rfl, fun h => (by cases h), fun _ => ⟨rfl, rfl, rfl⟩⟩, ?_⟩
    exact (below_sc (by simp) (below_sc (by simp) (below_sc (by simp) (below_ch (below_al _ (below_al _ (below_st _))) hB rfl) _) _) _).2
  · have H1 := Frame.hid h1
    go_enter Try.func57, Try.ntmps57
    go_wp2_with (go_at_call 63; refine (HC.out).mono ?_; rintro e w' ⟨rfl, hB⟩; rw [H1.out]; have hc := rd_of hB; have hz := fz_of hB; have hs := sz_of hB)
    have k0 : w'.cell? ⟨w.heap.size + 1, 0, none⟩ = some (.int .i64 0) := by rw [hc _ _ (by simp)]; simp [go_sem]
    have k1 : w'.cell? ⟨w.heap.size + 1, 1, none⟩ = some (.int .i64 0) := by rw [hc _ _ (by simp)]; simp [go_sem]
    have k2 : w'.cell? ⟨w.heap.size + 1, 2, none⟩ = some (.slice none 0 0) := by rw [hc _ _ (by simp)]; simp [go_sem]
    obtain ⟨e0, e1, e2⟩ := set3_read (w := w') (v0 := .int .i64 a) (v1 := .int .i64 b) (v2 := .slice A n c) k0 k1 k2
    refine bodyPost_ret (v := .tuple #[.agg #[.int .i64 a, .int .i64 b, .slice A n c], .bool true]) (by simp [results, Try.results57, go_sem, e0, e1, e2]) rfl ⟨_, _, _, _, rfl, ⟨rfl, fun _ => ⟨rfl, rfl, rfl⟩, fun h => (by cases h)⟩, ?_⟩
    exact (below_sc (by simp) (below_sc (by simp) (below_sc (by simp) (below_ch (below_al _ (below_al _ (below_st _))) hB rfl) _) _) _).2

set_option maxRecDepth 100000 in
set_option maxHeartbeats 2000000 in
theorem l04Give_calls (A : Option Addr) (xs : List (Nat × Nat × Nat)) (c n : Nat) (hxn : n = xs.length) (a b : Int) (w : World) (hn : n ≤ 1048576) (hr : RdS w A xs) :
    Calls Try.prog 54 #[.agg #[.int .i64 a, .int .i64 b, .slice A n c]] w fun e w' => ∃ a' b' v ok, e = .returned (.tuple #[.agg #[.int .i64 a', .int .i64 b', v], .bool ok]) ∧ (ok = shB a b xs ∧ (ok = true → a' = a ∧ b' = b ∧ v = .slice A n c) ∧ (ok = false → a' = 0 ∧ b' = 0 ∧ v = .slice none 0 0)) ∧ Below w.heap.size w w' := by
  have hw : Below w.heap.size w ((w.alloc (.cells #[.int .i64 a, .int .i64 b, .slice A n c] 25)).alloc (.cells #[.int .i64 0, .int .i64 0, .slice none 0 0] 25)) := by (apply bel_of; (repeat (first | apply below_dn | apply below_al)); exact below_st _)
  have HC := Frame.hid (l04Is_calls w.heap.size A xs c n hxn a b _ hn ((Sh3.here w a b (.slice A n c) 25).below ((Below.refl _ _).alloc (Nat.le_refl _) (.cells #[.int .i64 0, .int .i64 0, .slice none 0 0] 25))) (hr.below hw))
  clear hr hxn hw
  cases h1 : shB a b xs
  · have H1 := Frame.hid h1
    go_enter Try.func54, Try.ntmps54
    go_wp2_with (go_at_call 61; refine (HC.out).mono ?_; rintro e w' ⟨rfl, hB⟩; rw [H1.out]; have hc := rd_of hB; have hz := fz_of hB; have hs := sz_of hB)
    have k0 : w'.cell? ⟨w.heap.size + 1, 0, none⟩ = some (.int .i64 0) := by rw [hc _ _ (by simp)]; simp [go_sem]
    have k1 : w'.cell? ⟨w.heap.size + 1, 1, none⟩ = some (.int .i64 0) := by rw [hc _ _ (by simp)]; simp [go_sem]
    have k2 : w'.cell? ⟨w.heap.size + 1, 2, none⟩ = some (.slice none 0 0) := by rw [hc _ _ (by simp)]; simp [go_sem]
    obtain ⟨e0, e1, e2⟩ := set3_read (w := w') (v0 := .int .i64 0) (v1 := .int .i64 0) (v2 := .slice none 0 0) k0 k1 k2
    refine bodyPost_ret (v := .tuple #[.agg #[.int .i64 0, .int .i64 0, .slice none 0 0], .bool false]) (by simp [results, Try.results54, go_sem, e0, e1, e2]) rfl ⟨_, _, _, _, rfl, ⟨rfl, fun h => (by cases h), fun _ => ⟨rfl, rfl, rfl⟩⟩, ?_⟩
    exact (below_sc (by simp) (below_sc (by simp) (below_sc (by simp) (below_ch (below_al _ (below_al _ (below_st _))) hB rfl) _) _) _).2
  · have H1 := Frame.hid h1
    go_enter Try.func54, Try.ntmps54
    go_wp2_with (go_at_call 61; refine (HC.out).mono ?_; rintro e w' ⟨rfl, hB⟩; rw [H1.out]; have hc := rd_of hB; have hz := fz_of hB; have hs := sz_of hB)
    have k0 : w'.cell? ⟨w.heap.size + 1, 0, none⟩ = some (.int .i64 0) := by rw [hc _ _ (by simp)]; simp [go_sem]
    have k1 : w'.cell? ⟨w.heap.size + 1, 1, none⟩ = some (.int .i64 0) := by rw [hc _ _ (by simp)]; simp [go_sem]
    have k2 : w'.cell? ⟨w.heap.size + 1, 2, none⟩ = some (.slice none 0 0) := by rw [hc _ _ (by simp)]; simp [go_sem]
    obtain ⟨e0, e1, e2⟩ := set3_read (w := w') (v0 := .int .i64 a) (v1 := .int .i64 b) (v2 := .slice A n c) k0 k1 k2
    refine bodyPost_ret (v := .tuple #[.agg #[.int .i64 a, .int .i64 b, .slice A n c], .bool true]) (by simp [results, Try.results54, go_sem, e0, e1, e2]) rfl ⟨_, _, _, _, rfl, ⟨rfl, fun _ => ⟨rfl, rfl, rfl⟩, fun h => (by cases h)⟩, ?_⟩
    exact (below_sc (by simp) (below_sc (by simp) (below_sc (by simp) (below_ch (below_al _ (below_al _ (below_st _))) hB rfl) _) _) _).2

end Go.Proofs.Ytddbojpkmgmjmaa
