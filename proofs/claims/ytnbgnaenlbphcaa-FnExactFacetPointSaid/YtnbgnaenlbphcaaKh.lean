/-
  Sheets: taken over, valid or not, compared; walked on both sides.
-/
import Derived.Test.YtnbgnaenlbphcaaKo
import Derived.Deep.QuietTactic
import Derived.BigQuiet
namespace Go.Proofs.Ytnbgnaenlbphcaa
open Go.RowKit Fl Go.WideShapes Go.Deep

theorem hstore_i (P : Program) (w : World) (a : Addr) (m : Mode) (k : IntKind) (b : Int) : (store a (.int k b) m).run P w = stored P w a (.int k b) m := run_store P w a _ m rfl
theorem hstore_s (P : Program) (w : World) (a : Addr) (m : Mode) (A : Option Addr) (n c : Nat) : (store a (.slice A n c) m).run P w = stored P w a (.slice A n c) m := run_store P w a _ m rfl
attribute [local go_sem] kstore_f kalloc_drewN kset_drewN hstore_i hstore_s

/-- What two counts must be. -/
def cntB (a b : Int) : Bool := decide (2 ≤ a) && decide (a ≤ 6) && (decide (2 ≤ b) && decide (b ≤ 6))
/-- A sheet is valid. -/
def shB (a b : Int) (xs : List (Nat × Nat × Nat)) : Bool := cntB a b && decide ((xs.length : Int) = a * b) && finS xs

set_option maxRecDepth 100000 in
set_option maxHeartbeats 1000000 in
theorem isAcross_calls (a : Int) (w : World) : Calls Try.prog 118 #[.int .i64 a] w fun e w' => e = .returned (.bool (decide (2 ≤ a) && decide (a ≤ 6))) ∧ w = w' := by
  by_cases h1 : 2 ≤ a <;> by_cases h2 : a ≤ 6
  all_goals
    go_enter Try.func118, Try.ntmps118
    go_wp2
    all_goals go_ret
    all_goals exact ⟨ret_bool (by simp [h1, h2]), rfl⟩

set_option maxRecDepth 100000 in
set_option maxHeartbeats 1000000 in
theorem l04Counts_calls (a b : Int) (w : World) : Calls Try.prog 117 #[.int .i64 a, .int .i64 b] w fun e w' => e = .returned (.bool (cntB a b)) ∧ w = w' := by
  by_cases h1 : 2 ≤ a <;> by_cases h2 : a ≤ 6 <;> by_cases h3 : 2 ≤ b <;> by_cases h4 : b ≤ 6
  all_goals
    go_enter Try.func117, Try.ntmps117
    go_wp2_with (go_at_call 83; refine (l00In_calls _ _ _ _).mono ?_; rintro e w' ⟨rfl, rfl⟩)
    all_goals go_ret
    all_goals exact ⟨ret_bool (by simp [cntB, h1, h2, h3, h4]), rfl⟩

theorem cntB_mul {a b : Int} (h : cntB a b = true) : (2 ≤ a ∧ a ≤ 6) ∧ (2 ≤ b ∧ b ≤ 6) ∧ 0 ≤ a * b ∧ a * b ≤ 36 := by
  simp [cntB] at h
  refine ⟨by omega, by omega, Int.mul_nonneg (by omega) (by omega), ?_⟩
  have h1 : a * b ≤ 6 * b := Int.mul_le_mul_of_nonneg_right (by omega) (by omega)
  omega

set_option maxRecDepth 100000 in
set_option maxHeartbeats 2000000 in
theorem validSheet_calls (A : Option Addr) (xs : List (Nat × Nat × Nat)) (c n : Nat) (hxn : n = xs.length) (a b : Int) (w : World) (hn : n ≤ 1048576) (hr : RdS w A xs) :
    Calls Try.prog 60 #[.agg #[.int .i64 a, .int .i64 b, .slice A n c]] w fun e w' => e = .returned (.bool (shB a b xs)) ∧ Below w.heap.size w w' := by
  have HC := Frame.hid (fun w hr => by have h := areSpots_calls A xs c w (by omega) hr; rw [← hxn] at h; exact h : ∀ w, RdS w A xs → Calls Try.prog 77 #[.slice A n c] w fun e w' => e = .returned (.bool (finS xs)) ∧ Below w.heap.size w w')
  have HR := Frame.hid hr
  have HX := Frame.hid hxn
  clear hr hxn
  cases h1 : cntB a b
  · have H1 := Frame.hid h1
    by_cases h2 : (decide (2 ≤ a) && decide (a ≤ 6)) = true
    · have h3 : (decide (2 ≤ b) && decide (b ≤ 6)) = false := by unfold cntB at h1; rw [h2] at h1; simpa using h1
      have H2 := Frame.hid h2
      have H3 := Frame.hid h3
      clear h1 h2 h3
      go_enter Try.func60, Try.ntmps60
      go_wp2_with (go_at_call 118; refine (isAcross_calls _ _).mono ?_; rintro e w' ⟨rfl, rfl⟩; first | rw [H2.out] | rw [H3.out])
      go_ret
      exact ⟨ret_bool (by unfold shB; rw [H1.out]; rfl), by (apply bel_of; (repeat (first | apply below_dn | apply below_al)); exact below_st _)⟩
    · have h2 : (decide (2 ≤ a) && decide (a ≤ 6)) = false := by simpa using h2
      have H2 := Frame.hid h2
      clear h1 h2
      go_enter Try.func60, Try.ntmps60
      go_wp2_with (go_at_call 118; refine (isAcross_calls _ _).mono ?_; rintro e w' ⟨rfl, rfl⟩; rw [H2.out])
      go_ret
      exact ⟨ret_bool (by unfold shB; rw [H1.out]; rfl), by (apply bel_of; (repeat (first | apply below_dn | apply below_al)); exact below_st _)⟩
  · have H1 := Frame.hid h1
    obtain ⟨⟨a1, a2⟩, ⟨b1, b2⟩, p1, p2⟩ := cntB_mul h1
    have H2 := Frame.hid (by simp [a1, a2] : (decide (2 ≤ a) && decide (a ≤ 6)) = true)
    have H3 := Frame.hid (by simp [b1, b2] : (decide (2 ≤ b) && decide (b ≤ 6)) = true)
    obtain ⟨p, hp⟩ : ∃ p : Int, a * b = p := ⟨_, rfl⟩
    rw [hp] at p1 p2
    have HP := Frame.hid hp
    clear h1
    by_cases h4 : (n : Int) = p
    · have H4 := Frame.hid h4
      go_enter Try.func60, Try.ntmps60
      go_wp2_with (first | (go_at_call 118; refine (isAcross_calls _ _).mono ?_; rintro e w' ⟨rfl, rfl⟩; first | rw [H2.out] | rw [H3.out]) | (go_at_call 77; refine (HC.out _ (HR.out.below ((Below.refl _ _).alloc (Nat.le_refl _) _))).mono ?_; rintro e w' ⟨rfl, hB⟩))
      go_ret
      exact ⟨ret_bool (by unfold shB; rw [H1.out, HP.out, ← HX.out, H4.out]; simp), (below_ch (below_al _ (below_st _)) hB rfl).2⟩
    · have H4 := Frame.hid h4
      go_enter Try.func60, Try.ntmps60
      go_wp2_with (first | (go_at_call 118; refine (isAcross_calls _ _).mono ?_; rintro e w' ⟨rfl, rfl⟩; first | rw [H2.out] | rw [H3.out]))
      go_ret
      exact ⟨ret_bool (by unfold shB; rw [H1.out, HP.out, ← HX.out]; simp [H4.out]), by (apply bel_of; (repeat (first | apply below_dn | apply below_al)); exact below_st _)⟩

/-- A sheet lies at the head of block g. -/
structure Sh3 (w : World) (g : Nat) (a b : Int) (s : Value) : Prop where
  c0 : w.cell? ⟨g, 0, none⟩ = some (.int .i64 a)
  c1 : w.cell? ⟨g, 1, none⟩ = some (.int .i64 b)
  c2 : w.cell? ⟨g, 2, none⟩ = some s
  l : g < w.heap.size
theorem Sh3.below {w w' : World} {g : Nat} {a b : Int} {s : Value} (h : Sh3 w g a b s) (hB : Below w.heap.size w w') : Sh3 w' g a b s := ⟨(hB.cell h.l).trans h.c0, (hB.cell h.l).trans h.c1, (hB.cell h.l).trans h.c2, Nat.lt_of_lt_of_le h.l hB.size⟩
theorem Sh3.here (w : World) (a b : Int) (s : Value) (t : TypeId) : Sh3 (w.alloc (.cells #[.int .i64 a, .int .i64 b, s] t)) w.heap.size a b s := by
  refine ⟨?_, ?_, ?_, by simp⟩ <;> simp [go_sem]

set_option maxRecDepth 100000 in
set_option maxHeartbeats 4000000 in
theorem l04Is_calls (g : Nat) (A : Option Addr) (xs : List (Nat × Nat × Nat)) (c n : Nat) (hxn : n = xs.length) (a b : Int) (w : World) (hn : n ≤ 1048576) (hS : Sh3 w g a b (.slice A n c)) (hr : RdS w A xs) :
    Calls Try.prog 56 #[.pointer (some ⟨g, 0, none⟩)] w fun e w' => e = .returned (.bool (shB a b xs)) ∧ Below w.heap.size w w' := by
  have HC := Frame.hid (fun w hr => by have h := l04Spots_calls A xs c w (by omega) hr; rw [← hxn] at h; exact h : ∀ w, RdS w A xs → Calls Try.prog 114 #[.slice A n c] w fun e w' => e = .returned (.bool (finS xs)) ∧ Below w.heap.size w w')
  have HR := Frame.hid hr
  have HX := Frame.hid hxn
  have c0 := hS.c0
  have c1 := hS.c1
  have c2 := hS.c2
  have gl := hS.l
  have hST : SK w.heap.size w [((⟨g, 0, none⟩ : Addr), (.int .i64 a : Value)), ((⟨g, 1, none⟩ : Addr), (.int .i64 b : Value)), ((⟨g, 2, none⟩ : Addr), (.slice A n c : Value))] w := SK.start (Nat.le_refl _) (by intro p hp; simp at hp; rcases hp with rfl | rfl | rfl <;> assumption) (by intro p hp; simp at hp; rcases hp with rfl | rfl | rfl <;> assumption)
  clear hr hxn hS gl
  cases h1 : cntB a b
  · have H1 := Frame.hid h1
    have HCN := Frame.hid (fun w => by have h := l04Counts_calls a b w; rw [h1] at h; exact h.mono (fun _ _ q => ⟨q.1, q.2.symm⟩) : ∀ w, Calls Try.prog 117 #[.int .i64 a, .int .i64 b] w fun e w' => e = .returned (.bool false) ∧ w' = w)
    go_enter Try.func56, Try.ntmps56
    go_wp2
    go_quiet (first | (go_at_call 117; exact Calls.quiet_of_same (HCN.out _)))
    go_wp2
    go_ret
    exact ⟨ret_bool (by unfold shB; rw [H1.out]; rfl), below_drewN (Below.refl _ _) _⟩
  · have H1 := Frame.hid h1
    obtain ⟨⟨a1, a2⟩, ⟨b1, b2⟩, p1, p2⟩ := cntB_mul h1
    obtain ⟨p, hp⟩ : ∃ p : Int, a * b = p := ⟨_, rfl⟩
    rw [hp] at p1 p2
    have HP := Frame.hid hp
    clear h1
    by_cases h4 : (n : Int) = p
    · subst h4
      have hwr : IntKind.i64.wrap (n : Int) = (n : Int) := by rw [IntKind.wrap_i64]; omega
      go_enter Try.func56, Try.ntmps56
      go_wp2
      go_region_held3 (fun W => W.cell? ⟨g, 0, none⟩ = some (.int .i64 a) ∧ W.cell? ⟨g, 1, none⟩ = some (.int .i64 b) ∧ W.cell? ⟨g, 2, none⟩ = some (.slice A n c) ∧ w.heap.size ≤ W.heap.size ∧ SK w.heap.size w [((⟨g, 0, none⟩ : Addr), (.int .i64 a : Value)), ((⟨g, 1, none⟩ : Addr), (.int .i64 b : Value)), ((⟨g, 2, none⟩ : Addr), (.slice A n c : Value))] W) ((refine SK_all3 ?_; (repeat' first | with_reducible assumption | exact SK_of3 (by with_reducible assumption) | exact hST | apply SK.drew | apply SK.drewN | apply SK.alloc | (refine SK.call ?_ (by with_reducible assumption)) | (refine SK.set ?_ _ _ _ (by omega)))))
        (first | (go_at_call 117; refine (l04Counts_calls _ _ _).mono ?_; rintro e w' ⟨rfl, rfl⟩; rw [H1.out]) | (go_at_call 114; refine (HC.out _ (HR.out.below (Below.refl _ _).drew)).mono ?_; rintro e w' ⟨rfl, hB⟩))
      have hSK : SK w.heap.size w [((⟨g, 0, none⟩ : Addr), (.int .i64 a : Value)), ((⟨g, 1, none⟩ : Addr), (.int .i64 b : Value)), ((⟨g, 2, none⟩ : Addr), (.slice A n c : Value))] _ := SK_of3 (by with_reducible assumption)
      go_wp2
      go_ret
      exact ⟨ret_bool (by unfold shB; rw [H1.out, HP.out, ← HX.out]; simp), hSK.m⟩
    · have H4 := Frame.hid h4
      have hwr : IntKind.i64.wrap p = p := by rw [IntKind.wrap_i64]; omega
      have hnb : ((n : Int) == p) = false := by simpa using h4
      have HCN := Frame.hid (fun w => by have h := l04Counts_calls a b w; rw [H1.out] at h; exact h.mono (fun _ _ q => ⟨q.1, q.2.symm⟩) : ∀ w, Calls Try.prog 117 #[.int .i64 a, .int .i64 b] w fun e w' => e = .returned (.bool true) ∧ w' = w)
      go_enter Try.func56, Try.ntmps56
      go_wp2
      go_quiet (first | (go_at_call 117; exact Calls.quiet_of_same (HCN.out _)))
      go_wp2
      go_ret
      exact ⟨ret_bool (by unfold shB; rw [H1.out, HP.out, ← HX.out]; simp [H4.out]), below_drewN (Below.refl _ _) _⟩

set_option maxRecDepth 100000 in
set_option maxHeartbeats 1000000 in
theorem szSheet_calls (a b : Int) (A : Option Addr) (n c : Nat) (hn : n ≤ 9223372036854775807) (w : World) : Calls Try.prog 15 #[.agg #[.int .i64 a, .int .i64 b, .slice A n c], .int .i64 1048576] w fun e w' => e = .returned (.int .i64 (if 1048576 < n then -1 else 1048576 - (n : Int))) ∧ Below w.heap.size w w' := by
  by_cases h : 1048576 < n
  · rw [if_pos h]
    go_enter Try.func15, Try.ntmps15
    go_wp2_with (go_at_call 47; refine (szSpotS_calls _ _ _ hn _).mono ?_; rintro e w' ⟨rfl, rfl⟩; rw [if_pos h])
    go_ret
    exact ⟨rfl, by (apply bel_of; (repeat (first | apply below_dn | apply below_al)); exact below_st _)⟩
  · rw [if_neg h]
    go_enter Try.func15, Try.ntmps15
    go_wp2_with (go_at_call 47; refine (szSpotS_calls _ _ _ hn _).mono ?_; rintro e w' ⟨rfl, rfl⟩; rw [if_neg h])
    go_ret
    exact ⟨rfl, by (apply bel_of; (repeat (first | apply below_dn | apply below_al)); exact below_st _)⟩

set_option maxRecDepth 100000 in
set_option maxHeartbeats 2000000 in
theorem eqSheet_calls (A A' : Option Addr) (xs ys : List (Nat × Nat × Nat)) (a b : Int) (c c' n : Nat) (hxn : n = xs.length) (w : World) (hn : n ≤ 1048576) (hA : RdS w A xs) (hB : RdS w A' ys) (hS : LS xs ys) :
    Calls Try.prog 19 #[.agg #[.int .i64 a, .int .i64 b, .slice A n c], .agg #[.int .i64 a, .int .i64 b, .slice A' n c']] w fun e w' => e = .returned (.bool true) ∧ Below w.heap.size w w' := by
  have HC := Frame.hid (fun W (hW : Below w.heap.size w W) => eqSpotS_calls A A' xs ys c c' n hxn W hn (hA.below hW) (hB.below hW) hS)
  clear hA hB hS hxn
  go_enter Try.func19, Try.ntmps19
  go_wp2_with (go_at_call 51; refine (HC.out _ (by (apply bel_of; (repeat (first | apply below_dn | apply below_al)); exact below_st _))).mono ?_; rintro e w' ⟨rfl, hB⟩)
  go_ret
  exact ⟨rfl, (below_ch (below_al _ (below_al _ (below_st _))) hB rfl).2⟩

theorem set3_read {w : World} {g : Nat} {u0 u1 u2 v0 v1 v2 : Value} (h0 : w.cell? ⟨g, 0, none⟩ = some u0) (h1 : w.cell? ⟨g, 1, none⟩ = some u1) (h2 : w.cell? ⟨g, 2, none⟩ = some u2) :
    (((w.setCell ⟨g, 0, none⟩ v0).setCell ⟨g, 1, none⟩ v1).setCell ⟨g, 2, none⟩ v2).cell? ⟨g, 0, none⟩ = some v0 ∧ (((w.setCell ⟨g, 0, none⟩ v0).setCell ⟨g, 1, none⟩ v1).setCell ⟨g, 2, none⟩ v2).cell? ⟨g, 1, none⟩ = some v1 ∧ (((w.setCell ⟨g, 0, none⟩ v0).setCell ⟨g, 1, none⟩ v1).setCell ⟨g, 2, none⟩ v2).cell? ⟨g, 2, none⟩ = some v2 := by
  refine ⟨?_, ?_, ?_⟩
  · rw [World.cell?_setCell_other _ _ _ _ (by simp), World.cell?_setCell_other _ _ _ _ (by simp)]
    exact World.cell?_setCell_same' _ _ _ (by rw [h0]; rfl)
  · rw [World.cell?_setCell_other _ _ _ _ (by simp)]
    exact World.cell?_setCell_same' _ _ _ (by rw [World.cell?_setCell_other _ _ _ _ (by simp), h1]; rfl)
  · exact World.cell?_setCell_same' _ _ _ (by rw [World.cell?_setCell_other _ _ _ _ (by simp), World.cell?_setCell_other _ _ _ _ (by simp), h2]; rfl)
theorem RdS.set {w : World} {g k i : Nat} {v : Value} {xs : List (Nat × Nat × Nat)} (h : RdS w (some ⟨g, 0, none⟩) xs) (hne : k ≠ g) : RdS (w.setCell ⟨k, i, none⟩ v) (some ⟨g, 0, none⟩) xs := ⟨fun h0 => by
  obtain ⟨b, off, e, hlt, hc⟩ := h.h h0
  injection e with e
  injection e with e1 e2
  subst e1
  refine ⟨g, off, by rw [← e2], by simpa using hlt, fun j hj => ?_⟩
  have hn : ∀ o, (⟨k, i, none⟩ : Addr) ≠ ⟨g, o, none⟩ := fun o e => by injection e with e1; exact hne e1
  obtain ⟨c0, c1, c2⟩ := hc j hj
  exact ⟨by rw [World.cell?_setCell_other _ _ _ _ (hn _)]; exact c0, by rw [World.cell?_setCell_other _ _ _ _ (hn _)]; exact c1, by rw [World.cell?_setCell_other _ _ _ _ (hn _)]; exact c2⟩⟩

set_option maxRecDepth 100000 in
set_option maxHeartbeats 2000000 in
theorem toSheet_calls (A : Option Addr) (xs : List (Nat × Nat × Nat)) (c n : Nat) (hxn : n = xs.length) (a b : Int) (w : World) (hn : n ≤ 1048576) (hr : RdS w A xs) :
    Calls Try.prog 17 #[.agg #[.int .i64 a, .int .i64 b, .slice A n c]] w fun e w' => ∃ g, e = .returned (.agg #[.int .i64 a, .int .i64 b, .slice (some ⟨g, 0, none⟩) n n]) ∧ RdS w' (some ⟨g, 0, none⟩) xs ∧ Below w.heap.size w w' ∧ w.heap.size ≤ g := by
  have HC := Frame.hid (fun W (hW : Below w.heap.size w W) => by have h := toSpotS_calls A xs c W (by omega) (hr.below hW); unfold CopiedS at h; rw [← hxn] at h; exact h : ∀ W, Below w.heap.size w W → Calls Try.prog 49 #[.slice A n c] W fun e w' => ∃ g, e = .returned (.slice (some ⟨g, 0, none⟩) n n) ∧ RdS w' (some ⟨g, 0, none⟩) xs ∧ Below W.heap.size W w' ∧ W.heap.size ≤ g)
  clear hr hxn
  go_enter Try.func17, Try.ntmps17
  go_wp2_with (go_at_call 49; refine (HC.out _ (by (apply bel_of; (repeat (first | apply below_dn | apply below_al)); exact below_st _))).mono ?_; rintro e w' ⟨g, rfl, hR, hB, hg⟩; have hc := rd_of hB; have hz := fz_of hB; have hs := sz_of hB)
  have k0 : w'.cell? ⟨w.heap.size + 1, 0, none⟩ = some (.int .i64 0) := by rw [hc _ _ (by simp)]; simp [go_sem]
  have k1 : w'.cell? ⟨w.heap.size + 1, 1, none⟩ = some (.int .i64 0) := by rw [hc _ _ (by simp)]; simp [go_sem]
  have k2 : w'.cell? ⟨w.heap.size + 1, 2, none⟩ = some (.slice none 0 0) := by rw [hc _ _ (by simp)]; simp [go_sem]
  have hne : ∀ i, (⟨w.heap.size + 1 + 1, 2, none⟩ : Addr) ≠ ⟨w.heap.size + 1, i, none⟩ := fun i e => by injection e with e1; omega
  have hg' : w.heap.size + 1 + 1 < g := by simp at hg; omega
  obtain ⟨e0, e1, e2⟩ := set3_read (w := w'.setCell ⟨w.heap.size + 1 + 1, 2, none⟩ (.slice (some ⟨g, 0, none⟩) n n)) (v0 := .int .i64 a) (v1 := .int .i64 b) (v2 := .slice (some ⟨g, 0, none⟩) n n)
    (by rw [World.cell?_setCell_other _ _ _ _ (hne _)]; exact k0) (by rw [World.cell?_setCell_other _ _ _ _ (hne _)]; exact k1) (by rw [World.cell?_setCell_other _ _ _ _ (hne _)]; exact k2)
  refine bodyPost_ret (v := .agg #[.int .i64 a, .int .i64 b, .slice (some ⟨g, 0, none⟩) n n]) (by simp [results, Try.results17, go_sem, e0, e1, e2]) rfl ⟨g, rfl, ?_, ?_, by omega⟩
  · exact (((hR.set (by omega)).set (by omega)).set (by omega)).set (by omega)
  · exact (below_sc (by simp) (below_sc (by simp) (below_sc (by simp) (below_sc (by simp; omega) (below_ch (below_al _ (below_al _ (below_al _ (below_st _)))) hB rfl) _) _) _) _).2

end Go.Proofs.Ytnbgnaenlbphcaa
