/-
  graphLegAt, walked: the leg that is handed out.
-/
import Derived.Test.YtbikiihcbocojabJn
import Derived.StillTailTactics
namespace Go.Proofs.Ytbikiihcbocojab
open Go.RowKit Fl Ieee
attribute [local go_sem] jstore_s run_store_f

set_option maxRecDepth 100000 in
set_option maxHeartbeats 4000000 in
theorem graphLeg_e (b off b' off' b2 off2 : Nat) (xs ys zs : List Nat) (t : Nat) (w : World) (hA : RdF w (some ⟨b, off, none⟩) xs) (hB : RdF w (some ⟨b', off', none⟩) ys) (hD : RdF w (some ⟨b2, off2, none⟩) zs) (hg : graphB xs ys = true) (hl : zs.length = xs.length) (hf : finL zs = true) (hp : placeB xs t = true) :
    Calls Try.prog 74 #[.slice (some ⟨b, off, none⟩) xs.length xs.length, .slice (some ⟨b', off', none⟩) ys.length ys.length, .slice (some ⟨b2, off2, none⟩) zs.length zs.length, .float .f32 t] w (LegYes xs t b off b' off' b2 off2 w) := by
  unfold LegYes
  obtain ⟨hh, -⟩ : headB xs ys = true ∧ True := by
    refine ⟨?_, trivial⟩
    cases h : headB xs ys
    · rw [graphB_head h] at hg; cases hg
    · rfl
  obtain ⟨h2, h48, hy, -, -⟩ := headB_of hh
  have HC := Frame.hid (isGraph_say (c := xs.length) (d := ys.length) hg (by omega) (by omega) w hA hB)
  have HF := Frame.hid (areFin_say (c := zs.length) hf (by omega) w hD)
  rw [hl] at HF ⊢
  rw [hy] at HC ⊢
  obtain ⟨b_, off_, hbe, hb, hc⟩ := hA (by omega)
  cases hbe
  have d0 := hc 0 (by omega)
  rw [Nat.add_zero] at d0
  obtain ⟨N, hN⟩ : ∃ N, N + 1 = xs.length := ⟨xs.length - 1, by omega⟩
  have d1 := hc N (by omega)
  have e1 : xs.length - 1 = N := by omega
  unfold placeB at hp
  rw [e1] at hp
  rw [Bool.and_eq_true] at hp
  obtain ⟨q1, q2⟩ := hp
  have HQ2 := Frame.hid q2
  have HCC := Frame.hid hc
  have HN := Frame.hid hN
  rw [← hN] at HC HF h2 h48 ⊢
  clear hg hB hl hf hD hc e1 hN hh hA hy
  generalize hx0 : xs.getD 0 0 = x0 at d0 q1
  generalize hx1 : xs.getD N 0 = x1 at d1 q2
  clear hx0 hx1
  have hw0 : Below w.heap.size w ((w.alloc (.cells #[.float .f32 t] 25)).alloc (.cells #[.slice none 0 0, .slice none 0 0, .slice none 0 0] 89)) := by (apply jbel_of; (repeat (first | apply jbelow_dn | apply jbelow_al | (refine jbelow_sc (by first | (simp; done) | (simp; omega) | omega) ?_ _))); exact jbelow_st _)
  have i1 : IntKind.i64.wrap (N : Int) = (N : Int) := by rw [IntKind.wrap_i64]; omega
  have i2 : IntKind.i64.wrap ((N : Int) + 1 - 1) = (N : Int) := by rw [IntKind.wrap_i64]; omega
  have i3 : (0 : Int) ≤ (N : Int) := by omega
  have i4 : (N : Int) < (N : Int) + 1 := by omega
  unfold leqF at q1 q2
  go_enter Try.func74, Try.ntmps74
  go_wp2_with fail
  obtain ⟨hx7, hl7⟩ := jbox_here w (.float .f32 t) 25 (.cells #[.slice none 0 0, .slice none 0 0, .slice none 0 0] 89)
  obtain ⟨w0, hw1⟩ : ∃ w0, (w.alloc (.cells #[.float .f32 t] 25)).alloc (.cells #[.slice none 0 0, .slice none 0 0, .slice none 0 0] 89) = w0 := ⟨_, rfl⟩
  rw [hw1] at hw0 hx7 hl7 ⊢
  have HR0 : Hid (Leg0 w w0) := Frame.hid (by rw [← hw1]; exact Leg0.here _ _ _ _)
  clear hw1
  have H7 := Frame.hid (And.intro hx7 hl7)
  have g0 : ∀ q : Grown w0, q.W.cell? ⟨b, off, none⟩ = some (.float .f32 x0) := fun q => q.cell (Nat.lt_of_lt_of_le hb hw0.size) ((hw0.cell (p := ⟨b, off, none⟩) hb).trans d0)
  have g1 : ∀ q : Grown w0, q.W.cell? ⟨b, off + N, none⟩ = some (.float .f32 x1) := fun q => q.cell (Nat.lt_of_lt_of_le hb hw0.size) ((hw0.cell (p := ⟨b, off + N, none⟩) hb).trans d1)
  have g7 : ∀ q : Grown w0, q.W.cell? ⟨w.heap.size, 0, none⟩ = some (.float .f32 t) := fun q => q.cell hl7 hx7
  clear d0 d1 hx7 hl7
  (refine region_grown (by kernel_rfl) (by kernel_rfl) ?_; (repeat (first | go_big_quiet_skip | (go_big_quiet_want; go_big_quiet_op; first | go_big_quiet_on | (apply Exists.intro; refine ⟨fun q => ?_, ?_⟩; (· (first | exact calls_grown (HC.out _ (hw0.trans (q.b.mono hw0.size))) | exact calls_grown_drew (HF.out _ (hw0.trans (q.b.mono hw0.size))))); go_big_quiet_on)))); refine wpQuiet_nil ?_; rintro W1 ⟨q1, hWE⟩; have hW1 := q1.b; rw [← hWE] at hW1; clear hWE q1)
  clear g0 g1 g7 q1 q2
  have HR1 := Frame.hid (HR0.out.go hW1)
  have HB1 := Frame.hid (hw0.trans (hW1.mono hw0.size))
  have hx7 : W1.cell? ⟨w.heap.size, 0, none⟩ = some (.float .f32 t) := (hW1.cell (p := ⟨w.heap.size, 0, none⟩) H7.out.2).trans H7.out.1
  have HXC := Frame.hid (fun j (hj : j < N) => (HB1.out.cell (p := ⟨b, off + 1 + j, none⟩) hb).trans (by have h := HCC.out (j + 1) (by have := HN.out; omega); rw [show off + (j + 1) = off + 1 + j by omega] at h; exact h) : ∀ j, j < N → W1.cell? ⟨b, off + 1 + j, none⟩ = some (.float .f32 (xs.getD (j + 1) 0)))
  clear hW1 hw0 H7 HR0
  have n1 : ¬ (N = 0) := by omega
  go_wp2_with fail
  refine (indexLeg_calls b off w.heap.size N t N xs HN.out (by omega) (by omega) W1 hx7 HXC.out HQ2.out).mono ?_
  rintro e w' ⟨k, rfl, hk, rfl⟩
  have HK := Frame.hid hk
  have hkN : k + 1 ≤ N := by have := hk.1; have := HN.out; omega
  clear hk hx7 HXC
  go_wp2_with fail
  have j1 : (0 : Int) ≤ (k : Int) := by omega
  have j2 : (k : Int) ≤ (k : Int) + 2 := by omega
  have j3 : (k : Int) + 2 ≤ (N : Int) + 1 := by omega
  have j4 : ((k : Int) + 2).toNat = k + 2 := by omega
  have j5 : (0 : Int) ≤ (k : Int) + 2 := by omega
  have j6 : k + 2 - k = 2 := by omega
  have HR2 := Frame.hid (HR1.out.go (Below.refl _ _).drew)
  have HB2 := Frame.hid (HB1.out.drew)
  clear HR1 HB1
  go_still_tail 16, (by kernel_rfl)
  change wpList _ _ _ _ _ w'.drew
  generalize w'.drew = w2 at HR2 HB2 ⊢
  have k0 := HR2.out.c0
  have k1 := HR2.out.c1
  have k2 := HR2.out.c2
  have kf := HR2.out.f
  go_wp2_with fail
  obtain ⟨e0, e1, e2⟩ := jset3_read (w := w2) (v0 := .slice (some ⟨b, off + k, none⟩) 2 2) (v1 := .slice (some ⟨b', off' + k, none⟩) 2 2) (v2 := .slice (some ⟨b2, off2 + k, none⟩) 2 2) k0 k1 k2
  refine bodyPost_ret (v := .tuple #[.agg #[.slice (some ⟨b, off + k, none⟩) 2 2, .slice (some ⟨b', off' + k, none⟩) 2 2, .slice (some ⟨b2, off2 + k, none⟩) 2 2], .bool true]) (by simp [results, Try.results74, go_sem, e0, e1, e2]) rfl ⟨k, HK.out, rfl, ?_⟩
  exact ((HB2.out.setCell (p := ⟨w.heap.size + 1, 0, none⟩) (by simp) _).setCell (p := ⟨w.heap.size + 1, 1, none⟩) (by simp) _).setCell (p := ⟨w.heap.size + 1, 2, none⟩) (by simp) _

/-- What the program's leg may be. -/
def LegV (xs ys zs : List Nat) (t b off b' off' b2 off2 : Nat) (w : World) (e : Ending) (w' : World) : Prop :=
  (legB xs ys zs t = true ∧ LegYes xs t b off b' off' b2 off2 w e w') ∨ (legB xs ys zs t = false ∧ LegNo w e w')

end Go.Proofs.Ytbikiihcbocojab
