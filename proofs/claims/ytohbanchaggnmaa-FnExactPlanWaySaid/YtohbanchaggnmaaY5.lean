/-
  PlanWay, the specification's side; its law.
-/
import Derived.Test.YtohbanchaggnmaaY4
namespace Go.Proofs.Ytohbanchaggnmaa
open Go.RowKit Fl Ieee Go.WideShapes Go.Deep
attribute [local go_sem] kstore_f kalloc_drewN kset_drewN unary_neg_y

set_option maxRecDepth 100000 in
set_option maxHeartbeats 4000000 in
theorem specPlanWay_calls (j r h c t0 : Nat) (w : World) : Calls Try.prog 56 #[.agg #[.float .f32 j, .float .f32 r, .float .f32 h, .float .f32 c], .float .f32 t0] w fun e w' => ∃ d ok, e = .returned (.tuple #[.float .f32 d, .bool ok]) ∧ PwO j r h c t0 d ok ∧ Below w.heap.size w w' := by
  cases h1 : planB j r h c
  · go_enter Try.func56, Try.ntmps56
    go_wp2_with (go_at_call 118; refine (l07Plan_calls w.heap.size j r h c _ (by simp [go_sem])).mono ?_; rintro e w' ⟨rfl, n0, rfl⟩; rw [h1])
    go_ret2
    exact ⟨_, _, rfl, .inr ⟨by rw [h1]; rfl, rfl, rfl⟩, by (apply bel_of; (repeat (first | apply below_dn | apply below_al)); exact below_st _)⟩
  cases h2 : leastB t0
  · go_enter Try.func56, Try.ntmps56
    go_wp2_with (first | (go_at_call 118; refine (l07Plan_calls w.heap.size j r h c _ (by simp [go_sem])).mono ?_; rintro e w' ⟨rfl, n0, rfl⟩; rw [h1]) | (go_at_call 102; refine (l02Least_calls _ _).mono ?_; rintro e w' ⟨rfl, n1, rfl⟩; rw [h2]))
    go_ret2
    exact ⟨_, _, rfl, .inr ⟨by rw [h1, h2]; rfl, rfl, rfl⟩, by (apply bel_of; (repeat (first | apply below_dn | apply below_al)); exact below_st _)⟩
  · go_enter Try.func56, Try.ntmps56
    go_wp2_with (first | (go_at_call 118; refine (l07Plan_calls w.heap.size j r h c _ (by simp [go_sem])).mono ?_; rintro e w' ⟨rfl, n0, rfl⟩; rw [h1]) | (go_at_call 102; refine (l02Least_calls _ _).mono ?_; rintro e w' ⟨rfl, n1, rfl⟩; rw [h2]))
    obtain ⟨w0, hw0⟩ : ∃ w0, w0 = (((w.alloc (.cells #[.float .f32 j, .float .f32 r, .float .f32 h, .float .f32 c] 72)).alloc (.cells #[.float .f32 r, .float .f32 h, .float .f32 r, .float .f32 c, .float .f32 r, .float .f32 h, .float .f32 r] 25)).alloc (.cells #[.float .f32 j, .float .f32 0, .float .f32 (Op.negFloat .f32 j), .float .f32 0, .float .f32 (Op.negFloat .f32 j), .float .f32 0, .float .f32 j] 25)).drewN (n0 + n1) := ⟨_, rfl⟩
    rw [← hw0]
    have hL : ∀ k, k < 7 → w0.cell? ⟨w.heap.size + 1, k, none⟩ = some (.float .f32 (longW r h c k)) := fun k hk => by
      rw [hw0]
      match k, hk with
      | 0, _ => simp [go_sem, longW]
      | 1, _ => simp [go_sem, longW]
      | 2, _ => simp [go_sem, longW]
      | 3, _ => simp [go_sem, longW]
      | 4, _ => simp [go_sem, longW]
      | 5, _ => simp [go_sem, longW]
      | 6, _ => simp [go_sem, longW]
    have hJ : ∀ k, k < 7 → w0.cell? ⟨w.heap.size + 1 + 1, k, none⟩ = some (.float .f32 (jerkW j k)) := fun k hk => by
      rw [hw0]
      match k, hk with
      | 0, _ => simp [go_sem, jerkW]
      | 1, _ => simp [go_sem, jerkW]
      | 2, _ => simp [go_sem, jerkW]
      | 3, _ => simp [go_sem, jerkW]
      | 4, _ => simp [go_sem, jerkW]
      | 5, _ => simp [go_sem, jerkW]
      | 6, _ => simp [go_sem, jerkW]
    have hB0 : Below w.heap.size w w0 := by rw [hw0]; (apply bel_of; (repeat (first | apply below_dn | apply below_al)); exact below_st _)
    have hz0 : w.heap.size + 1 + 1 < w0.heap.size := by rw [hw0]; simp
    have hz1 : w.heap.size + 1 < w0.heap.size := by omega
    have HL := Frame.hid hL
    have HJ := Frame.hid hJ
    have HB := Frame.hid hB0
    have H1 := Frame.hid h1
    have H2 := Frame.hid h2
    clear hw0 hL hJ hB0 h1 h2
    go_loopw [1, 8, 9, 10, 49] (fun t x v a i wr => ∃ (k : Nat) (s x' v' a' m : Nat), k ≤ 7 ∧ i = .int .i64 k ∧ t = .float .f32 s ∧ x = .float .f32 x' ∧ v = .float .f32 v' ∧ a = .float .f32 a' ∧ PW j r h c t0 k x' v' a' s ∧ wr = w0.drewN m) (fun _ _ _ _ i _ => 7 - (intOf i).toNat)
    case atStart => exact ⟨0, t0, 0, 0, 0, 0, by omega, rfl, rfl, rfl, rfl, rfl, ⟨rfl, rfl, rfl, rfl⟩, rfl⟩
    case round =>
      obtain ⟨k, t, x, v, a, m, hk, rfl, rfl, rfl, rfl, rfl, hPW, rfl⟩ := hrel
      by_cases h7 : k = 7
      · subst h7
        have HPW := Frame.hid hPW
        clear hPW
        go_wp2_with (go_at_call 90; refine (l02NumA_calls _ _).mono ?_; rintro e w' ⟨d, ok, rfl, hn, m, rfl⟩)
        go_ret2
        exact ⟨_, _, rfl, .inl ⟨H1.out, H2.out, _, _, _, _, HPW.out, hn⟩, below_drewN HB.out _⟩
      · have hlt : k < 7 := by omega
        have d0 := HL.out k hlt
        have d1 := HJ.out k hlt
        have HSI := Frame.hid (fun x' v' a' t' h1 h2 => (show PW j r h c t0 (k + 1) x' v' a' t' from ⟨x, v, a, t, hPW, h1, h2⟩))
        generalize longW r h c k = L at d0 HSI
        generalize jerkW j k = J at d1 HSI
        clear hPW h7 hk
        cases hb : (FloatKind.f32.format.order t L == some Ordering.lt)
        · have hs : selW L t = L := by unfold selW ltW; rw [hb]; rfl
          rw [hs] at HSI
          clear hs
          go_wp2_with (refine wpList_arith rfl _ _ _ _ _ rfl rfl _ _ _ rfl rfl ?_; intro r n hr hl)
          rename_i xp1 np1 kp1 lp1 xhh nhh khh lhh xp2 np2 kp2 lp2 xp3 np3 kp3 lp3 xu1 nu1 ku1 lu1 xq1 nq1 kq1 lq1 xq2 nq2 kq2 lq2 xq3 nq3 kq3 lq3 xq4 nq4 kq4 lq4 xu2 nu2 ku2 lu2 xxn nxn kxn lxn xr1 nr1 kr1 lr1 xhj nhj khj lhj xr2 nr2 kr2 lr2 xr3 nr3 kr3 lr3 xr4 nr4 kr4 lr4 xvn nvn kvn lvn xz nz kz lz xan nan kan lan
          go_roundw
          case rel => exact ⟨k + 1, _, _, _, _, _, by omega, by go_num, rfl, rfl, rfl, rfl, HSI.out _ _ _ _ ⟨⟨_, _, _, _, _, _, _, _, _, _, kp1, .inr khh, kp2, kp3, ku1, kq1, kq2, kq3, kq4, ku2, kxn⟩, ⟨_, _, _, _, _, kr1, .inr khj, kr2, kr3, kr4, kvn⟩, ⟨_, kz, kan⟩⟩ hr, rfl⟩
          case measure => simp [intOf]; omega
        · have hs : selW L t = t := by unfold selW ltW; rw [hb]; rfl
          rw [hs] at HSI
          clear hs
          go_wp2_with (refine wpList_arith rfl _ _ _ _ _ rfl rfl _ _ _ rfl rfl ?_; intro r n hr hl)
          rename_i xp1 np1 kp1 lp1 xhh nhh khh lhh xp2 np2 kp2 lp2 xp3 np3 kp3 lp3 xu1 nu1 ku1 lu1 xq1 nq1 kq1 lq1 xq2 nq2 kq2 lq2 xq3 nq3 kq3 lq3 xq4 nq4 kq4 lq4 xu2 nu2 ku2 lu2 xxn nxn kxn lxn xr1 nr1 kr1 lr1 xhj nhj khj lhj xr2 nr2 kr2 lr2 xr3 nr3 kr3 lr3 xr4 nr4 kr4 lr4 xvn nvn kvn lvn xz nz kz lz xan nan kan lan
          go_roundw
          case rel => exact ⟨k + 1, _, _, _, _, _, by omega, by go_num, rfl, rfl, rfl, rfl, HSI.out _ _ _ _ ⟨⟨_, _, _, _, _, _, _, _, _, _, kp1, .inr khh, kp2, kp3, ku1, kq1, kq2, kq3, kq4, ku2, kxn⟩, ⟨_, _, _, _, _, kr1, .inr khj, kr2, kr3, kr4, kvn⟩, ⟨_, kz, kan⟩⟩ hr, rfl⟩
          case measure => simp [intOf]; omega

theorem PwO.same {j r h c t0 d d' : Nat} {ok ok' : Bool} (k : PwO j r h c t0 d ok) (g : PwO j r h c t0 d' ok') : FSame .f32 d d' ∧ ok = ok' := by
  rcases k with ⟨k1, k2, x, v, a, t, k3, k4⟩ | ⟨k1, rfl, rfl⟩ <;> rcases g with ⟨g1, g2, y, v', a', t', g3, g4⟩ | ⟨g1, rfl, rfl⟩
  · exact NumA.same (PW.same k3 g3).1 k4 g4
  · rw [k1, k2] at g1; cases g1
  · rw [g1, g2] at k1; cases k1
  · exact ⟨FSame.refl _ _, rfl⟩

set_option maxRecDepth 100000 in
set_option maxHeartbeats 1000000 in
theorem fnExactPlanWay_walk (j r h c t0 : Nat) (w : World) : Calls Try.prog 14 #[.agg #[.float .f32 j, .float .f32 r, .float .f32 h, .float .f32 c], .float .f32 t0] w fun e w' => e = .returned (.bool true) ∧ Below w.heap.size w w' := by
  go_enter Try.func14, Try.ntmps14
  go_wp2_with (first | (go_at_call 54; refine (toPlan_calls _ _ _ _ _).mono ?_; rintro e w' ⟨rfl, hB⟩; have hc := rd_of hB; have hz := fz_of hB; have hs := sz_of hB; have HB := below_ch (B := w.heap.size) (a := w) (by repeat' first | exact below_st _ | assumption | apply below_dn | apply below_al | (refine below_sc ?_ ?_ _; · simp only [World.size_alloc]; omega)) hB rfl; (try have hl0 : w.heap.size < w'.heap.size := (by have := hB.size; (try simp at this); omega))) | (go_at_call 56; refine (specPlanWay_calls _ _ _ _ _ _).mono ?_; rintro e w' ⟨r0, k0, rfl, hs0, hB⟩; have hc := rd_of hB; have hz := fz_of hB; have hs := sz_of hB; have HB := below_ch (B := w.heap.size) (a := w) (by repeat' first | exact below_st _ | assumption | apply below_dn | apply below_al | (refine below_sc ?_ ?_ _; · simp only [World.size_alloc]; omega)) hB rfl; (try have hl0 : w.heap.size < w'.heap.size := (by have := hB.size; (try simp at this); omega))) | (go_at_call 57; refine (planWay_calls _ _ _ _ _ _).mono ?_; rintro e w' ⟨r1, k1, rfl, hi0, hB⟩; obtain ⟨hS, rfl⟩ := PwO.same hi0 hs0; have hc := rd_of hB; have hz := fz_of hB; have hs := sz_of hB; have HB := below_ch (B := w.heap.size) (a := w) (by repeat' first | exact below_st _ | assumption | apply below_dn | apply below_al | (refine below_sc ?_ ?_ _; · simp only [World.size_alloc]; omega)) hB rfl; (try have hl0 : w.heap.size < w'.heap.size := (by have := hB.size; (try simp at this); omega))) | (refine wpList_conv rfl _ _ _ rfl .f32 .f64 (by decide) (.inl rfl) _ rfl (by kernel_rfl) (by kernel_rfl) ?_; intro r n hr hl) | (go_at_call 36; refine (sameFloat_calls _ _ (wide_pair hS (by with_reducible assumption) (by with_reducible assumption)) _).mono ?_; rintro e w' ⟨rfl, n, rfl⟩))
  go_ret
  exact ⟨rfl, below_drewN HB.2 _⟩

end Go.Proofs.Ytohbanchaggnmaa
