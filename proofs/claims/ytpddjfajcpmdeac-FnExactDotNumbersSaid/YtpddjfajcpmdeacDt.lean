/-
  The law of the products of two lists of 32-bit numbers, walked.
-/
import Derived.Test.YtpddjfajcpmdeacSu
namespace Go.Proofs.Ytpddjfajcpmdeac
open Go.RowKit Fl

/-- The sum of the first k products, from left to right. -/
def DotTo (xs ys : List Nat) : Nat → Nat → Prop
  | 0, r => r = 0
  | k + 1, r => ∃ s p, DotTo xs ys k s ∧ FOp .mul .f32 (xs.getD k 0) (ys.getD k 0) p ∧ FOp .add .f32 s p r
theorem DotTo.same {xs ys : List Nat} : ∀ {k r r' : Nat}, DotTo xs ys k r → DotTo xs ys k r' → FSame .f32 r r'
  | 0, _, _, h, h' => .inl (Eq.trans h (Eq.symm h'))
  | _ + 1, _, _, ⟨_, _, h1, h2, h3⟩, ⟨_, _, g1, g2, g3⟩ => FOp.same (DotTo.same h1 g1) (FOp.same (FSame.refl _ _) (FSame.refl _ _) h2 g2) h3 g3

def DotAt (xs ys : List Nat) (w : World) (n : Nat) (s i : Value) (wr : World) : Prop := ∃ k r : Nat, k ≤ n ∧ i = .int .i64 k ∧ s = .float .f32 r ∧ DotTo xs ys k r ∧ ∃ m, wr = w.drewN m

theorem dot_step {xs ys : List Nat} {k s x y : Nat} (hx : x = xs.getD k 0) (hy : y = ys.getD k 0) (hs : DotTo xs ys k s) : ∀ p r, FOp .mul .f32 x y p → FOp .add .f32 s p r → DotTo xs ys (k + 1) r := by
  subst hx; subst hy
  exact fun p r h1 h2 => ⟨s, p, hs, h1, h2⟩

set_option maxHeartbeats 1000000 in
theorem l01Dot_calls (A B : Option Addr) (xs ys : List Nat) (c d : Nat) (w : World) (hn : xs.length ≤ 1048576) (hlen : ys.length = xs.length) (hA : RdF w A xs) (hB : RdF w B ys) :
    Calls Try.prog 14 #[.slice A xs.length c, .slice B ys.length d] w fun e w' => ∃ r m, e = .returned (.float .f32 r) ∧ DotTo xs ys xs.length r ∧ w' = w.drewN m := by
  obtain ⟨n, hxn⟩ : ∃ n, n = xs.length := ⟨_, rfl⟩
  rw [hlen, ← hxn]
  rw [← hxn] at hn
  have HX := Frame.hid hxn
  have HL := Frame.hid hlen
  have HA := Frame.hid hA
  have HB := Frame.hid hB
  clear hxn hA hB hlen
  go_enter Try.func14, Try.ntmps14
  go_wp2
  go_loopw [5, 6] (fun s i wr => DotAt xs ys w n s i wr) (fun _ i _ => n - (intOf i).toNat)
  case atStart => exact ⟨0, 0, Nat.zero_le _, rfl, rfl, rfl, 0, rfl⟩
  case round =>
    obtain ⟨k, s, hk, rfl, rfl, hs, m, rfl⟩ := hrel
    by_cases hlt : k < n
    · obtain ⟨b, off, rfl, hb, hc⟩ := HA.out (by have := HX.out; omega)
      obtain ⟨b', off', rfl, hb', hc'⟩ := HB.out (by have := HX.out; have := HL.out; omega)
      have hc1 := hc k (by have := HX.out; omega)
      have hc2 := hc' k (by have := HX.out; have := HL.out; omega)
      obtain ⟨x, hx⟩ : ∃ x, x = xs.getD k 0 := ⟨_, rfl⟩
      obtain ⟨y, hy⟩ : ∃ y, y = ys.getD k 0 := ⟨_, rfl⟩
      rw [← hx] at hc1
      rw [← hy] at hc2
      have HST := Frame.hid (dot_step hx hy hs)
      clear hc hc' hs HA HB HX HL hx hy
      go_wp2
      go_region_with (refine upon_arith _ _ .f32 _ _ rfl ?_; intro r n1 hr hl)
      all_goals
        rename_i r1 n1 hr1 hl1
        go_wp2
        go_roundw
        case rel => exact ⟨k + 1, _, by omega, by go_num, rfl, HST.out _ _ hr1 hr, _, rfl⟩
        case measure => simp [intOf]; omega
    · have hkn : k = n := by omega
      subst hkn
      have HS := Frame.hid hs
      clear hs
      go_wp2
      go_ret
      exact ⟨_, _, rfl, HS.out, rfl⟩

/-- What both give. -/
def DotV (xs ys : List Nat) (w : World) (e : Ending) (w' : World) : Prop :=
  ∃ r t m, e = .returned (.tuple #[.float .f32 r, .bool t]) ∧ (((xs.length ≤ 256 ∧ ys.length = xs.length) ∧ t = true ∧ DotTo xs ys xs.length r) ∨ (¬ (xs.length ≤ 256 ∧ ys.length = xs.length) ∧ t = false ∧ r = 0)) ∧ w' = w.drewN m

theorem DotV_same {xs ys : List Nat} {r r' : Nat} {t t' : Bool} {p : Prop} (h : (p ∧ t = true ∧ DotTo xs ys xs.length r) ∨ (¬ p ∧ t = false ∧ r = 0)) (h' : (p ∧ t' = true ∧ DotTo xs ys xs.length r') ∨ (¬ p ∧ t' = false ∧ r' = 0)) :
    t' = t ∧ FSame .f32 r' r := by
  rcases h with ⟨h1, h2, h3⟩ | ⟨h1, h2, h3⟩ <;> rcases h' with ⟨g1, g2, g3⟩ | ⟨g1, g2, g3⟩
  · exact ⟨by rw [h2, g2], DotTo.same g3 h3⟩
  · exact absurd h1 g1
  · exact absurd g1 h1
  · exact ⟨by rw [h2, g2], .inl (by rw [h3, g3])⟩

set_option maxHeartbeats 1000000 in
theorem dotNumbers_calls (A B : Option Addr) (xs ys : List Nat) (c d : Nat) (w : World) (hn : xs.length ≤ 1048576) (hm : ys.length ≤ 1048576) (hA : RdF w A xs) (hB : RdF w B ys) :
    Calls Try.prog 11 #[.slice A xs.length c, .slice B ys.length d] w (DotV xs ys w) := by
  by_cases hbig : 256 < xs.length
  · go_enter Try.func11, Try.ntmps11
    go_wp2
    go_ret2
    exact ⟨_, _, 0, rfl, .inr ⟨by omega, rfl, rfl⟩, rfl⟩
  · have hle : xs.length ≤ 256 := by omega
    clear hbig
    by_cases hlen : ys.length = xs.length
    · obtain ⟨n, hxn⟩ : ∃ n, n = xs.length := ⟨_, rfl⟩
      rw [hlen, ← hxn]
      rw [← hxn] at hn hle
      have HX := Frame.hid hxn
      have HL := Frame.hid hlen
      have HP := Frame.hid (show xs.length ≤ 256 ∧ ys.length = xs.length from ⟨by omega, hlen⟩)
      have HA := Frame.hid hA
      have HB := Frame.hid hB
      clear hxn hA hB hlen hm
      go_enter Try.func11, Try.ntmps11
      go_wp2
      go_loopw [6, 21] (fun s i wr => DotAt xs ys w n s i wr) (fun _ i _ => n - (intOf i).toNat)
      case atStart => exact ⟨0, 0, Nat.zero_le _, rfl, rfl, rfl, 0, rfl⟩
      case round =>
        obtain ⟨k, s, hk, rfl, rfl, hs, m, rfl⟩ := hrel
        by_cases hlt : k < n
        · obtain ⟨b, off, rfl, hb, hc⟩ := HA.out (by have := HX.out; omega)
          obtain ⟨b', off', rfl, hb', hc'⟩ := HB.out (by have := HX.out; have := HL.out; omega)
          have hc1 := hc k (by have := HX.out; omega)
          have hc2 := hc' k (by have := HX.out; have := HL.out; omega)
          obtain ⟨x, hx⟩ : ∃ x, x = xs.getD k 0 := ⟨_, rfl⟩
          obtain ⟨y, hy⟩ : ∃ y, y = ys.getD k 0 := ⟨_, rfl⟩
          rw [← hx] at hc1
          rw [← hy] at hc2
          have HST := Frame.hid (dot_step hx hy hs)
          clear hc hc' hs HA HB HX HL hx hy
          go_wp2_with (refine wpList_arith rfl _ _ _ _ _ rfl rfl _ _ _ rfl rfl ?_; intro r n hr hl)
          all_goals
            rename_i r1 n1 hr1 hl1
            go_roundw
            case rel => exact ⟨k + 1, _, by omega, by go_num, rfl, HST.out _ _ hr1 hr, _, rfl⟩
            case measure => simp [intOf]; omega
        · have hkn : k = n := by omega
          subst hkn
          have HS := Frame.hid (show DotTo xs ys xs.length s by rw [← HX.out]; exact hs)
          clear hs
          go_wp2
          go_ret2
          exact ⟨_, _, _, rfl, .inl ⟨HP.out, rfl, HS.out⟩, rfl⟩
    · have hne : ((xs.length : Int) != (ys.length : Int)) = true := by rw [bne_iff_ne]; omega
      go_enter Try.func11, Try.ntmps11
      go_wp2
      go_ret2
      exact ⟨_, _, 0, rfl, .inr ⟨fun h => hlen h.2, rfl, rfl⟩, rfl⟩

set_option maxHeartbeats 1000000 in
theorem specDot_calls (A B : Option Addr) (xs ys : List Nat) (c d : Nat) (w : World) (hn : xs.length ≤ 1048576) (hm : ys.length ≤ 1048576) (hA : RdF w A xs) (hB : RdF w B ys) :
    Calls Try.prog 10 #[.slice A xs.length c, .slice B ys.length d] w (DotV xs ys w) := by
  have HA := Frame.hid hA
  have HB := Frame.hid hB
  clear hA hB
  by_cases hbig : 256 < xs.length
  · have HD := Frame.hid (p := decide ((xs.length : Int) ≤ 256) = false) (by rw [decide_eq_false_iff_not]; omega)
    go_enter Try.func10, Try.ntmps10
    go_wp2_with (go_at_call 12; refine (l01Few_calls _ _ (by with_reducible assumption) _ _).mono ?_; rintro e w' ⟨rfl, rfl⟩; rw [HD.out])
    go_ret2
    exact ⟨_, _, 0, rfl, .inr ⟨by omega, rfl, rfl⟩, rfl⟩
  · have hle : xs.length ≤ 256 := by omega
    have HD := Frame.hid (p := decide ((xs.length : Int) ≤ 256) = true) (by rw [decide_eq_true_eq]; omega)
    clear hbig
    by_cases hlen : ys.length = xs.length
    · have hne : ((xs.length : Int) != (ys.length : Int)) = false := by rw [hlen]; simp
      have HL := Frame.hid hlen
      clear hlen
      go_enter Try.func10, Try.ntmps10
      go_wp2_with (first | (go_at_call 12; refine (l01Few_calls _ _ (by with_reducible assumption) _ _).mono ?_; rintro e w' ⟨rfl, rfl⟩; rw [HD.out]) | (go_at_call 14; refine (l01Dot_calls _ _ xs ys _ _ _ (by with_reducible assumption) HL.out HA.out HB.out).mono ?_; rintro e w' ⟨r, m, rfl, hs, rfl⟩))
      go_ret2
      exact ⟨_, _, _, rfl, .inl ⟨⟨hle, HL.out⟩, rfl, hs⟩, rfl⟩
    · have hne : ((xs.length : Int) != (ys.length : Int)) = true := by rw [bne_iff_ne]; omega
      go_enter Try.func10, Try.ntmps10
      go_wp2_with (go_at_call 12; refine (l01Few_calls _ _ (by with_reducible assumption) _ _).mono ?_; rintro e w' ⟨rfl, rfl⟩; rw [HD.out])
      go_ret2
      exact ⟨_, _, 0, rfl, .inr ⟨fun h => hlen h.2, rfl, rfl⟩, rfl⟩

set_option maxHeartbeats 2000000 in
theorem fnExactDotNumbers_walk (A : Option Addr) (xs : List Nat) (c : Nat) (B : Option Addr) (ys : List Nat) (d : Nat) (hmax : xs.length ≤ maxLen) (hmay : ys.length ≤ maxLen) (w : World) (hA : RdF w A xs) (hB : RdF w B ys) :
    Calls Try.prog 4 #[.slice A xs.length c, .slice B ys.length d] w fun e w' => e = .returned (.bool true) ∧ Below w.heap.size w w' := by
  unfold maxLen at hmax hmay
  have HA := Frame.hid hA
  have HB := Frame.hid hB
  clear hA hB
  by_cases hbig : 1048576 < xs.length
  · go_enter Try.func4, Try.ntmps4
    go_wp2
    go_ret
    exact ⟨rfl, Below.refl _ _⟩
  have hn : xs.length ≤ 1048576 := by omega
  clear hbig
  by_cases hbig : 1048576 < ys.length
  · go_enter Try.func4, Try.ntmps4
    go_wp2
    go_ret
    exact ⟨rfl, Below.refl _ _⟩
  have hm : ys.length ≤ 1048576 := by omega
  clear hbig
  go_enter Try.func4, Try.ntmps4
  go_wp2_with fail
  refine (toFloat32S_calls _ xs _ _ hn HA.out).mono ?_
  rintro e w1 ⟨g1, rfl, hr1, hb1⟩
  go_wp2_with fail
  refine (toFloat32S_calls _ ys _ _ hm (HB.out.below hb1)).mono ?_
  rintro e w2 ⟨g2, rfl, hr2, hb2⟩
  go_wp2_with fail
  refine (specDot_calls _ _ xs ys _ _ _ hn hm (hr1.below hb2) hr2).mono ?_
  rintro e w3 ⟨r1, t1, m1, rfl, hv1, rfl⟩
  have H2 := Frame.hid (hb1.trans (hb2.mono hb1.size))
  clear hr1 hr2 hb1 hb2
  go_wp2_with fail
  refine (toFloat32S_calls _ xs _ _ hn ((HA.out.below H2.out).drewN _)).mono ?_
  rintro e w4 ⟨g4, rfl, hr4, hb4⟩
  have H4 := Frame.hid (below_step H2.out hb4)
  clear H2 hb4
  go_wp2_with fail
  refine (toFloat32S_calls _ ys _ _ hm (HB.out.below H4.out)).mono ?_
  rintro e w5 ⟨g5, rfl, hr5, hb5⟩
  have HR4 := Frame.hid (hr4.below hb5)
  have HR5 := Frame.hid hr5
  have H5 := Frame.hid (H4.out.trans (hb5.mono H4.out.size))
  clear H4 hb5 hr4 hr5
  go_wp2_with fail
  refine (dotNumbers_calls _ _ xs ys _ _ _ hn hm HR4.out HR5.out).mono ?_
  rintro e w6 ⟨r2, t2, m2, rfl, hv2, rfl⟩
  obtain ⟨ht, hs⟩ := DotV_same hv1 hv2
  subst ht
  have HS := Frame.hid hs
  clear hv1 hv2 hs
  have htt : (t2 != t2) = false := by cases t2 <;> rfl
  go_wp2_with (first | (refine wpList_conv rfl _ _ _ rfl .f32 .f64 (by decide) (.inl rfl) _ rfl (by kernel_rfl) (by kernel_rfl) ?_; intro r n hr hl) | (go_at_call 8; refine (sameFloat_calls _ _ (wide_pair HS.out (by with_reducible assumption) (by with_reducible assumption)) _).mono ?_; rintro e w' ⟨rfl, n, rfl⟩))
  refine (toFloat32S_calls _ xs _ _ hn ((HA.out.below H5.out).drewN _)).mono ?_
  rintro e w7 ⟨g7, rfl, hr7, hb7⟩
  go_wp2_with fail
  refine (eqFloat32S_calls _ _ xs _ _ _ hn ((HR4.out.drewN _).below hb7) hr7).mono ?_
  rintro e w8 ⟨rfl, m8, rfl⟩
  have H7 := Frame.hid (below_step H5.out hb7)
  have HR57 := Frame.hid (((HR5.out.drewN _).below hb7).drewN m8)
  clear H5 hb7 hr7 HR5 HR4
  go_wp2_with fail
  refine (toFloat32S_calls _ ys _ _ hm ((HB.out.below H7.out).drewN _)).mono ?_
  rintro e w9 ⟨g9, rfl, hr9, hb9⟩
  go_wp2_with fail
  refine (eqFloat32S_calls _ _ ys _ _ _ hm (HR57.out.below hb9) hr9).mono ?_
  rintro e w10 ⟨rfl, m10, rfl⟩
  have H9 := Frame.hid (below_step H7.out hb9)
  clear H7 hb9 HR57 hr9
  go_wp2
  go_ret
  exact ⟨rfl, below_drewN H9.out _⟩

end Go.Proofs.Ytpddjfajcpmdeac
