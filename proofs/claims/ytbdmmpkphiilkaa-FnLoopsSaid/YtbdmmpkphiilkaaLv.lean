/-
  The small functions of FnLoops, walked; gaps of near numbers.
-/
/-
  The area of a moved loop is that of the loop, nearly.
-/
/-
  Three slices of complex numbers of a call's own, apart from one another.
-/
/-
  The rings of FnLoops: what the walk asks of them.
-/
/-
  The area under a plain curve, as the program makes it.
-/
/-
  FnLoops: the law, walked.
-/
import Derived.Test.YtbdmmpkphiilkaaUn
import Derived.Test.YtbdmmpkphiilkaaMw
import Derived.Test.YtbdmmpkphiilkaaMu
import Derived.Test.YtbdmmpkphiilkaaOb
import Derived.Test.YtbdmmpkphiilkaaPy
import Derived.Test.YtbdmmpkphiilkaaRg
import Derived.Test.YtbdmmpkphiilkaaCv
import Derived.Maps.AppendAt
import Derived.Test.YtbdmmpkphiilkaaTu
import Derived.Test.YtbdmmpkphiilkaaLo
import Derived.Test.YtbdmmpkphiilkaaBk
namespace Go.Proofs.Ytbdmmpkphiilkaa
open Go.RowKit Fl Ieee

theorem b10Long_l (A B : Option Addr) (m k c d : Nat) (_ : m ≤ maxLen) (_ : k ≤ maxLen) (w : World) : Calls Try.prog 6 #[.slice A m c, .slice B k d] w fun e w' => e = .returned (.bool (decide (1048576 < (m : Int)) || decide (1048576 < (k : Int)))) ∧ w = w' := by
  unfold maxLen at *
  go_enter Try.func6, Try.ntmps6
  go_wp2
  all_goals
    go_ret
    simp [*]

theorem b10At_l (i n : Nat) (hi : i ≤ 64) (hn2 : 2 ≤ n) (hn3 : n ≤ 256) (A : Option Addr) (zs : List Nat) (c : Nat) (hn : zs.length ≤ 1048576) (w : World) (hA : RdB w A zs) : Calls Try.prog 7 #[.slice A zs.length c, .int .i64 (i : Int), .int .i64 (n : Int)] w fun e w' => ∃ k : Nat, k < n ∧ e = .returned (.int .i64 k) ∧ w = w' := by
  obtain ⟨len, hxn⟩ : ∃ n, n = zs.length := ⟨_, rfl⟩
  rw [← hxn] at hn ⊢
  by_cases h0 : i < len
  · obtain ⟨b, off, rfl, hb, hc⟩ := hA (by omega)
    obtain ⟨c1, c2⟩ := hc i (by omega)
    generalize zs.getD i 0 = z at c1 c2
    have HZ := Frame.hid c2
    clear hc hA hxn
    go_enter Try.func7, Try.ntmps7
    go_wp2
    go_ret
    exact ⟨z % n, Nat.mod_lt _ (by omega), (by show Ending.returned (Value.int IntKind.i64 ((z : Int) % (n : Int))) = Ending.returned (Value.int IntKind.i64 (((z % n : Nat)) : Int)); rw [Int.natCast_emod]), rfl⟩
  · clear hA hxn hn
    go_enter Try.func7, Try.ntmps7
    go_wp2
    go_ret
    exact ⟨(i * 37 + 11) % n, Nat.mod_lt _ (by omega), (by show Ending.returned (Value.int IntKind.i64 (((i : Int) * 37 + 11) % (n : Int))) = Ending.returned (Value.int IntKind.i64 ((((i * 37 + 11) % n : Nat)) : Int)); rw [Int.natCast_emod]; push_cast; rfl), rfl⟩

theorem RdB.under {w w' : World} {A : Option Addr} {zs : List Nat} (h : RdB w A zs) (hb : Below w.heap.size w w') : RdB w' A zs := fun h0 => by
  obtain ⟨b, off, e, hlt, hc⟩ := h h0
  exact ⟨b, off, e, Nat.lt_of_lt_of_le hlt hb.size, fun j hj => ⟨(hb.cell (p := ⟨b, off + j, none⟩) hlt).trans (hc j hj).1, (hc j hj).2⟩⟩

theorem b10Gap_l (a b : Nat) (w : World) : Calls Try.prog 16 #[.float .f64 a, .float .f64 b] w (Gives .f64 (GapR a b) w) := by
  go_enter Try.func16, Try.ntmps16
  go_wp2_with (refine wpList_arith rfl _ _ _ _ _ rfl rfl _ _ _ rfl rfl ?_; intro r n hr hl)
  · rename_i hc
    go_ret
    exact ⟨_, _, rfl, by unfold GapR; rw [if_pos hc]; exact hr, hl, rfl⟩
  · rename_i hc
    go_ret
    exact ⟨_, _, rfl, by unfold GapR; rw [if_neg (by rw [hc]; decide)]; exact hr, hl, rfl⟩

theorem l01Scale_calls (x1 x2 y : Nat) (w : World) : Calls Try.prog 31 #[.complex .f32 x1 x2, .float .f32 y] w (GivesZ .f32 (fun a b => FOp .mul .f32 x1 y a ∧ FOp .mul .f32 x2 y b) w) := by
  go_enter Try.func31, Try.ntmps31
  go_wp2_with (refine wpList_arith rfl _ _ _ _ _ rfl rfl _ _ _ rfl rfl ?_; intro r n hr hl)
  go_ret
  exact ⟨_, _, _, rfl, ⟨by assumption, by assumption⟩, by assumption, by assumption, rfl⟩

theorem scale_calls (x1 x2 y : Nat) (w : World) : Calls Try.prog 8 #[.complex .f32 x1 x2, .float .f32 y] w (GivesZ .f32 (fun a b => FOp .mul .f32 x1 y a ∧ FOp .mul .f32 x2 y b) w) := by
  go_enter Try.func8, Try.ntmps8
  go_wp2_with fail
  refine (l01Scale_calls x1 x2 y _).mono ?_
  rintro e w1 ⟨a, b, n, rfl, h, h1, h2, rfl⟩
  have HH := Frame.hid h
  have H1 := Frame.hid h1
  have H2 := Frame.hid h2
  clear h h1 h2
  go_wp2_with fail
  go_ret
  exact ⟨a, b, n, rfl, HH.out, H1.out, H2.out, rfl⟩

namespace Fl
theorem read_neg64 (x : Nat) : double.read (Op.negFloat .f64 x) = (double.read x).opposite := by
  have es : double.signWeight = 9223372036854775808 := by decide
  have h1 : Op.negFloat .f64 x % double.signWeight = x % double.signWeight := by rw [es]; exact neg_rung x
  have h2 : (Op.negFloat .f64 x / double.signWeight % 2 == 1) = !(x / double.signWeight % 2 == 1) := by
    have e0 : Op.negFloat .f64 x = x ^^^ 2 ^ 63 := rfl
    have e1 : (9223372036854775808 : Nat) = 2 ^ 63 := rfl
    rw [es, e0, e1, Nat.xor_div_two_pow, Nat.div_self (Nat.two_pow_pos 63)]
    have h := Nat.xor_mod_two_pow (a := x / 2 ^ 63) (b := 1) (n := 1)
    rw [Nat.pow_one] at h
    rw [h]
    rcases Nat.mod_two_eq_zero_or_one (x / 2 ^ 63) with e | e <;> rw [e] <;> rfl
  unfold Format.read
  rw [h1, h2]
  dsimp only
  split
  · rfl
  · split
    · rfl
    · split <;> rfl
theorem fv_neg64 {x : Nat} {q : Rat} (h : FV .f64 x q) : FV .f64 (Op.negFloat .f64 x) (-q) := fv_opp h (read_neg64 x)
theorem FV.wide {x a : Nat} {q : Rat} (h : FV .f32 x q) (ha : FCv .f32 .f64 x a) : FV .f64 a q := by
  obtain ⟨s, m, p, h1, h2⟩ := h
  have h1' : single.read x = .number s m p := h1
  rcases wide_read ha with ⟨hn, _⟩ | ⟨s', hn, _⟩ | ⟨s', m', e, hr, _, _, _, t, p', hw, hp⟩
  · unfold isNan FloatKind.decode at hn
    rw [h1] at hn
    cases hn
  · rw [h1'] at hn
    cases hn
  · rw [h1'] at hr
    injection hr with e1 e2 e3
    subst e1 e2 e3
    refine ⟨s, m * 2 ^ t, p', hw, ?_⟩
    rw [← h2]
    by_cases h0 : m = 0
    · subst h0
      rw [Nat.zero_mul, dv_zero, dv_zero]
    · have e := hp h0
      have hk : ((m * 2 ^ t : Nat) : Rat) * pw p' = (m : Rat) * pw p := by
        have e4 : p = p' + (t : Int) := by omega
        rw [e4, pw_add, pw_nat, Rat.natCast_mul]
        grind
      unfold dv
      rw [hk]
theorem fv_cent : FV .f64 4576918229304087675 (dv false 5764607523034235 (-59)) := ⟨false, 5764607523034235, -59, by decide +kernel, rfl⟩
theorem cent_more : (0.0095 : Rat) < dv false 5764607523034235 (-59) := by decide +kernel
/-- The gap of two near numbers is under 0.01. -/
theorem gap_small {a b g : Nat} {q r : Rat} (ha : FV .f64 a q) (hb : FV .f64 b r) (hg : GapR a b g) (d1 : -0.009 ≤ q - r) (d2 : q - r ≤ 0.009) : FloatKind.f64.format.order g 4576918229304087675 = some Ordering.lt := by
  have hc := cent_more
  obtain ⟨n0, n1⟩ := eta_small
  have hu := uk_le .f64
  have hu0 := uk_pos .f64
  have key : ∀ x y : Nat, ∀ u v : Rat, FV .f64 x u → FV .f64 y v → -0.009 ≤ u - v → u - v ≤ 0.009 → FOp .sub .f64 x y g → FloatKind.f64.format.order g 4576918229304087675 = some Ordering.lt := by
    intro x y u v hx hy k1 k2 ho
    obtain ⟨c, c1, c2, c3⟩ := fsub (B := 0.009) hx hy (ho.sub_some hx hy) k1 k2 (by decide +kernel)
    have hm : (0.009 : Rat) * uk .f64 ≤ 0.009 * (1 / 16777216) := Rat.mul_le_mul_of_nonneg_left hu (by decide +kernel)
    have hm2 : (0.009 : Rat) * (1 / 16777216) ≤ 0.0001 := by decide +kernel
    rw [ford c1 fv_cent, if_pos (by generalize (0.009 : Rat) * uk .f64 = E at *; generalize (0.009 : Rat) * (1 / 16777216) = F at *; generalize dv false 5764607523034235 (-59) = C at *; grind)]
  unfold GapR at hg
  split at hg
  · exact key b a r q hb ha (by grind) (by grind) hg
  · exact key a b q r ha hb d1 d2 hg
end Fl

end Go.Proofs.Ytbdmmpkphiilkaa

namespace Go.Proofs.Ytbdmmpkphiilkaa
open Go.RowKit Fl Ieee
namespace Fl

/-- Words of moved points. -/
def MovR (zs zs' : List (Nat × Nat)) (bx bY : Nat) : Prop := zs'.length = zs.length ∧ ∀ k, k < zs.length → FOp .add .f32 (zs.getD k (0, 0)).1 bx (zs'.getD k (0, 0)).1 ∧ FOp .add .f32 (zs.getD k (0, 0)).2 bY (zs'.getD k (0, 0)).2
/-- Words within 2.1. -/
def Sml2 (x : Nat) : Prop := ∃ q, FV .f32 x q ∧ -2.1 ≤ q ∧ q ≤ 2.1

theorem cls_lo {zs : List (Nat × Nat)} {k : Nat} (h : k < zs.length) : (Rg.cls zs).getD k (0, 0) = zs.getD k (0, 0) := by
  unfold Rg.cls
  rw [List.getD_eq_getElem?_getD, List.getElem?_append_left h, ← List.getD_eq_getElem?_getD]
theorem cls_hi {zs : List (Nat × Nat)} : (Rg.cls zs).getD zs.length (0, 0) = zs.getD 0 (0, 0) := by
  unfold Rg.cls
  rw [List.getD_eq_getElem?_getD, List.getElem?_append_right (Nat.le_refl _), Nat.sub_self]
  rfl
theorem cls_at {zs : List (Nat × Nat)} {k : Nat} (h0 : 0 < zs.length) (h : k < zs.length + 1) : ∃ j, j < zs.length ∧ ∀ ys : List (Nat × Nat), ys.length = zs.length → (Rg.cls ys).getD k (0, 0) = ys.getD j (0, 0) := by
  by_cases hk : k < zs.length
  · exact ⟨k, hk, fun ys hy => cls_lo (by omega)⟩
  · have e : k = zs.length := by omega
    exact ⟨0, h0, fun ys hy => by rw [e, ← hy]; exact cls_hi⟩

theorem move_word {x b y : Nat} {a : Rat} (hx : Sml2 x) (hb : FV .f32 b a) (h1 : -2 ≤ a) (h2 : a ≤ 2) (h : FOp .add .f32 x b y) : ∃ q r, FV .f32 x q ∧ FV .f32 y r ∧ -2.1 ≤ q ∧ q ≤ 2.1 ∧ -4.2 ≤ r ∧ r ≤ 4.2 ∧ -0.00002 ≤ r - (q + a) ∧ r - (q + a) ≤ 0.00002 := by
  obtain ⟨q, q1, q2, q3⟩ := hx
  obtain ⟨n0, n1⟩ := eta_small
  obtain ⟨c, c1, c2, c3⟩ := fadd (B := 4.1) q1 hb (h.add_some q1 hb) (by grind) (by grind) (by decide +kernel)
  rw [uk32] at c2 c3
  have k1 : (4.1 : Rat) * (1 / 16777216) ≤ 0.000001 := by decide +kernel
  generalize (4.1 : Rat) * (1 / 16777216) = E at *
  exact ⟨q, c, q1, c1, q2, q3, by grind, by grind, by grind, by grind⟩

theorem sumX_move (X Y : Nat → Rat) (a b : Rat) : ∀ n, sumX (fun k => X k + a) (fun k => Y k + b) n = sumX X Y n + a * (Y n - Y 0) - b * (X n - X 0)
  | 0 => by
    show (0 : Rat) = 0 + a * (Y 0 - Y 0) - b * (X 0 - X 0)
    grind
  | n + 1 => by
    show sumX (fun k => X k + a) (fun k => Y k + b) n + ((X n + a) * (Y (n + 1) + b) - (Y n + b) * (X (n + 1) + a)) = sumX X Y n + (X n * Y (n + 1) - Y n * X (n + 1)) + a * (Y (n + 1) - Y 0) - b * (X (n + 1) - X 0)
    rw [sumX_move X Y a b n]
    grind

theorem sumX_near {X Y U V : Nat → Rat} {n : Nat} (h : ∀ k, k < n + 1 → (-8 ≤ X k ∧ X k ≤ 8 ∧ -8 ≤ Y k ∧ Y k ≤ 8) ∧ (-8 ≤ U k ∧ U k ≤ 8 ∧ -8 ≤ V k ∧ V k ≤ 8) ∧ (-0.00002 ≤ X k - U k ∧ X k - U k ≤ 0.00002) ∧ (-0.00002 ≤ Y k - V k ∧ Y k - V k ≤ 0.00002)) :
    ∀ k, k ≤ n → -(0.00064 * (k : Rat)) ≤ sumX X Y k - sumX U V k ∧ sumX X Y k - sumX U V k ≤ 0.00064 * (k : Rat)
  | 0, _ => by
    have e0 : ((0 : Nat) : Rat) = 0 := rfl
    rw [e0]
    show -(0.00064 * 0) ≤ (0 : Rat) - 0 ∧ (0 : Rat) - 0 ≤ 0.00064 * 0
    constructor <;> grind
  | k + 1, hk => by
    obtain ⟨i1, i2⟩ := sumX_near h k (by omega)
    obtain ⟨⟨a1, a2, a3, a4⟩, ⟨b1, b2, b3, b4⟩, ⟨c1, c2⟩, ⟨d1, d2⟩⟩ := h k (by omega)
    obtain ⟨⟨e1, e2, e3, e4⟩, ⟨f1, f2, f3, f4⟩, ⟨g1, g2⟩, ⟨h1, h2⟩⟩ := h (k + 1) (by omega)
    obtain ⟨j1, j2⟩ := cross_opp c1 c2 d1 d2 g1 g2 h1 h2 e3 e4 e1 e2 b1 b2 b3 b4
    have em : ((k + 1 : Nat) : Rat) = (k : Rat) + 1 := by rw [Rat.natCast_add]; rfl
    rw [em]
    show -(0.00064 * ((k : Rat) + 1)) ≤ (sumX X Y k + (X k * Y (k + 1) - Y k * X (k + 1))) - (sumX U V k + (U k * V (k + 1) - V k * U (k + 1))) ∧ _ - (sumX U V k + (U k * V (k + 1) - V k * U (k + 1))) ≤ _
    have es : sumX X Y (k + 1) = sumX X Y k + (X k * Y (k + 1) - Y k * X (k + 1)) := rfl
    rw [es]
    have ec : U (k + 1) * V k - V (k + 1) * U k = -(U k * V (k + 1) - V k * U (k + 1)) := by grind
    rw [ec] at j1 j2
    generalize X k * Y (k + 1) - Y k * X (k + 1) = P at *
    generalize U k * V (k + 1) - V k * U (k + 1) = Q at *
    generalize sumX X Y k = S at *
    generalize sumX U V k = T at *
    clear a1 a2 a3 a4 b1 b2 b3 b4 c1 c2 d1 d2 e1 e2 e3 e4 f1 f2 f3 f4 g1 g2 h1 h2 es ec h
    constructor <;> grind

theorem in_a {x : Rat} (h1 : -2.1 ≤ x) (h2 : x ≤ 2.1) : -8 ≤ x ∧ x ≤ 8 := by constructor <;> grind
theorem in_b {x : Rat} (h1 : -4.2 ≤ x) (h2 : x ≤ 4.2) : -8 ≤ x ∧ x ≤ 8 := by constructor <;> grind
theorem in_c {x a : Rat} (h1 : -2.1 ≤ x) (h2 : x ≤ 2.1) (h3 : -2 ≤ a) (h4 : a ≤ 2) : -8 ≤ x + a ∧ x + a ≤ 8 := by constructor <;> grind
theorem last_area {q q' S T n : Rat} (hk : n ≤ 10) (q2 : -0.002 ≤ 2 * q - S) (q3 : 2 * q - S ≤ 0.002) (q2' : -0.002 ≤ 2 * q' - T) (q3' : 2 * q' - T ≤ 0.002) (d1 : -(0.00064 * n) ≤ T - S) (d2 : T - S ≤ 0.00064 * n) : -0.009 ≤ q' - q ∧ q' - q ≤ 0.009 := by constructor <;> grind
theorem closed_sum {S a b y x : Rat} : S + a * (y - y) - b * (x - x) = S := by grind

set_option maxHeartbeats 1000000 in
theorem moved_area {zs zs' : List (Nat × Nat)} {bx bY r r' : Nat} {a b : Rat} (h0 : 0 < zs.length) (hn : zs.length ≤ 10) (hs : ∀ k, k < zs.length → Sml2 (zs.getD k (0, 0)).1 ∧ Sml2 (zs.getD k (0, 0)).2) (hm : MovR zs zs' bx bY) (ha : FV .f32 bx a) (a1 : -2 ≤ a) (a2 : a ≤ 2) (hb : FV .f32 bY b) (b1 : -2 ≤ b) (b2 : b ≤ 2)
    (h : AreaR (Rg.cls zs) r) (h' : AreaR (Rg.cls zs') r') : ∃ q q', FV .f32 r q ∧ FV .f32 r' q' ∧ -0.009 ≤ q' - q ∧ q' - q ≤ 0.009 := by
  obtain ⟨hl, hmv⟩ := hm
  have key : ∀ k, k < zs.length + 1 → ∃ q1 r1 q2 r2, (FV .f32 ((Rg.cls zs).getD k (0, 0)).1 q1 ∧ FV .f32 ((Rg.cls zs').getD k (0, 0)).1 r1 ∧ -2.1 ≤ q1 ∧ q1 ≤ 2.1 ∧ -4.2 ≤ r1 ∧ r1 ≤ 4.2 ∧ -0.00002 ≤ r1 - (q1 + a) ∧ r1 - (q1 + a) ≤ 0.00002) ∧ (FV .f32 ((Rg.cls zs).getD k (0, 0)).2 q2 ∧ FV .f32 ((Rg.cls zs').getD k (0, 0)).2 r2 ∧ -2.1 ≤ q2 ∧ q2 ≤ 2.1 ∧ -4.2 ≤ r2 ∧ r2 ≤ 4.2 ∧ -0.00002 ≤ r2 - (q2 + b) ∧ r2 - (q2 + b) ≤ 0.00002) := by
    intro k hk
    obtain ⟨j, hj, hc⟩ := cls_at h0 hk
    rw [hc zs rfl, hc zs' hl]
    obtain ⟨s1, s2⟩ := hs j hj
    obtain ⟨m1, m2⟩ := hmv j hj
    obtain ⟨q1, r1, hq1⟩ := move_word s1 ha a1 a2 m1
    obtain ⟨q2, r2, hq2⟩ := move_word s2 hb b1 b2 m2
    exact ⟨q1, r1, q2, r2, hq1, hq2⟩
  have hv : ∀ k, k < zs.length + 1 → (FV .f32 ((Rg.cls zs).getD k (0, 0)).1 (vw ((Rg.cls zs).getD k (0, 0)).1) ∧ FV .f32 ((Rg.cls zs).getD k (0, 0)).2 (vw ((Rg.cls zs).getD k (0, 0)).2)) ∧ (FV .f32 ((Rg.cls zs').getD k (0, 0)).1 (vw ((Rg.cls zs').getD k (0, 0)).1) ∧ FV .f32 ((Rg.cls zs').getD k (0, 0)).2 (vw ((Rg.cls zs').getD k (0, 0)).2)) ∧
      (-2.1 ≤ vw ((Rg.cls zs).getD k (0, 0)).1 ∧ vw ((Rg.cls zs).getD k (0, 0)).1 ≤ 2.1 ∧ -2.1 ≤ vw ((Rg.cls zs).getD k (0, 0)).2 ∧ vw ((Rg.cls zs).getD k (0, 0)).2 ≤ 2.1) ∧ (-4.2 ≤ vw ((Rg.cls zs').getD k (0, 0)).1 ∧ vw ((Rg.cls zs').getD k (0, 0)).1 ≤ 4.2 ∧ -4.2 ≤ vw ((Rg.cls zs').getD k (0, 0)).2 ∧ vw ((Rg.cls zs').getD k (0, 0)).2 ≤ 4.2) ∧
      (-0.00002 ≤ vw ((Rg.cls zs').getD k (0, 0)).1 - (vw ((Rg.cls zs).getD k (0, 0)).1 + a) ∧ vw ((Rg.cls zs').getD k (0, 0)).1 - (vw ((Rg.cls zs).getD k (0, 0)).1 + a) ≤ 0.00002) ∧ (-0.00002 ≤ vw ((Rg.cls zs').getD k (0, 0)).2 - (vw ((Rg.cls zs).getD k (0, 0)).2 + b) ∧ vw ((Rg.cls zs').getD k (0, 0)).2 - (vw ((Rg.cls zs).getD k (0, 0)).2 + b) ≤ 0.00002) := by
    intro k hk
    obtain ⟨q1, r1, q2, r2, ⟨f1, f2, f3, f4, f5, f6, f7, f8⟩, ⟨g1, g2, g3, g4, g5, g6, g7, g8⟩⟩ := key k hk
    rw [f1.vw, f2.vw, g1.vw, g2.vw]
    exact ⟨⟨f1, g1⟩, ⟨f2, g2⟩, ⟨f3, f4, g3, g4⟩, ⟨f5, f6, g5, g6⟩, ⟨f7, f8⟩, ⟨g7, g8⟩⟩
  clear key
  have hl1 : (Rg.cls zs).length = zs.length + 1 := by simp [Rg.cls]
  have hl2 : (Rg.cls zs').length = zs.length + 1 := by simp [Rg.cls, hl]
  obtain ⟨q, q1, q2, q3⟩ := area_near (X := fun k => vw ((Rg.cls zs).getD k (0, 0)).1) (Y := fun k => vw ((Rg.cls zs).getD k (0, 0)).2) hl1 (by omega) (fun k hk => by
    obtain ⟨⟨f1, f2⟩, _, ⟨f3, f4, f5, f6⟩, _⟩ := hv k hk
    exact ⟨f1, f2, (in_a f3 f4).1, (in_a f3 f4).2, (in_a f5 f6).1, (in_a f5 f6).2⟩) h
  obtain ⟨q', q1', q2', q3'⟩ := area_near (X := fun k => vw ((Rg.cls zs').getD k (0, 0)).1) (Y := fun k => vw ((Rg.cls zs').getD k (0, 0)).2) hl2 (by omega) (fun k hk => by
    obtain ⟨_, ⟨f1, f2⟩, _, ⟨f3, f4, f5, f6⟩, _⟩ := hv k hk
    exact ⟨f1, f2, (in_b f3 f4).1, (in_b f3 f4).2, (in_b f5 f6).1, (in_b f5 f6).2⟩) h'
  have hsum := sumX_move (fun k => vw ((Rg.cls zs).getD k (0, 0)).1) (fun k => vw ((Rg.cls zs).getD k (0, 0)).2) a b zs.length
  simp only [cls_hi, cls_lo h0, closed_sum] at hsum
  obtain ⟨d1, d2⟩ := sumX_near (X := fun k => vw ((Rg.cls zs').getD k (0, 0)).1) (Y := fun k => vw ((Rg.cls zs').getD k (0, 0)).2) (U := fun k => vw ((Rg.cls zs).getD k (0, 0)).1 + a) (V := fun k => vw ((Rg.cls zs).getD k (0, 0)).2 + b) (n := zs.length) (fun k hk => by
    obtain ⟨_, _, ⟨e3, e4, e5, e6⟩, ⟨f3, f4, f5, f6⟩, ⟨g1, g2⟩, ⟨g3, g4⟩⟩ := hv k hk
    exact ⟨⟨(in_b f3 f4).1, (in_b f3 f4).2, (in_b f5 f6).1, (in_b f5 f6).2⟩, ⟨(in_c e3 e4 a1 a2).1, (in_c e3 e4 a1 a2).2, (in_c e5 e6 b1 b2).1, (in_c e5 e6 b1 b2).2⟩, ⟨g1, g2⟩, ⟨g3, g4⟩⟩) zs.length (Nat.le_refl _)
  rw [hsum] at d1 d2
  have hk : ((zs.length : Nat) : Rat) ≤ 10 := Rat.natCast_le_natCast.2 hn
  obtain ⟨l1, l2⟩ := last_area hk q2 q3 q2' q3' d1 d2
  exact ⟨q, q', q1, q1', l1, l2⟩

end Fl
end Go.Proofs.Ytbdmmpkphiilkaa

namespace Go.Proofs.Ytbdmmpkphiilkaa
open Go.RowKit Fl Ieee

structure Three (w : World) (vR vB vM : Value) (rs bs ms : List (Nat × Nat)) (wr : World) : Prop where
  below : Below w.heap.size w wr
  r : wr.ownsRow w.heap.size 26 1 vR rs.length (cl rs)
  b : wr.ownsRow w.heap.size 26 1 vB bs.length (cl bs)
  m : wr.ownsRow w.heap.size 26 1 vM ms.length (cl ms)
  rb : vR.ownBlock ≠ vB.ownBlock
  rm : vR.ownBlock ≠ vM.ownBlock
  bm : vB.ownBlock ≠ vM.ownBlock

theorem Three.swapM {w : World} {vR vB vM : Value} {rs bs ms : List (Nat × Nat)} {wr : World} (h : Three w vR vB vM rs bs ms wr) : Three w vM vB vR ms bs rs wr :=
  ⟨h.below, h.m, h.b, h.r, fun e => h.bm e.symm, fun e => h.rm e.symm, fun e => h.rb e.symm⟩
theorem Three.swapB {w : World} {vR vB vM : Value} {rs bs ms : List (Nat × Nat)} {wr : World} (h : Three w vR vB vM rs bs ms wr) : Three w vB vR vM bs rs ms wr :=
  ⟨h.below, h.b, h.r, h.m, fun e => h.rb e.symm, h.bm, h.rm⟩
theorem Three.drew {w : World} {vR vB vM : Value} {rs bs ms : List (Nat × Nat)} {wr : World} (h : Three w vR vB vM rs bs ms wr) (n : Nat) : Three w vR vB vM rs bs ms (wr.drewN n) :=
  ⟨below_drewN h.below n, h.r, h.b, h.m, h.rb, h.rm, h.bm⟩
theorem own_ne {W : World} {base : Nat} {e : TypeId} {size : Nat} {v v' : Value} {n : Nat} {xs : List Value} (h : W.ownsRow base e size v n xs) {x : Value} {k : Nat} (hx : x.ownBlock = v'.ownBlock ∨ x.ownBlock = some k) (hk : W.heap.size ≤ k) (hne : v'.ownBlock ≠ v.ownBlock) : x.ownBlock ≠ v.ownBlock := by
  intro e1
  rcases hx with hx | hx
  · exact hne (hx.symm.trans e1)
  · have := World.ownsRow.lt h k (e1.symm.trans hx)
    omega
theorem Three.appR {w wr w' : World} {vR vB vM v' : Value} {rs bs ms : List (Nat × Nat)} {z : Nat × Nat} (h : Three w vR vB vM rs bs ms wr) (o : Obj) (hg : (wr.alloc o).grownBy w' vR.ownBlock)
    (hown : w'.ownsRow w.heap.size 26 1 v' (rs.length + 1) (cl rs ++ [cx z])) (hat : v'.ownBlock = vR.ownBlock ∨ v'.ownBlock = some (wr.alloc o).heap.size) : Three w v' vB vM (rs ++ [z]) bs ms w' := by
  have hs : wr.heap.size ≤ (wr.alloc o).heap.size := by simp
  refine ⟨?_, ?_, World.ownsRow.kept (World.ownsRow.alloc h.b o) hg (.inr fun e => h.rb e.symm), World.ownsRow.kept (World.ownsRow.alloc h.m o) hg (.inr fun e => h.rm e.symm), own_ne h.b hat hs h.rb, own_ne h.m hat hs h.rm, h.bm⟩
  · exact Below.grown (h.below.alloc h.below.size o) hg (by have := h.below.size; simp; omega) (fun k hk => (World.ownsRow.lt h.r k hk).1)
  · rw [List.length_append, ← cl_app]
    exact hown
theorem Three.start (w : World) : Three w (.slice (some ⟨w.heap.size, 0, none⟩) 0 0) (.slice (some ⟨w.heap.size + 1, 0, none⟩) 0 0) (.slice (some ⟨w.heap.size + 1 + 1, 0, none⟩) 0 0) [] [] [] (((w.alloc (.cells #[] 26)).alloc (.cells #[] 26)).alloc (.cells #[] 26)) := by
  have h1 := World.ownsRow_lit (size := 1) (e := 26) (base := w.heap.size) w #[] 0 (Nat.le_refl _) (by unfold maxLen; omega) rfl
  have h2 := World.ownsRow_lit (size := 1) (e := 26) (base := w.heap.size) (w.alloc (.cells #[] 26)) #[] 0 (by simp) (by unfold maxLen; omega) rfl
  have h3 := World.ownsRow_lit (size := 1) (e := 26) (base := w.heap.size) ((w.alloc (.cells #[] 26)).alloc (.cells #[] 26)) #[] 0 (by simp; omega) (by unfold maxLen; omega) rfl
  have e1 : (w.alloc (.cells #[] 26)).heap.size = w.heap.size + 1 := by simp
  have e2 : ((w.alloc (.cells #[] 26)).alloc (.cells #[] 26)).heap.size = w.heap.size + 1 + 1 := by simp
  rw [e1] at h2
  rw [e2] at h3
  refine ⟨(((Below.refl _ w).alloc (Nat.le_refl _) _).alloc (by simp) _).alloc (by simp; omega) _, World.ownsRow.alloc (World.ownsRow.alloc h1 _) _, World.ownsRow.alloc h2 _, h3, ?_, ?_, ?_⟩ <;> simp [Value.ownBlock] <;> omega
theorem step_append_own_at {P : Program} {ops : Array Oper} {o : Oper} {a : Act} {w : World} {K : Act → World → Prop} {Q : Exit → Act → World → Prop} {E : Prop} (hgd : o.guard = none) (s x : Operand) (t : TypeId)
    (ho : o.op = .call { callee := .builtin .append, args := #[s, x], argTypes := #[t, t] })
    (base : Nat) (e : TypeId) (i : TypeInfo) (z : Value) (size bytes : Nat) (ht : P.underlying t = some (.slice e)) (hi : P.info? e = some i) (hz : i.zero = some z)
    (hsize : i.size = size) (hby : i.bytes = bytes) (hzs : z.cells.size = size) (hsz : 0 < size)
    (v : Value) (n : Nat) (xs : List Value) (hs : a.eval s = v) (hown : w.ownsRow base e size v n xs)
    (ad : Addr) (m c : Nat) (news : List Value) (hx : a.eval x = .slice (some ad) m c) (hl : news.length = m * size) (hnews : ∀ j u, news[j]? = some u → w.cell? (ad.add j) = some u) (h1 : ∀ u ∈ news, u.oneCell' = true)
    (h63 : n + m ≤ maxLen) (hbytes : (n + m) * bytes ≤ 140737488355328) (hbase : base ≤ w.heap.size)
    (h : ∀ v' w', w'.ownsRow base e size v' (n + m) (xs ++ news) → w.grownBy w' v.ownBlock → (v' = .slice none 0 0 ↔ v = .slice none 0 0 ∧ m = 0) → (v'.ownBlock = v.ownBlock ∨ v'.ownBlock = some w.heap.size) → K (a.put o.dst v') w') :
    if Region.wanted o (yielded ops a.tmps) = true then Oper.wp P o a w K Q else E := by
  have hw : Region.wanted o (yielded ops a.tmps) = true := by simp [Region.wanted, hgd]
  rw [if_pos hw]
  obtain ⟨v', w', hr, h2, h3, h4, h5⟩ := run_append_own_at (P := P) w base t o.type e i z size bytes ht hi hz hsize hby hzs hsz v n xs hown ad m c news hl hnews h1 h63 hbytes hbase
  unfold Oper.wp execOp
  simp only [ho, resolve, invoke, builtin, Sem.run_bind, Sem.run_pure, Result.andThen_ok, List.map_toArray, List.map_cons, List.map_nil, hs, hx, hr]
  exact h v' w' h2 h3 h4 h5
theorem own_slice {w : World} {base : Nat} {e : TypeId} {size : Nat} {v : Value} {n : Nat} {xs : List Value} (h : w.ownsRow base e size v n xs) (h0 : 0 < n) : ∃ g cap, v = .slice (some ⟨g, 0, none⟩) n cap := by
  obtain ⟨m, rfl⟩ : ∃ m, n = m + 1 := ⟨n - 1, by omega⟩
  exact own_form h
/-- Moves by quarters. -/
def byOk (i : Int) : Bool := match FloatKind.f32.format.read ((floatBits .quo .f32 (floatOfInt .f32 i) 1082130432).getD 0) with
  | .number s m p => decide (-2 ≤ dv s m p ∧ dv s m p ≤ 2)
  | _ => false
theorem by_tab : ∀ i : Fin 17, byOk ((i.val : Int) - 8) = true := by decide +kernel
theorem by_at {k : Nat} (h : k < 17) : ∃ a, FV .f32 ((floatBits .quo .f32 (floatOfInt .f32 ((k : Int) - 8)) 1082130432).getD 0) a ∧ -2 ≤ a ∧ a ≤ 2 := by
  have ht := by_tab ⟨k, h⟩
  simp only at ht
  unfold byOk at ht
  split at ht
  · rename_i s m p hd
    have h3 := of_decide_eq_true ht
    exact ⟨_, ⟨s, m, p, hd, rfl⟩, h3.1, h3.2⟩
  · cases ht

end Go.Proofs.Ytbdmmpkphiilkaa

namespace Go.Proofs.Ytbdmmpkphiilkaa
open Go.RowKit Fl Ieee
namespace Rg

theorem ring_at {n k : Nat} (h3 : 3 ≤ n) (h10 : n ≤ 10) (hk : k < n) : ∃ y, floatBits .quo .f64 (floatOfInt .f64 (k : Int)) (floatOfInt .f64 (n : Int)) = some y ∧ y < 2 ^ FloatKind.f64.format.width ∧ ∀ re im, PhasV y re im → floatBits .mul .f32 re 1073741824 = some ((rg n).getD k (0, 0)).1 ∧ floatBits .mul .f32 im 1073741824 = some ((rg n).getD k (0, 0)).2 := by
  have h := ring_tab ⟨n - 3, by omega⟩ ⟨k, by omega⟩
  simp only at h
  rw [show n - 3 + 3 = n by omega, Bool.or_eq_true, decide_eq_true_eq] at h
  rcases h with h | h
  · omega
  · unfold ringOk at h
    split at h
    · rename_i r hr
      obtain ⟨y, hy, hr⟩ := bnd hr
      split at hr
      · rename_i hc
        rw [Bool.and_eq_true, decide_eq_true_eq] at hc
        obtain ⟨f, e1, e2⟩ := bnd hr
        rw [Bool.and_eq_true, Bool.and_eq_true, Bool.and_eq_true, Bool.not_eq_true', Bool.not_eq_true'] at h
        obtain ⟨⟨⟨n1, n2⟩, m1⟩, m2⟩ := h
        refine ⟨y, hy, bits_lt hy, fun re im hp => ?_⟩
        have hs := PhasV.same hp (PhasV.few hc.1 hc.2 (phasFO_ok e1 e2))
        rcases hs with ⟨s1 | ⟨_, s1⟩, s2 | ⟨_, s2⟩⟩
        · rw [s1, s2]
          exact ⟨eq_of_beq m1, eq_of_beq m2⟩
        · rw [n2] at s2; cases s2
        · rw [n1] at s1; cases s1
        · rw [n1] at s1; cases s1
      · cases hr
    · cases h

theorem ring_in {n k : Nat} (h3 : 3 ≤ n) (h10 : n ≤ 10) (hk : k < n) : (Sml2 ((rg n).getD k (0, 0)).1 ∧ Sml2 ((rg n).getD k (0, 0)).2) ∧ ((rg n).getD k (0, 0)).1 < 4294967296 ∧ ((rg n).getD k (0, 0)).2 < 4294967296 := by
  have h := ring_all h3 h10
  have hl := h.len
  have hm : (rg n).getD k (0, 0) ∈ rg n := by
    rw [List.getD_eq_getElem?_getD, List.getElem?_eq_getElem (by omega)]
    exact List.getElem_mem _
  have ha := List.all_eq_true.1 h.small _ hm
  rw [Bool.and_eq_true] at ha
  obtain ⟨a1, a2⟩ := inOk_ok ha.1
  obtain ⟨b1, b2⟩ := inOk_ok ha.2
  exact ⟨⟨a2, b2⟩, a1, b1⟩

theorem sml_fin {x : Nat} (h : Sml2 x) : fin .f32 x = true := by
  obtain ⟨q, hq, _⟩ := h
  exact fv_fin hq

theorem ring_fin {n : Nat} (h3 : 3 ≤ n) (h10 : n ≤ 10) : FinP (rg n) := by
  intro k hk
  have hl := (ring_all h3 h10).len
  obtain ⟨⟨a1, a2⟩, _⟩ := ring_in h3 h10 (k := k) (by omega)
  exact ⟨sml_fin a1, sml_fin a2⟩

theorem getD_back {ps : List (Nat × Nat)} {i : Nat} (hi : i < ps.length) : ps.reverse.getD i (0, 0) = ps.getD (ps.length - 1 - i) (0, 0) := by
  rw [List.getD_eq_getElem?_getD, List.getD_eq_getElem?_getD, List.getElem?_reverse hi]

theorem ring_back_fin {n : Nat} (h3 : 3 ≤ n) (h10 : n ≤ 10) : FinP (rg n).reverse := by
  intro k hk
  rw [List.length_reverse] at hk
  have hl := (ring_all h3 h10).len
  rw [getD_back hk]
  obtain ⟨⟨a1, a2⟩, _⟩ := ring_in h3 h10 (k := (rg n).length - 1 - k) (by omega)
  exact ⟨sml_fin a1, sml_fin a2⟩

/-- A point of a ring, moved. -/
theorem moved_at {n k bx bY : Nat} {a b : Rat} (h3 : 3 ≤ n) (h10 : n ≤ 10) (hk : k < n) (ha : FV .f32 bx a) (hb : FV .f32 bY b) : ∃ r1 r2, floatBits .add .f32 ((rg n).getD k (0, 0)).1 bx = some r1 ∧ floatBits .add .f32 ((rg n).getD k (0, 0)).2 bY = some r2 := by
  obtain ⟨⟨⟨q1, a1, _⟩, ⟨q2, a2, _⟩⟩, _⟩ := ring_in h3 h10 hk
  obtain ⟨r1, h1⟩ := fadd_some a1 ha
  obtain ⟨r2, h2⟩ := fadd_some a2 hb
  exact ⟨r1, r2, h1, h2⟩

theorem moved_fin {n bx bY : Nat} {ms : List (Nat × Nat)} {a b : Rat} (h3 : 3 ≤ n) (h10 : n ≤ 10) (ha : FV .f32 bx a) (a1 : -2 ≤ a) (a2 : a ≤ 2) (hb : FV .f32 bY b) (b1 : -2 ≤ b) (b2 : b ≤ 2) (hm : MovR (rg n) ms bx bY) : FinP ms := by
  intro k hk
  have hl := (ring_all h3 h10).len
  obtain ⟨⟨s1, s2⟩, _⟩ := ring_in h3 h10 (k := k) (by have := hm.1; omega)
  obtain ⟨m1, m2⟩ := hm.2 k (by have := hm.1; omega)
  obtain ⟨_, r1, _, f1, _⟩ := move_word s1 ha a1 a2 m1
  obtain ⟨_, r2, _, f2, _⟩ := move_word s2 hb b1 b2 m2
  exact ⟨fv_fin f1, fv_fin f2⟩

theorem moved_areas {n bx bY : Nat} {ms : List (Nat × Nat)} {a b : Rat} (h3 : 3 ≤ n) (h10 : n ≤ 10) (ha : FV .f32 bx a) (a1 : -2 ≤ a) (a2 : a ≤ 2) (hb : FV .f32 bY b) (b1 : -2 ≤ b) (b2 : b ≤ 2) (hm : MovR (rg n) ms bx bY) {r r' : Nat} (h : AreaR (cls (rg n)) r) (h' : AreaR (cls ms) r') : ∃ q q', FV .f32 r q ∧ FV .f32 r' q' ∧ -0.009 ≤ q' - q ∧ q' - q ≤ 0.009 := by
  have hl := (ring_all h3 h10).len
  exact moved_area (by omega) (by omega) (fun k hk => (ring_in h3 h10 (by omega)).1) hm ha a1 a2 hb b1 b2 h h'

/-- Any list of points within 8 whose rounds are closed has a finite area. -/
theorem ms_area_fin {n bx bY : Nat} {ms : List (Nat × Nat)} {a b : Rat} (h3 : 3 ≤ n) (h10 : n ≤ 10) (ha : FV .f32 bx a) (a1 : -2 ≤ a) (a2 : a ≤ 2) (hb : FV .f32 bY b) (b1 : -2 ≤ b) (b2 : b ≤ 2) (hm : MovR (rg n) ms bx bY) {r' : Nat} (h' : AreaR (cls ms) r') : fin .f32 r' = true := by
  have hl := (ring_all h3 h10).len
  have hml := hm.1
  have hl2 : (cls ms).length = n + 1 := by simp [cls, hml, hl]
  obtain ⟨q', q1', _⟩ := area_near (X := fun k => vw ((cls ms).getD k (0, 0)).1) (Y := fun k => vw ((cls ms).getD k (0, 0)).2) hl2 (by omega) (fun k hk => by
    obtain ⟨j, hj, hc⟩ := cls_at (zs := ms) (by omega) (show k < ms.length + 1 by omega)
    obtain ⟨⟨s1, s2⟩, _⟩ := ring_in h3 h10 (k := j) (by omega)
    obtain ⟨m1, m2⟩ := hm.2 j (by omega)
    obtain ⟨_, r1, _, f1, _, _, l1, l2, _⟩ := move_word s1 ha a1 a2 m1
    obtain ⟨_, r2, _, f2, _, _, l3, l4, _⟩ := move_word s2 hb b1 b2 m2
    show FV .f32 _ (vw _) ∧ FV .f32 _ (vw _) ∧ -8 ≤ vw _ ∧ vw _ ≤ 8 ∧ -8 ≤ vw _ ∧ vw _ ≤ 8
    rw [hc ms rfl, f1.vw, f2.vw]
    exact ⟨f1, f2, (in_b l1 l2).1, (in_b l1 l2).2, (in_b l3 l4).1, (in_b l3 l4).2⟩) h'
  exact fv_fin q1'

theorem fin_tab : ∀ n : Fin 8, (fin .f32 (arTab.getD n.val 0) && fin .f32 (abTab.getD n.val 0)) = true := by decide +kernel
theorem area_fin {n r : Nat} (h3 : 3 ≤ n) (h10 : n ≤ 10) (h : AreaR (cls (rg n)) r) : fin .f32 r = true := by
  have ht := fin_tab ⟨n - 3, by omega⟩
  rw [Bool.and_eq_true] at ht
  rw [areaO_eq (ring_all h3 h10).area h]
  exact ht.1
theorem area_fin_back {n r : Nat} (h3 : 3 ≤ n) (h10 : n ≤ 10) (h : AreaR (cls (rg n).reverse) r) : fin .f32 r = true := by
  have ht := fin_tab ⟨n - 3, by omega⟩
  rw [Bool.and_eq_true] at ht
  rw [areaO_eq (ring_all h3 h10).areaB h]
  exact ht.2
/-- What TurnsOfLoop makes of a ring, and of one taken the other way. -/
def tn (n : Nat) : Nat := (ssTab.getD (n - 3) []).getD n 0
def tnB (n : Nat) : Nat := (sbTab.getD (n - 3) []).getD n 0

theorem turns_ring {n : Nat} (h3 : 3 ≤ n) (h10 : n ≤ 10) (b off c : Nat) (w : World) (hA : RdC w (some ⟨b, off, none⟩) (rg n)) :
    Calls Try.prog 10 #[.slice (some ⟨b, off, none⟩) n c] w fun e w' => e = .returned (.tuple #[.float .f32 (tn n), .bool true]) ∧ Below w.heap.size w w' := by
  have t := ring_all h3 h10
  have hf := t.finT
  rw [Bool.and_eq_true] at hf
  obtain ⟨t1, t2⟩ := turnsOk_ok t.turns
  have h := turnsOfLoop_calls b off c (rg n) _ _ _ (by rw [t.len]; exact h3) (by rw [t.len]; omega) (ring_fin h3 h10) (by rw [t.len]; exact t1) (by rw [t.len]; exact t2) (by rw [t.len]; exact hf.1) w hA
  rw [t.len] at h
  exact h

theorem turns_back {n : Nat} (h3 : 3 ≤ n) (h10 : n ≤ 10) (b off c : Nat) (w : World) (hA : RdC w (some ⟨b, off, none⟩) (rg n).reverse) :
    Calls Try.prog 10 #[.slice (some ⟨b, off, none⟩) n c] w fun e w' => e = .returned (.tuple #[.float .f32 (tnB n), .bool true]) ∧ Below w.heap.size w w' := by
  have t := ring_all h3 h10
  have hl : (rg n).reverse.length = n := by rw [List.length_reverse]; exact t.len
  have hf := t.finT
  rw [Bool.and_eq_true] at hf
  obtain ⟨t1, t2⟩ := turnsOk_ok t.turnsB
  have h := turnsOfLoop_calls b off c (rg n).reverse _ _ _ (by rw [hl]; exact h3) (by rw [hl]; omega) (ring_back_fin h3 h10) (by rw [hl]; exact t1) (by rw [hl]; exact t2) (by rw [hl]; exact hf.2) w hA
  rw [hl] at h
  exact h

theorem wind_ring {n : Nat} (h3 : 3 ≤ n) (h10 : n ≤ 10) (b off c : Nat) (w : World) (hA : RdC w (some ⟨b, off, none⟩) (rg n)) :
    Calls Try.prog 11 #[.slice (some ⟨b, off, none⟩) n c, .complex .f32 1040187392 1031798784] w fun e w' => e = .returned (.tuple #[.int .i64 1, .bool true]) ∧ Below w.heap.size w w' := by
  have t := ring_all h3 h10
  have h := windingAt_calls b off c 1040187392 1031798784 (rg n) (by rw [t.len]; exact h3) (by rw [t.len]; omega) (ring_fin h3 h10) (by decide +kernel) (by decide +kernel) (by rw [t.len]; exact windOk_pieces t.windI) w hA
  rw [t.len] at h
  refine h.mono ?_
  rintro e w' ⟨v, rfl, hv, hb⟩
  rw [windOk_eq t.windI hv]
  exact ⟨rfl, hb⟩

theorem wind_out {n : Nat} (h3 : 3 ≤ n) (h10 : n ≤ 10) (b off c : Nat) (w : World) (hA : RdC w (some ⟨b, off, none⟩) (rg n)) :
    Calls Try.prog 11 #[.slice (some ⟨b, off, none⟩) n c, .complex .f32 1084227584 1031798784] w fun e w' => e = .returned (.tuple #[.int .i64 0, .bool true]) ∧ Below w.heap.size w w' := by
  have t := ring_all h3 h10
  have h := windingAt_calls b off c 1084227584 1031798784 (rg n) (by rw [t.len]; exact h3) (by rw [t.len]; omega) (ring_fin h3 h10) (by decide +kernel) (by decide +kernel) (by rw [t.len]; exact windOk_pieces t.windO) w hA
  rw [t.len] at h
  refine h.mono ?_
  rintro e w' ⟨v, rfl, hv, hb⟩
  rw [windOk_eq t.windO hv]
  exact ⟨rfl, hb⟩

theorem wind_back {n : Nat} (h3 : 3 ≤ n) (h10 : n ≤ 10) (b off c : Nat) (w : World) (hA : RdC w (some ⟨b, off, none⟩) (rg n).reverse) :
    Calls Try.prog 11 #[.slice (some ⟨b, off, none⟩) n c, .complex .f32 1040187392 1031798784] w fun e w' => e = .returned (.tuple #[.int .i64 (-1), .bool true]) ∧ Below w.heap.size w w' := by
  have t := ring_all h3 h10
  have hl : (rg n).reverse.length = n := by rw [List.length_reverse]; exact t.len
  have h := windingAt_calls b off c 1040187392 1031798784 (rg n).reverse (by rw [hl]; exact h3) (by rw [hl]; omega) (ring_back_fin h3 h10) (by decide +kernel) (by decide +kernel) (by rw [hl]; exact windOk_pieces t.windB) w hA
  rw [hl] at h
  refine h.mono ?_
  rintro e w' ⟨v, rfl, hv, hb⟩
  rw [windOk_eq t.windB hv]
  exact ⟨rfl, hb⟩

theorem area_ring {n : Nat} (h3 : 3 ≤ n) (h10 : n ≤ 10) (b off c : Nat) (w : World) (hA : RdC w (some ⟨b, off, none⟩) (rg n)) :
    Calls Try.prog 12 #[.slice (some ⟨b, off, none⟩) n c] w fun e w' => ∃ r, e = .returned (.tuple #[.float .f32 r, .bool true]) ∧ AreaR (cls (rg n)) r ∧ r < 4294967296 ∧ Below w.heap.size w w' := by
  have t := ring_all h3 h10
  have h := areaOfLoop_calls b off c (rg n) (by rw [t.len]; exact h3) (by rw [t.len]; omega) (ring_fin h3 h10) (fun r hr => area_fin h3 h10 hr) w hA
  rw [t.len] at h
  exact h

theorem area_back {n : Nat} (h3 : 3 ≤ n) (h10 : n ≤ 10) (b off c : Nat) (w : World) (hA : RdC w (some ⟨b, off, none⟩) (rg n).reverse) :
    Calls Try.prog 12 #[.slice (some ⟨b, off, none⟩) n c] w fun e w' => ∃ r, e = .returned (.tuple #[.float .f32 r, .bool true]) ∧ AreaR (cls (rg n).reverse) r ∧ r < 4294967296 ∧ Below w.heap.size w w' := by
  have t := ring_all h3 h10
  have hl : (rg n).reverse.length = n := by rw [List.length_reverse]; exact t.len
  have h := areaOfLoop_calls b off c (rg n).reverse (by rw [hl]; exact h3) (by rw [hl]; omega) (ring_back_fin h3 h10) (fun r hr => area_fin_back h3 h10 hr) w hA
  rw [hl] at h
  exact h

theorem area_moved {n bx bY : Nat} {ms : List (Nat × Nat)} {x y : Rat} (h3 : 3 ≤ n) (h10 : n ≤ 10) (ha : FV .f32 bx x ∧ -2 ≤ x ∧ x ≤ 2) (hb : FV .f32 bY y ∧ -2 ≤ y ∧ y ≤ 2) (hm : MovR (rg n) ms bx bY) (b off c : Nat) (w : World) (hA : RdC w (some ⟨b, off, none⟩) ms) :
    Calls Try.prog 12 #[.slice (some ⟨b, off, none⟩) n c] w fun e w' => ∃ r, e = .returned (.tuple #[.float .f32 r, .bool true]) ∧ AreaR (cls ms) r ∧ r < 4294967296 ∧ Below w.heap.size w w' := by
  have t := ring_all h3 h10
  have hl : ms.length = n := hm.1.trans t.len
  have h := areaOfLoop_calls b off c ms (by rw [hl]; exact h3) (by rw [hl]; omega) (moved_fin h3 h10 ha.1 ha.2.1 ha.2.2 hb.1 hb.2.1 hb.2.2 hm) (fun r hr => ms_area_fin h3 h10 ha.1 ha.2.1 ha.2.2 hb.1 hb.2.1 hb.2.2 hm hr) w hA
  rw [hl] at h
  exact h

theorem all8_back {ps : List (Nat × Nat)} (h : All8 0 ps) : All8 0 ps.reverse := by
  intro i hi
  rw [List.length_reverse] at hi
  rw [getD_back hi]
  exact h _ (by omega)

end Rg
end Go.Proofs.Ytbdmmpkphiilkaa

namespace Go.Proofs.Ytbdmmpkphiilkaa
open Go.RowKit Fl Ieee
attribute [local go_sem] run_store_c run_store_f

set_option maxRecDepth 100000 in
set_option maxHeartbeats 4000000 in
theorem areaUnder_calls (A B : Option Addr) (ps : List (Nat × Nat)) (c1 c2 : Nat) (h2 : 2 ≤ ps.length) (hn : ps.length ≤ 5) (h8 : All8 0 ps) (w : World) (hA : RdC w A ps) (hB : RdOne w B ps.length) :
    Calls Try.prog 14 #[.agg #[.slice A ps.length c1, .slice B ps.length c2], .int .i64 12] w fun e w' => ∃ (zs : List (Nat × Nat)) (r : Nat), zs.length = 13 ∧ PtsR ps 12 13 zs ∧ AreaR zs r ∧ e = .returned (.tuple #[.float .f32 r, .bool true]) ∧ r < 4294967296 ∧ Below w.heap.size w w' := by
  obtain ⟨W, hW⟩ : ∃ W, W = w.alloc (Obj.cells #[.slice A ps.length c1, .slice B ps.length c2] 37) := ⟨_, rfl⟩
  have hBW : Below w.heap.size w W := by rw [hW]; exact (Below.refl _ w).alloc (Nat.le_refl _) _
  have HP := pointsOfPieces_calls A B ps c1 c2 12 (by omega) (by omega) tq12 h2 (by omega) h8 W (hA.below hBW) (hB.below hBW)
  rw [show ((12 : Nat) : Int) = 12 from rfl] at HP
  have HP := Frame.hid HP
  have HBW := Frame.hid hBW
  have H8 := Frame.hid h8
  clear hA hB h8 hBW
  go_enter Try.func14, Try.ntmps14
  go_wp2_with fail
  rw [← hW]
  clear hW
  refine HP.out.mono ?_
  rintro e w1 ⟨g, zs, hl, hp, hz, rfl, hO, hb⟩
  have HB := Frame.hid (HBW.out.trans (hb.mono HBW.out.size))
  have HAB := Frame.hid (areaBeside_calls zs (some ⟨g, 0, none⟩) (12 + 1) (by omega) (by omega) (fun r hr => by
    obtain ⟨q, q1, _⟩ := area_near (n := 12) hl (Nat.le_refl _) (pts_vals h2 hn H8.out hp) hr
    exact fv_fin q1) w1 hO.rd')
  rw [hl] at HAB
  have HP2 := Frame.hid hp
  clear hp hz hO hb HP
  go_wp2_with fail
  refine HAB.out.mono ?_
  rintro e w2 ⟨r, rfl, hr, hlr, m, rfl⟩
  have HR := Frame.hid hr
  have HL : Unit → r < 4294967296 := fun _ => hlr
  clear hr hlr
  go_wp2_with fail
  go_ret2
  exact ⟨zs, r, hl, HP2.out, HR.out, rfl, HL (), below_drewN HB.out m⟩

end Go.Proofs.Ytbdmmpkphiilkaa

namespace Go.Proofs.Ytbdmmpkphiilkaa
open Go.RowKit Go.WideShapes Fl Ieee
attribute [local go_sem] unary_neg_f

theorem opp_gap {q r : Rat} (h3 : -0.006 ≤ q + r) (h4 : q + r ≤ 0.006) : -0.009 ≤ q - -r ∧ q - -r ≤ 0.009 := by constructor <;> grind
def RingAt (n bx bY : Nat) (w : World) (vB vR vM i : Value) (wr : World) : Prop :=
  ∃ (q : Nat) (ms : List (Nat × Nat)), q ≤ n ∧ i = .int .i64 q ∧ ms.length = q ∧ (∀ k, k < q → FOp .add .f32 ((Rg.rg n).getD k (0, 0)).1 bx (ms.getD k (0, 0)).1 ∧ FOp .add .f32 ((Rg.rg n).getD k (0, 0)).2 bY (ms.getD k (0, 0)).2) ∧ Three w vR vB vM ((Rg.rg n).take q) [] ms wr

def BackRingAt (n : Nat) (w : World) (vR vM : Value) (ms : List (Nat × Nat)) (vB i : Value) (wr : World) : Prop :=
  ∃ p : Nat, p ≤ n ∧ i = .int .i64 ((n : Int) - 1 - (p : Int)) ∧ Three w vR vB vM (Rg.rg n) ((Rg.rg n).reverse.take p) ms wr

set_option maxRecDepth 100000 in
set_option maxHeartbeats 8000000 in
theorem loops_law (A B : Option Addr) (zs ys : List Nat) (c d : Nat) (hz : zs.length ≤ 1048576) (hy : ys.length ≤ 1048576) (w : World) (hA : RdB w A zs) (hB : RdB w B ys) :
    Calls Try.prog 3 #[.slice A zs.length c, .slice B ys.length d] w fun e w' => e = .returned (.bool true) ∧ Below w.heap.size w w' := by
  obtain ⟨i0, hi, hz0, hz1, hz2⟩ := info_parts Try.infoC
  have HA := Frame.hid hA
  have HB := Frame.hid hB
  have HZ := Frame.hid hz
  have HY := Frame.hid hy
  have hL : (decide (1048576 < (zs.length : Int)) || decide (1048576 < (ys.length : Int))) = false := by
    rw [Bool.or_eq_false_iff, decide_eq_false_iff_not, decide_eq_false_iff_not]; omega
  have HL := Frame.hid hL
  clear hA hB hz hy hL
  go_enter Try.func3, Try.ntmps3
  go_wp2_with fail
  refine (b10Long_l _ _ _ _ _ _ (by have := HZ.out; unfold maxLen; omega) (by have := HY.out; unfold maxLen; omega) _).mono ?_
  rintro e w0 ⟨rfl, rfl⟩
  rw [HL.out]
  go_wp2_with fail
  refine (b10At_l 0 8 (by omega) (by omega) (by omega) B ys d HY.out _ HB.out).mono ?_
  rintro e w1 ⟨n0, hn0, rfl, rfl⟩
  go_wp2_with fail
  refine (b10At_l 1 17 (by omega) (by omega) (by omega) B ys d HY.out _ (HB.out.under (Three.start w).below)).mono ?_
  rintro e w1 ⟨k1, hk1, rfl, rfl⟩
  have H3 := Frame.hid (Three.start w)
  obtain ⟨W, hW⟩ : ∃ W, W = ((w.alloc (.cells #[] 26)).alloc (.cells #[] 26)).alloc (.cells #[] 26) := ⟨_, rfl⟩
  rw [← hW] at H3 ⊢
  clear hW
  obtain ⟨f1, hx8⟩ := qword_at (i := (k1 : Int) - 8) (by omega) (by omega)
  have f2 := ta f1
  clear f1 hx8
  go_wp2_with fail
  refine (b10At_l 2 17 (by omega) (by omega) (by omega) B ys d HY.out _ (HB.out.under H3.out.below)).mono ?_
  rintro e w1 ⟨k2, hk2, rfl, rfl⟩
  obtain ⟨f1, hx8⟩ := qword_at (i := (k2 : Int) - 8) (by omega) (by omega)
  have f3 := ta f1
  clear f1 hx8
  go_wp2_with fail
  obtain ⟨n, hn⟩ : ∃ n : Nat, n = 3 + n0 := ⟨_, rfl⟩
  have hni : (3 : Int) + (n0 : Int) = (n : Int) := by omega
  have hn3 : 3 ≤ n := by omega
  have hn10 : n ≤ 10 := by omega
  rw [hni]
  clear hni hn hn0 f2 f3
  obtain ⟨a, ha, a1, a2⟩ := by_at hk1
  obtain ⟨b, hb, b1, b2⟩ := by_at hk2
  obtain ⟨bx, hbx⟩ : ∃ x, x = qword ((k1 : Int) - 8) := ⟨_, rfl⟩
  obtain ⟨bY, hbY⟩ : ∃ x, x = qword ((k2 : Int) - 8) := ⟨_, rfl⟩
  have HBX : Hid (FV .f32 bx a ∧ -2 ≤ a ∧ a ≤ 2) := Frame.hid ⟨by rw [hbx]; exact ha, a1, a2⟩
  have HBY : Hid (FV .f32 bY b ∧ -2 ≤ b ∧ b ≤ 2) := Frame.hid ⟨by rw [hbY]; exact hb, b1, b2⟩
  rw [← hbx, ← hbY]
  clear hbx hbY ha a1 a2 hb b1 b2 hk1 hk2
  have HLEN := Frame.hid (Rg.ring_all hn3 hn10).len
  go_loopw [6, 8, 10] (fun vR vM i wr => RingAt n bx bY w (.slice (some ⟨w.heap.size + 1, 0, none⟩) 0 0) vR vM i wr) (fun _ _ i _ => n - (intOf i).toNat)
  case atStart => exact ⟨0, [], Nat.zero_le _, rfl, rfl, fun k hk => absurd hk (by omega), H3.out⟩
  case round =>
    obtain ⟨q, ms, hq, rfl, hml, hms, hT⟩ := hrel
    have HT := Frame.hid hT
    have HMS := Frame.hid hms
    clear hms hT
    by_cases hlt : q < n
    · have hlt2 : (q : Int) < (n : Int) := by omega
      obtain ⟨y, hy, hyl, hph⟩ := Rg.ring_at hn3 hn10 hlt
      have hty := ta hy
      have HPH := Frame.hid hph
      have HYL : Unit → y < 2 ^ FloatKind.f64.format.width := fun _ => hyl
      clear hph hy hyl
      go_wp2_with fail
      refine (specPhasor_calls y (HYL ()) _).mono ?_
      rintro e w2 ⟨re, im, m1, rfl, hp, _, _, rfl⟩
      obtain ⟨g1, g2⟩ := HPH.out re im hp
      have HG := Frame.hid (And.intro g1 g2)
      clear hp g1 g2
      go_wp2_with fail
      refine (scale_calls re im 1073741824 _).mono ?_
      rintro e w3 ⟨z1, z2, m2, rfl, ⟨h1, h2⟩, _, _, rfl⟩
      have hz : (z1, z2) = (Rg.rg n).getD q (0, 0) := by
        obtain ⟨g1, g2⟩ := HG.out
        rw [fop_eq g1 h1, fop_eq g2 h2]
      have HZZ := Frame.hid hz
      obtain ⟨r1, r2, m3, m4⟩ := Rg.moved_at hn3 hn10 hlt HBX.out.1 HBY.out.1
      rw [← hz] at m3 m4
      have hadd := tc (op := .add) (.inl rfl) m3 m4
      have HMV := Frame.hid (And.intro m3 m4)
      clear h1 h2 hz m3 m4 hty
      have HT2 := Frame.hid ((HT.out.drew m1).drew m2)
      obtain ⟨W2, hW2⟩ : ∃ W2, W2 = (wr.drewN m1).drewN m2 := ⟨_, rfl⟩
      rw [← hW2] at HT2 ⊢
      clear hW2
      have hlen : ((Rg.rg n).take q).length = q := by have := HLEN.out; rw [List.length_take]; omega
      have hO1 := HT2.out.r
      rw [hlen] at hO1
      have hsz := HT2.out.below.size
      go_wp2_with (first
        | (at_builtin; refine wpList_append_own_at _ rfl _ _ 25 rfl w.heap.size 26 i0 (.complex .f32 0 0) 1 8 Try.underlying25 hi hz0 hz1 hz2 rfl (by decide) _ _ _ rfl (hO1.alloc _) ⟨W2.heap.size, 0, none⟩ 1 1 [.complex .f32 z1 z2] rfl rfl (cell_one_new _ _ _) (fun x hx => by simp at hx; subst hx; rfl) (by unfold maxLen; omega) (by omega) (by simp; omega) ?_; intro v4 w4 hown4 hgrow4 hnil4 hat4; have HT3 := Frame.hid (HT2.out.appR _ hgrow4 (z := (z1, z2)) (by rw [hlen]; exact hown4) hat4); have hO3 := HT3.out.m; rw [hml] at hO3; have hsz4 := HT3.out.below.size)
        | (at_builtin; refine wpList_append_own_at _ rfl _ _ 25 rfl w.heap.size 26 i0 (.complex .f32 0 0) 1 8 Try.underlying25 hi hz0 hz1 hz2 rfl (by decide) _ _ _ rfl (hO3.alloc _) ⟨w4.heap.size, 0, none⟩ 1 1 [.complex .f32 r1 r2] rfl rfl (cell_one_new _ _ _) (fun x hx => by simp at hx; subst hx; rfl) (by unfold maxLen; omega) (by omega) (by simp; omega) ?_; intro v5 w5 hown5 hgrow5 hnil5 hat5))
      have HT5 := Frame.hid (HT3.out.swapM.appR _ hgrow5 (z := (r1, r2)) (by rw [hml]; exact hown5) hat5).swapM
      clear hown4 hown5 hgrow4 hgrow5 hnil4 hnil5 hat4 hat5 hO1 hO3 hsz hsz4 hadd
      go_roundw
      case rel =>
        refine ⟨q + 1, ms ++ [(r1, r2)], by omega, by go_num, by simp [hml], fun k hk => ?_, ?_⟩
        · by_cases e : k < ms.length
          · rw [List.getD_eq_getElem?_getD (l := ms ++ _), List.getElem?_append_left e, ← List.getD_eq_getElem?_getD]
            exact HMS.out k (by omega)
          · have e2 : k = ms.length := by omega
            subst e2
            rw [List.getD_eq_getElem?_getD (l := ms ++ _), List.getElem?_append_right (Nat.le_refl _), Nat.sub_self]
            have hz := HZZ.out
            rw [← hml] at hz
            rw [← hz]
            exact ⟨fop_mk HMV.out.1, fop_mk HMV.out.2⟩
        · have hl := HLEN.out
          have ht : (Rg.rg n).take (q + 1) = (Rg.rg n).take q ++ [(z1, z2)] := by
            rw [HZZ.out, List.take_add_one, List.getElem?_eq_getElem (by omega), List.getD_eq_getElem?_getD, List.getElem?_eq_getElem (by omega)]
            rfl
          rw [ht]
          exact HT5.out
      case measure => simp [intOf]; omega
    · have hqn : q = n := by omega
      rw [hqn] at HT HMS hml ⊢
      have HM : Hid (MovR (Rg.rg n) ms bx bY) := Frame.hid ⟨by rw [hml]; exact HLEN.out.symm, fun k hk => HMS.out k (by have := HLEN.out; omega)⟩
      have hT := HT.out
      rw [List.take_of_length_le (by have := HLEN.out; omega)] at hT
      obtain ⟨g, cap, rfl⟩ := own_slice hT.r (by have := HLEN.out; omega)
      obtain ⟨gm, capm, rfl⟩ := own_slice hT.m (by omega)
      rw [HLEN.out, hml] at hT ⊢
      have HT0 := Frame.hid hT
      clear HT hT HMS hq hqn hlt
      go_wp2_with fail
      go_loopw [7, 12] (fun vB i wr => BackRingAt n w (.slice (some ⟨g, 0, none⟩) n cap) (.slice (some ⟨gm, 0, none⟩) n capm) ms vB i wr) (fun _ i _ => (intOf i + 1).toNat)
      case atStart => exact ⟨0, Nat.zero_le _, by simp, HT0.out⟩
      case round =>
        obtain ⟨p, hp, rfl, hT⟩ := hrel
        have HT := Frame.hid hT
        by_cases hlt : p < n
        · obtain ⟨j, hj⟩ : ∃ j, j = n - 1 - p := ⟨_, rfl⟩
          have hji : (n : Int) - 1 - (p : Int) = (j : Int) := by omega
          have hjn : (j : Int) < (n : Int) := by omega
          have hjN : j < n := by omega
          rw [hji]
          obtain ⟨z1, hz1'⟩ : ∃ x, x = ((Rg.rg n).getD j (0, 0)).1 := ⟨_, rfl⟩
          obtain ⟨z2, hz2'⟩ : ∃ x, x = ((Rg.rg n).getD j (0, 0)).2 := ⟨_, rfl⟩
          have k7 : wr.cell? ⟨g, j, none⟩ = some (.complex .f32 z1 z2) := by
            rw [hz1', hz2']
            have hO : OwnC wr w.heap.size (.slice (some ⟨g, 0, none⟩) n cap) (Rg.rg n) := hT.r
            exact hO.cell HLEN.out.symm (by have := HLEN.out; omega)
          have hzz : (z1, z2) = (Rg.rg n).getD j (0, 0) := by rw [hz1', hz2']
          have HZZ := Frame.hid hzz
          have HJ := Frame.hid hj
          have hlen : ((Rg.rg n).reverse.take p).length = p := by have := HLEN.out; rw [List.length_take, List.length_reverse]; omega
          have hO1 := hT.b
          rw [hlen] at hO1
          have hsz := hT.below.size
          clear hT hz1' hz2' hzz hj hji
          go_wp2_with (at_builtin; refine wpList_append_own_at _ rfl _ _ 25 rfl w.heap.size 26 i0 (.complex .f32 0 0) 1 8 Try.underlying25 hi hz0 hz1 hz2 rfl (by decide) _ _ _ rfl (hO1.alloc _) ⟨wr.heap.size, 0, none⟩ 1 1 [.complex .f32 z1 z2] rfl rfl (cell_one_new _ _ _) (fun x hx => by simp at hx; subst hx; rfl) (by unfold maxLen; omega) (by omega) (by simp; omega) ?_; intro v4 w4 hown4 hgrow4 hnil4 hat4)
          have HT4 := Frame.hid (HT.out.swapB.appR _ hgrow4 (z := (z1, z2)) (by rw [hlen]; exact hown4) hat4).swapB
          clear hown4 hgrow4 hnil4 hat4 hO1 hsz k7
          refine ⟨⟨p + 1, by omega, by have := HJ.out; congr 1; omega, ?_⟩, by simp [intOf]⟩
          have ht : (Rg.rg n).reverse.take (p + 1) = (Rg.rg n).reverse.take p ++ [(z1, z2)] := by
            have hl := HLEN.out
            rw [HZZ.out, HJ.out, List.take_add_one, List.getElem?_reverse (by omega), List.getD_eq_getElem?_getD, hl]
            rw [List.getElem?_eq_getElem (by omega)]
            rfl
          rw [ht]
          exact HT4.out
        · have hpn : p = n := by omega
          rw [hpn] at hT ⊢
          have hneg : (n : Int) - 1 - (n : Int) = -1 := by omega
          rw [hneg]
          rw [List.take_of_length_le (by have := HLEN.out; rw [List.length_reverse]; omega)] at hT
          obtain ⟨gb, capb, rfl⟩ := own_slice hT.b (by have := HLEN.out; rw [List.length_reverse]; omega)
          rw [List.length_reverse, HLEN.out] at hT ⊢
          have hR : RdC wr (some ⟨g, 0, none⟩) (Rg.rg n) := OwnC.rd' (w := wr) hT.r
          have hB : RdC wr (some ⟨gb, 0, none⟩) (Rg.rg n).reverse := OwnC.rd' (w := wr) hT.b
          have hM : RdC wr (some ⟨gm, 0, none⟩) ms := OwnC.rd' (w := wr) hT.m
          have HR := Frame.hid (fun (X : World) (hb : Below wr.heap.size wr X) => RdC.below hR hb)
          have HRB := Frame.hid (fun (X : World) (hb : Below wr.heap.size wr X) => RdC.below hB hb)
          have HRM := Frame.hid (fun (X : World) (hb : Below wr.heap.size wr X) => RdC.below hM hb)
          have HW := Frame.hid hT.below
          clear hT hR hB hM HT hpn hneg hlt hp
          go_wp2_with fail
          refine (Rg.turns_ring hn3 hn10 g 0 cap _ (HR.out _ (Below.refl _ _))).mono ?_
          rintro e w1 ⟨rfl, hb⟩
          have HB1 := Frame.hid hb
          clear hb
          go_wp2_with fail
          refine (Rg.turns_back hn3 hn10 gb 0 capb _ (HRB.out _ HB1.out)).mono ?_
          rintro e w2 ⟨rfl, hb⟩
          have HB2 := Frame.hid (HB1.out.trans (hb.mono HB1.out.size))
          clear hb
          go_wp2_with fail
          refine (Rg.wind_ring hn3 hn10 g 0 cap _ (HR.out _ HB2.out)).mono ?_
          rintro e w3 ⟨rfl, hb⟩
          have HB3 := Frame.hid (HB2.out.trans (hb.mono HB2.out.size))
          clear hb
          go_wp2_with fail
          refine (Rg.wind_out hn3 hn10 g 0 cap _ (HR.out _ HB3.out)).mono ?_
          rintro e w4 ⟨rfl, hb⟩
          have HB4 := Frame.hid (HB3.out.trans (hb.mono HB3.out.size))
          clear hb
          go_wp2_with fail
          refine (Rg.wind_back hn3 hn10 gb 0 capb _ (HRB.out _ HB4.out)).mono ?_
          rintro e w5 ⟨rfl, hb⟩
          have HB5 := Frame.hid (HB4.out.trans (hb.mono HB4.out.size))
          clear hb
          go_wp2_with fail
          refine (Rg.area_ring hn3 hn10 g 0 cap _ (HR.out _ HB5.out)).mono ?_
          rintro e w6 ⟨ar, rfl, har, _, hb⟩
          have HB6 := Frame.hid (HB5.out.trans (hb.mono HB5.out.size))
          clear hb
          have HAR := Frame.hid har
          clear har
          go_wp2_with fail
          refine (Rg.area_moved hn3 hn10 HBX.out HBY.out HM.out gm 0 capm _ (HRM.out _ HB6.out)).mono ?_
          rintro e w7 ⟨am, rfl, ham, _, hb⟩
          have HB7 := Frame.hid (HB6.out.trans (hb.mono HB6.out.size))
          clear hb
          have HAM := Frame.hid ham
          clear ham
          go_wp2_with fail
          refine (Rg.area_back hn3 hn10 gb 0 capb _ (HRB.out _ HB7.out)).mono ?_
          rintro e w8 ⟨ab, rfl, hab, _, hb⟩
          have HB8 := Frame.hid (HB7.out.trans (hb.mono HB7.out.size))
          clear hb
          have HAB := Frame.hid hab
          clear hab
          go_wp2_with fail
          have HW8 := Frame.hid (HW.out.trans (HB8.out.mono HW.out.size))
          clear HB1 HB2 HB3 HB4 HB5 HB6 HB7 HB8 HR HRB HRM
          refine (b10At_l 3 4 (by omega) (by omega) (by omega) B ys d HY.out _ (HB.out.under HW8.out)).mono ?_
          rintro e w9 ⟨k4, hk4, rfl, rfl⟩
          go_wp2_with fail
          obtain ⟨m, hm⟩ : ∃ m : Nat, m = 1 + k4 := ⟨_, rfl⟩
          have hmi : (1 : Int) + (k4 : Int) = (m : Int) := by omega
          have hm1 : 1 ≤ m := by omega
          have hm4 : m ≤ 4 := by omega
          rw [hmi]
          clear hmi hm hk4
          refine (b10Curve_calls A zs c m hm1 hm4 HZ.out _ (HA.out.under HW8.out)).mono ?_
          rintro e w9 ⟨gc, cA, gc', cB, ps, hl, h8, rfl, hcA, hcB, hb⟩
          have HW9 := Frame.hid (HW8.out.trans (hb.mono HW8.out.size))
          obtain ⟨W9, hW9⟩ : ∃ W9, W9 = w9.alloc (Obj.cells #[.slice (some ⟨gc, 0, none⟩) (m + 1) cA, .slice (some ⟨gc', 0, none⟩) (m + 1) cB] 37) := ⟨_, rfl⟩
          have hb9 : Below w9.heap.size w9 W9 := by rw [hW9]; exact (Below.refl _ _).alloc (Nat.le_refl _) _
          have hcA9 := hcA.below hb9
          have hcB9 := hcB.below hb9
          have hc0 : W9.cell? ⟨w9.heap.size, 0, none⟩ = some (.slice (some ⟨gc, 0, none⟩) (m + 1) cA) := by rw [hW9, World.cell?_alloc_at _ _ _ _ rfl]; rfl
          have hc1 : W9.cell? ⟨w9.heap.size, 1, none⟩ = some (.slice (some ⟨gc', 0, none⟩) (m + 1) cB) := by rw [hW9, World.cell?_alloc_at _ _ _ _ rfl]; rfl
          have hlt9 : w9.heap.size < W9.heap.size := by rw [hW9]; simp
          have HBX9 := Frame.hid (fun (X : World) (hb : Below W9.heap.size W9 X) => And.intro ((hb.cell (p := ⟨w9.heap.size, 0, none⟩) hlt9).trans hc0) ((hb.cell (p := ⟨w9.heap.size, 1, none⟩) hlt9).trans hc1))
          have HV9 := Frame.hid (HW9.out.trans (hb9.mono HW9.out.size))
          have hau := areaUnder_calls (some ⟨gc, 0, none⟩) (some ⟨gc', 0, none⟩) ps cA cB (by omega) (by omega) h8 W9 hcA9 hcB9
          rw [hl] at hau
          have HAU := Frame.hid hau
          have HCA := Frame.hid hcA9
          have HCB := Frame.hid hcB9
          have H8 := Frame.hid h8
          have HPL := Frame.hid hl
          clear hau hcA hcB hcA9 hcB9 h8 hl hb hb9 hc0 hc1 hlt9
          go_wp2_with fail
          rw [← hW9]
          refine HAU.out.mono ?_
          rintro e w10 ⟨us, un, hul, huP, huA, rfl, _, hb⟩
          have HW10 := Frame.hid (HV9.out.trans (hb.mono HV9.out.size))
          obtain ⟨c0, c1⟩ := HBX9.out _ hb
          have HU := Frame.hid (And.intro hul (And.intro huP huA))
          have hbc := backCurve_calls (some ⟨gc, 0, none⟩) (some ⟨gc', 0, none⟩) ps cA cB (by have := HPL.out; omega) (by have := HPL.out; omega) H8.out.fin w10 (HCA.out.below hb) (HCB.out.below hb)
          rw [HPL.out] at hbc
          have HBC := Frame.hid hbc
          clear hb hul huP huA hbc HAU
          go_wp2_with fail
          clear c0 c1
          refine HBC.out.mono ?_
          rintro e w11 ⟨gd, d1, gd', d2, rfl, hdA, hdB, hb⟩
          have HW11 := Frame.hid (HW10.out.trans (hb.mono HW10.out.size))
          have hrl : ps.reverse.length = m + 1 := by rw [List.length_reverse]; exact HPL.out
          obtain ⟨W11, hW11⟩ : ∃ W11, W11 = w11.alloc (Obj.cells #[.slice (some ⟨gd, 0, none⟩) (m + 1) d1, .slice (some ⟨gd', 0, none⟩) (m + 1) d2] 37) := ⟨_, rfl⟩
          have hb11 : Below w11.heap.size w11 W11 := by rw [hW11]; exact (Below.refl _ _).alloc (Nat.le_refl _) _
          have HV11 := Frame.hid (HW11.out.trans (hb11.mono HW11.out.size))
          have hau := areaUnder_calls (some ⟨gd, 0, none⟩) (some ⟨gd', 0, none⟩) ps.reverse d1 d2 (by omega) (by omega) (Rg.all8_back H8.out) W11 (hdA.below hb11) (by rw [hrl]; exact hdB.below hb11)
          rw [hrl] at hau
          have HAU := Frame.hid hau
          clear hb hdA hdB hrl hau HBC hb11
          go_wp2_with fail
          rw [← hW11]
          refine HAU.out.mono ?_
          rintro e w12 ⟨vs, ov, hvl, hvP, hvA, rfl, _, hb⟩
          have HW12 := Frame.hid (HV11.out.trans (hb.mono HV11.out.size))
          have HOP : Hid (∃ q q', FV .f32 un q ∧ FV .f32 ov q' ∧ -0.006 ≤ q + q' ∧ q + q' ≤ 0.006) := Frame.hid (area_opposite (by have := HPL.out; omega) (by have := HPL.out; omega) H8.out (Rg.all8_back H8.out) HU.out.1 hvl HU.out.2.1 hvP HU.out.2.2 hvA)
          clear hb hvl hvP hvA HAU HU HCA HCB H8 HPL HW8 HW9 HW10 HW11
          have HAREA := Frame.hid (Rg.moved_areas hn3 hn10 HBX.out.1 HBX.out.2.1 HBX.out.2.2 HBY.out.1 HBY.out.2.1 HBY.out.2.2 HM.out HAR.out HAM.out)
          have HE := Frame.hid (And.intro (Rg.areaO_eq (Rg.ring_all hn3 hn10).area HAR.out) (Rg.areaO_eq (Rg.ring_all hn3 hn10).areaB HAB.out))
          have hmore : FloatKind.f32.format.order ar 0 = some Ordering.gt := by rw [HE.out.1]; exact eq_of_beq (Rg.ring_all hn3 hn10).more
          clear HAR HAM HAB HLEN H3 HBX HBY HM HT0
          go_wp2_with fail
          refine upon_conv _ _ .f32 .f64 _ (by decide) (.inl rfl) (by kernel_rfl) (by kernel_rfl) ?_
          intro x1 n1 hx1 _
          have HX1 := Frame.hid hx1
          clear hx1
          go_wp2_with fail
          refine (b10Gap_l x1 4607182418800017408 _).mono ?_
          rintro e v1 ⟨y1, m1, rfl, hy1, _, rfl⟩
          have ho1 : FloatKind.f64.format.order y1 4562254508917369340 = some Ordering.lt := Rg.nearW_ok (Rg.ring_all hn3 hn10).one HX1.out hy1
          clear hy1 HX1
          go_wp2_with fail
          clear ho1
          refine upon_conv _ _ .f32 .f64 _ (by decide) (.inl rfl) (by kernel_rfl) (by kernel_rfl) ?_
          intro x2 n2 hx2 _
          have HX2 := Frame.hid hx2
          clear hx2
          go_wp2_with fail
          refine (b10Gap_l x2 13830554455654793216 _).mono ?_
          rintro e v2 ⟨y2, m2, rfl, hy2, _, rfl⟩
          have ho2 : FloatKind.f64.format.order y2 4562254508917369340 = some Ordering.lt := Rg.nearW_ok (Rg.ring_all hn3 hn10).oneB HX2.out hy2
          clear hy2 HX2
          go_wp2_with fail
          clear ho2 hmore
          refine upon_conv _ _ .f32 .f64 _ (by decide) (.inl rfl) (by kernel_rfl) (by kernel_rfl) ?_
          intro x3 n3 hx3 _
          have HX3 := Frame.hid hx3
          clear hx3
          go_wp2_with fail
          refine upon_conv _ _ .f32 .f64 _ (by decide) (.inl rfl) (by kernel_rfl) (by kernel_rfl) ?_
          intro x4 n4 hx4 _
          have HX4 := Frame.hid hx4
          clear hx4
          go_wp2_with fail
          refine (b10Gap_l x3 x4 _).mono ?_
          rintro e v3 ⟨y3, m3, rfl, hy3, _, rfl⟩
          have ho3 : FloatKind.f64.format.order y3 4576918229304087675 = some Ordering.lt := by
            obtain ⟨q, q', h1, h2, h3, h4⟩ := HAREA.out
            exact gap_small (h2.wide HX3.out) (h1.wide HX4.out) hy3 h3 h4
          clear hy3 HX3 HX4 HAREA
          go_wp2_with fail
          clear ho3
          refine upon_conv _ _ .f32 .f64 _ (by decide) (.inl rfl) (by kernel_rfl) (by kernel_rfl) ?_
          intro x5 n5 hx5 _
          have HX5 := Frame.hid hx5
          clear hx5
          go_wp2_with fail
          refine upon_conv _ _ .f32 .f64 _ (by decide) (.inl rfl) (by kernel_rfl) (by kernel_rfl) ?_
          intro x6 n6 hx6 _
          have HX6 := Frame.hid hx6
          clear hx6
          go_wp2_with fail
          refine (b10Gap_l x5 (Op.negFloat .f64 x6) _).mono ?_
          rintro e v4 ⟨y4, m4, rfl, hy4, _, rfl⟩
          have ho4 : FloatKind.f64.format.order y4 4562254508917369340 = some Ordering.lt := by
            have h1 := HX5.out
            have h2 := HX6.out
            rw [HE.out.2] at h1
            rw [HE.out.1] at h2
            exact Rg.nearN_ok (Rg.ring_all hn3 hn10).opp h1 h2 hy4
          clear hy4 HX5 HX6
          go_wp2_with fail
          clear ho4
          refine upon_conv _ _ .f32 .f64 _ (by decide) (.inl rfl) (by kernel_rfl) (by kernel_rfl) ?_
          intro x7 n7 hx7 _
          have HX7 := Frame.hid hx7
          clear hx7
          go_wp2_with fail
          refine upon_conv _ _ .f32 .f64 _ (by decide) (.inl rfl) (by kernel_rfl) (by kernel_rfl) ?_
          intro x8 n8 hx8 _
          have HX8 := Frame.hid hx8
          clear hx8
          go_wp2_with fail
          refine (b10Gap_l x7 (Op.negFloat .f64 x8) _).mono ?_
          rintro e v5 ⟨y5, m5, rfl, hy5, _, rfl⟩
          have ho5 : FloatKind.f64.format.order y5 4576918229304087675 = some Ordering.lt := by
            obtain ⟨q, q', h1, h2, h3, h4⟩ := HOP.out
            exact gap_small (h1.wide HX7.out) (fv_neg64 (h2.wide HX8.out)) hy5 (opp_gap h3 h4).1 (opp_gap h3 h4).2
          clear hy5 HX7 HX8
          go_wp2_with fail
          go_ret
          exact ⟨rfl, below_drewN HW12.out _⟩

set_option maxRecDepth 100000 in
theorem fnLoops_walk (A : Option Addr) (zs : List Nat) (c : Nat) (B : Option Addr) (ys : List Nat) (d : Nat) (hz : zs.length ≤ maxLen) (hy : ys.length ≤ maxLen) (w : World) (hA : RdB w A zs) (hB : RdB w B ys) :
    Calls Try.prog 3 #[.slice A zs.length c, .slice B ys.length d] w fun e w' => e = .returned (.bool true) ∧ Below w.heap.size w w' := by
  by_cases h : zs.length ≤ 1048576 ∧ ys.length ≤ 1048576
  · exact loops_law A B zs ys c d h.1 h.2 w hA hB
  · have hL : (decide (1048576 < (zs.length : Int)) || decide (1048576 < (ys.length : Int))) = true := by
      rw [Bool.or_eq_true, decide_eq_true_eq, decide_eq_true_eq]; omega
    clear hA hB h
    go_enter Try.func3, Try.ntmps3
    go_wp2_with fail
    refine (b10Long_l _ _ _ _ _ _ hz hy _).mono ?_
    rintro e w0 ⟨rfl, rfl⟩
    rw [hL]
    go_wp2_with fail
    go_ret
    exact ⟨rfl, Below.refl _ _⟩

end Go.Proofs.Ytbdmmpkphiilkaa
