/-
  How often a loop goes around a point, as the program makes it.
-/
/-
  How often a loop turns, as the program makes it.
-/
import Derived.Test.YtbdmmpkphiilkaaLo
import Derived.Test.YtbdmmpkphiilkaaMu
import Derived.Test.YtbdmmpkphiilkaaMw
import Derived.Test.YtbdmmpkphiilkaaAz
import Derived.Deep.QuietTactic
import Derived.BigQuiet
namespace Go.Proofs.Ytbdmmpkphiilkaa
open Go.RowKit Fl Ieee
attribute [local go_sem] run_store_c run_store_f

def leC (a b : Nat) : Bool := FloatKind.f32.format.order a b == some Ordering.lt || FloatKind.f32.format.order a b == some Ordering.eq
def gtC (a b : Nat) : Bool := FloatKind.f32.format.order a b == some Ordering.gt
def ltC (a b : Nat) : Bool := FloatKind.f32.format.order a b == some Ordering.lt
/-- What a piece from p to q adds. -/
def turnAt (p q z : Nat × Nat) (s : Nat) : Int := if (leC p.2 z.2 && gtC q.2 z.2 && gtC s 0) = true then 1 else if (gtC p.2 z.2 && leC q.2 z.2 && ltC s 0) = true then -1 else 0
/-- A piece, reckoned: both differences and the side. -/
structure PieceT (p q z : Nat × Nat) (s : Nat) : Prop where
  ex : ∃ a b c d, floatBits .sub .f32 q.1 p.1 = some a ∧ floatBits .sub .f32 q.2 p.2 = some b ∧ floatBits .sub .f32 z.1 p.1 = some c ∧ floatBits .sub .f32 z.2 p.2 = some d ∧ ∀ r, CrossR (a, b) (c, d) r → r = s
  o1 : ∃ o, FloatKind.f32.format.order p.2 z.2 = some o
  o2 : ∃ o, FloatKind.f32.format.order q.2 z.2 = some o
  o3 : ∃ o, FloatKind.f32.format.order s 0 = some o
def WindR (zs : List (Nat × Nat)) (z : Nat × Nat) : Nat → Int → Prop
  | 0, v => v = 0
  | k + 1, v => ∃ u s, WindR zs z k u ∧ PieceT (zs.getD k (0, 0)) (zs.getD (k + 1) (0, 0)) z s ∧ v = u + turnAt (zs.getD k (0, 0)) (zs.getD (k + 1) (0, 0)) z s

def WindAt (zs : List (Nat × Nat)) (z : Nat × Nat) (n : Nat) (w : World) (v i : Value) (wr : World) : Prop :=
  ∃ (q : Nat) (u : Int) (m : Nat), q ≤ n ∧ i = .int .i64 q ∧ v = .int .i64 u ∧ WindR zs z q u ∧ -(q : Int) ≤ u ∧ u ≤ q ∧ wr = w.drewN m

set_option maxRecDepth 100000 in
set_option maxHeartbeats 8000000 in
theorem windingAt_calls (b off c z1 z2 : Nat) (zs : List (Nat × Nat)) (h3 : 3 ≤ zs.length) (hn : zs.length ≤ 64) (hf : FinP zs) (hz1 : fin .f32 z1 = true) (hz2 : fin .f32 z2 = true) (hp : ∀ k, k < zs.length → ∃ s, PieceT ((zs ++ [zs.getD 0 (0, 0)]).getD k (0, 0)) ((zs ++ [zs.getD 0 (0, 0)]).getD (k + 1) (0, 0)) (z1, z2) s) (w : World) (hA : RdC w (some ⟨b, off, none⟩) zs) :
    Calls Try.prog 11 #[.slice (some ⟨b, off, none⟩) zs.length c, .complex .f32 z1 z2] w fun e w' => ∃ v : Int, e = .returned (.tuple #[.int .i64 v, .bool true]) ∧ WindR (zs ++ [zs.getD 0 (0, 0)]) (z1, z2) zs.length v ∧ Below w.heap.size w w' := by
  have HC := Frame.hid (isLoop_calls _ c zs h3 hn hf w hA)
  have HFZ := Frame.hid (finC_calls z1 z2 hz1 hz2)
  have HD := Frame.hid (fun n : Nat => closed_calls b off c zs (by omega) (by omega) (w.drewN n) (fun h0 => hA h0))
  have HP := Frame.hid hp
  have HA := Frame.hid (fun (W : World) (hb : Below w.heap.size w W) => RdC.below hA hb)
  clear hf hA hp hz1 hz2
  go_enter Try.func11, Try.ntmps11
  go_wp2_with fail
  refine HC.out.mono ?_
  rintro e w1 ⟨rfl, n, rfl⟩
  go_wp2_with fail
  refine (HFZ.out _).mono ?_
  rintro e w1 ⟨rfl, n2, rfl⟩
  go_wp2_with fail
  try rw [World.drewN_drewN]
  refine (HD.out (n + n2)).mono ?_
  rintro e w1 ⟨g, cap, rfl, hO, hb⟩
  have HB : Hid (Below w.heap.size w w1) := Frame.hid ((below_drewN (Below.refl _ w) _).trans hb)
  have HO := Frame.hid hO
  have hcap : zs.length + 1 ≤ cap := by
    rcases hO.2 with ⟨h, _⟩ | ⟨_, _, _, h, _, _, h2, _⟩
    · cases h
    · injection h with _ _ h4
      subst h4
      simpa using h2
  obtain ⟨L, hL⟩ : ∃ L, L = zs.length + 1 := ⟨_, rfl⟩
  rw [← hL] at hcap HO ⊢
  have g1 : (1 : Int) ≤ (L : Int) := by omega
  have g2 : (L : Int) ≤ (cap : Int) := by omega
  have g3 : (1 : Int) ≤ (cap : Int) := by omega
  have g4 : 1 ≤ L := by omega
  have g5 : 1 ≤ cap := by omega
  have g6 : (L : Int) ≤ 65 := by omega
  clear hO hb HC HD
  have HOC := Frame.hid (show ∀ j, j < zs.length + 1 → w1.cell? ⟨g, j, none⟩ = some (cx ((zs ++ [zs.getD 0 (0, 0)]).getD j (0, 0))) from fun j hj => HO.out.cell (by rw [hL]; simp) (by simp; omega))
  clear HO
  go_wp2_with fail
  go_loopw [6, 23] (fun v i wr => WindAt (zs ++ [zs.getD 0 (0, 0)]) (z1, z2) zs.length w1 v i wr) (fun _ i _ => zs.length - (intOf i).toNat)
  case atStart => exact ⟨0, 0, 0, by omega, rfl, rfl, rfl, by omega, by omega, rfl⟩
  case round =>
    obtain ⟨q, u, m, hq, rfl, rfl, hW, hu1, hu2, rfl⟩ := hrel
    have HW := Frame.hid hW
    clear hW
    have hLi : (L : Int) - 1 = (zs.length : Int) := by omega
    have hLn : L - 1 = zs.length := by omega
    by_cases hlt : q < zs.length
    · obtain ⟨b', off', e, hltb, hc⟩ := HA.out w1 HB.out (by omega)
      injection e with e
      injection e with e1 e2
      subst e1 e2
      obtain ⟨p1, hp1⟩ : ∃ x, x = (zs.getD q (0, 0)).1 := ⟨_, rfl⟩
      obtain ⟨p2, hp2⟩ : ∃ x, x = (zs.getD q (0, 0)).2 := ⟨_, rfl⟩
      obtain ⟨q1, hq1⟩ : ∃ x, x = ((zs ++ [zs.getD 0 (0, 0)]).getD (q + 1) (0, 0)).1 := ⟨_, rfl⟩
      obtain ⟨q2, hq2⟩ : ∃ x, x = ((zs ++ [zs.getD 0 (0, 0)]).getD (q + 1) (0, 0)).2 := ⟨_, rfl⟩
      have hpe : (zs ++ [zs.getD 0 (0, 0)]).getD q (0, 0) = (p1, p2) := by
        rw [hp1, hp2, List.getD_eq_getElem?_getD, List.getElem?_append_left hlt, ← List.getD_eq_getElem?_getD]
      have hqe : (zs ++ [zs.getD 0 (0, 0)]).getD (q + 1) (0, 0) = (q1, q2) := by rw [hq1, hq2]
      have k1 : (w1.drewN m).cell? ⟨b, off + q, none⟩ = some (.complex .f32 p1 p2) := by rw [hp1, hp2]; exact hc q hlt
      have k3 : w1.cell? ⟨b, off + q, none⟩ = some (.complex .f32 p1 p2) := k1
      have k2 : (w1.drewN m).cell? ⟨g, 1 + q, none⟩ = some (.complex .f32 q1 q2) := by
        have h := HOC.out (q + 1) (by omega)
        rw [hqe] at h
        rw [Nat.add_comm 1 q]
        exact h
      have k4 : w1.cell? ⟨g, 1 + q, none⟩ = some (.complex .f32 q1 q2) := k2
      obtain ⟨s, hP⟩ := HP.out q hlt
      rw [hpe, hqe] at hP
      obtain ⟨a1, a2, c1, c2, t1, t2, t3, t4, hcr⟩ := hP.ex
      obtain ⟨o1, ho1⟩ := hP.o1
      obtain ⟨o2, ho2⟩ := hP.o2
      obtain ⟨o3, ho3⟩ := hP.o3
      simp only at t1 t2 t3 t4 ho1 ho2
      have f1 := tc (.inr rfl) t1 t2
      have f2 := tc (.inr rfl) t3 t4
      have HCR := Frame.hid hcr
      have HPP := Frame.hid hP
      have HPE := Frame.hid hpe
      have HQE := Frame.hid hqe
      have h1 : (q : Int) < (zs.length : Int) := by omega
      have h2 : q < L - 1 := by omega
      have h3 : (q : Int) < (L : Int) - 1 := by omega
      clear hp1 hp2 hq1 hq2 hpe hqe hP hcr hc t1 t2 t3 t4
      have hfin : Hid (∀ v, v = u + turnAt (p1, p2) (q1, q2) (z1, z2) s → ∀ m', WindAt (zs ++ [zs.getD 0 (0, 0)]) (z1, z2) zs.length w1 (.int .i64 v) (.int .i64 ((q : Int) + 1)) (w1.drewN m')) := by
        refine Frame.hid fun v hv m' => ?_
        have ht : turnAt (p1, p2) (q1, q2) (z1, z2) s = 1 ∨ turnAt (p1, p2) (q1, q2) (z1, z2) s = -1 ∨ turnAt (p1, p2) (q1, q2) (z1, z2) s = 0 := by
          unfold turnAt
          split
          · exact .inl rfl
          · split
            · exact .inr (.inl rfl)
            · exact .inr (.inr rfl)
        refine ⟨q + 1, v, m', by omega, by go_num, rfl, ⟨u, s, HW.out, ?_, ?_⟩, by omega, by omega, rfl⟩
        · rw [HPE.out, HQE.out]; exact HPP.out
        · rw [HPE.out, HQE.out]; exact hv
      go_wp2_with fail
      refine (crossOf_calls _ _ _ _ _).mono ?_
      rintro e w2 ⟨r, n3, rfl, hr, _, rfl⟩
      obtain rfl := HCR.out r hr
      clear hr k1 k2 k3 k4 f1 f2
      have hval : turnAt (p1, p2) (q1, q2) (z1, z2) r = if ((o1 == .lt || o1 == .eq) && o2 == .gt && o3 == .gt) = true then 1 else if (o1 == .gt && (o2 == .lt || o2 == .eq) && o3 == .lt) = true then -1 else 0 := by
        unfold turnAt leC gtC ltC
        simp only [ho1, ho2, ho3]
        cases o1 <;> cases o2 <;> cases o3 <;> rfl
      have HV := Frame.hid hval
      clear hval
      cases o1 <;> cases o2 <;> cases o3
      all_goals
        go_wp2_with fail
        go_roundw
        case rel => exact hfin.out _ (by rw [HV.out]; first | rfl | simp) _
        case measure => simp [intOf]; omega
    · have hqn : q = zs.length := by omega
      subst hqn
      have h3 : ¬ (zs.length : Int) < (L : Int) - 1 := by omega
      have h4 : ¬ zs.length < L - 1 := by omega
      go_wp2_with fail
      go_ret2
      exact ⟨u, rfl, HW.out, below_drewN HB.out m⟩

end Go.Proofs.Ytbdmmpkphiilkaa

namespace Go.Proofs.Ytbdmmpkphiilkaa
open Go.RowKit Fl Ieee
attribute [local go_sem] run_store_c run_store_f

/-- The length of a complex number. -/
def LongZ (x1 x2 r : Nat) : Prop := ∃ P q, PowZ x1 x2 P ∧ FSq P q ∧ FCv .f64 .f32 q r
set_option maxHeartbeats 1000000 in
theorem longZ_calls (x1 x2 : Nat) (w : World) : Calls Try.prog 35 #[.complex .f32 x1 x2] w (Gives .f32 (LongZ x1 x2) w) := by
  go_enter Try.func35, Try.ntmps35
  go_wp2_with fail
  refine (widePowerZ_calls x1 x2 _).mono ?_
  rintro e w1 ⟨r1, n1, rfl, hp, _, rfl⟩
  have HPW := Frame.hid hp
  clear hp
  go_wp2_with fail
  refine (sqrt_calls r1 _).mono ?_
  rintro e w2 ⟨q1, n2, rfl, hq, _, rfl⟩
  have HQ := Frame.hid hq
  clear hq
  go_wp2_with fail
  refine (narrowNumber_calls q1 _).mono ?_
  rintro e w2 ⟨s1, n3, rfl, k1, l1, rfl⟩
  go_wp2_with fail
  go_ret
  exact ⟨_, _, rfl, ⟨r1, q1, HPW.out, HQ.out, k1⟩, l1, rfl⟩

theorem angleZ_calls (x y : Nat) (w : World) : Calls Try.prog 36 #[.complex .f32 x y] w (Gives .f32 (AngleV y x) w) := by
  go_enter Try.func36, Try.ntmps36
  go_wp2_with fail
  refine (angleTurns_calls y x _).mono ?_
  rintro e w1 ⟨r, n, rfl, h, hl, rfl⟩
  have HH := Frame.hid h
  have HL := Frame.hid hl
  clear h hl
  go_wp2_with fail
  go_ret
  exact ⟨r, n, rfl, HH.out, HL.out, rfl⟩

theorem conj_calls (x y : Nat) (w : World) : Calls Try.prog 38 #[.complex .f32 x y] w fun e w' => e = .returned (.complex .f32 x (Op.negFloat .f32 y)) ∧ w' = w := by
  have hneg : ∀ W, (Op.unary .neg (.float .f32 y)).run Try.prog W = .ok (.float .f32 (Op.negFloat .f32 y)) W := fun _ => rfl
  go_enter Try.func38, Try.ntmps38
  go_wp2_with fail
  go_ret
  exact ⟨rfl, rfl⟩

/-- The piece from p to q, told. -/
def PieceD (p q d : Nat × Nat) : Prop := floatBits .sub .f32 q.1 p.1 = some d.1 ∧ floatBits .sub .f32 q.2 p.2 = some d.2
/-- What a piece adds: the angle between it and the one before. -/
structure TurnT (before behind : Nat × Nat) (a : Nat) : Prop where
  long : ∀ r, LongZ behind.1 behind.2 r → ∃ o, FloatKind.f32.format.order r 0 = some o ∧ o ≠ .eq
  angle : ∀ m1 m2 r, MulZ behind.1 behind.2 before.1 (Op.negFloat .f32 before.2) m1 m2 → AngleV m2 m1 r → r = a
/-- The sum of the first angles, told. -/
def TurnsR (zs ds : List (Nat × Nat)) (gs ss : List Nat) (n : Nat) : Prop :=
  (∀ k, k < n → PieceD (zs.getD k (0, 0)) (zs.getD (k + 1) (0, 0)) (ds.getD (k + 1) (0, 0)) ∧ TurnT (ds.getD k (0, 0)) (ds.getD (k + 1) (0, 0)) (gs.getD k 0) ∧ floatBits .add .f32 (ss.getD k 0) (gs.getD k 0) = some (ss.getD (k + 1) 0)) ∧ ss.getD 0 0 = 0

def TurnsAt (ds : List (Nat × Nat)) (ss : List Nat) (n : Nat) (w : World) (b v i : Value) (wr : World) : Prop :=
  ∃ (q m : Nat), q ≤ n ∧ i = .int .i64 q ∧ v = .float .f32 (ss.getD q 0) ∧ b = .complex .f32 (ds.getD q (0, 0)).1 (ds.getD q (0, 0)).2 ∧ wr = w.drewN m

set_option maxRecDepth 100000 in
set_option maxHeartbeats 8000000 in
theorem turnsOfLoop_calls (b off c : Nat) (zs ds : List (Nat × Nat)) (gs ss : List Nat) (h3 : 3 ≤ zs.length) (hn : zs.length ≤ 64) (hf : FinP zs) (h0 : PieceD (zs.getD (zs.length - 1) (0, 0)) (zs.getD 0 (0, 0)) (ds.getD 0 (0, 0))) (ht : TurnsR (zs ++ [zs.getD 0 (0, 0)]) ds gs ss zs.length) (hfin : fin .f32 (ss.getD zs.length 0) = true) (w : World) (hA : RdC w (some ⟨b, off, none⟩) zs) :
    Calls Try.prog 10 #[.slice (some ⟨b, off, none⟩) zs.length c] w fun e w' => e = .returned (.tuple #[.float .f32 (ss.getD zs.length 0), .bool true]) ∧ Below w.heap.size w w' := by
  have HC := Frame.hid (isLoop_calls _ c zs h3 hn hf w hA)
  have HD := Frame.hid (fun n : Nat => closed_calls b off c zs (by omega) (by omega) (w.drewN n) (fun h0 => hA h0))
  have HT := Frame.hid ht
  have HFIN := Frame.hid hfin
  have HA := Frame.hid (fun (W : World) (hb : Below w.heap.size w W) => RdC.below hA hb)
  obtain ⟨b', off', e, hltb, hc⟩ := hA (by omega)
  injection e with e
  injection e with e1 e2
  subst e1 e2
  obtain ⟨p1, hp1⟩ : ∃ x, x = (zs.getD 0 (0, 0)).1 := ⟨_, rfl⟩
  obtain ⟨p2, hp2⟩ : ∃ x, x = (zs.getD 0 (0, 0)).2 := ⟨_, rfl⟩
  obtain ⟨q1, hq1⟩ : ∃ x, x = (zs.getD (zs.length - 1) (0, 0)).1 := ⟨_, rfl⟩
  obtain ⟨q2, hq2⟩ : ∃ x, x = (zs.getD (zs.length - 1) (0, 0)).2 := ⟨_, rfl⟩
  have k1 : ∀ m, (w.drewN m).cell? ⟨b, off, none⟩ = some (.complex .f32 p1 p2) := fun m => by rw [hp1, hp2]; exact hc 0 (by omega)
  have k2 : ∀ m, (w.drewN m).cell? ⟨b, off + (zs.length - 1), none⟩ = some (.complex .f32 q1 q2) := fun m => by rw [hq1, hq2]; exact hc (zs.length - 1) (by omega)
  have k3 := k1 0
  have k4 := k2 0
  obtain ⟨d1, hd1⟩ : ∃ x, x = (ds.getD 0 (0, 0)).1 := ⟨_, rfl⟩
  obtain ⟨d2, hd2⟩ : ∃ x, x = (ds.getD 0 (0, 0)).2 := ⟨_, rfl⟩
  obtain ⟨t1, t2⟩ := h0
  rw [← hp1, ← hq1, ← hd1] at t1
  rw [← hp2, ← hq2, ← hd2] at t2
  have f1 := tc (.inr rfl) t1 t2
  have i1 : (zs.length : Int) - 1 = ((zs.length - 1 : Nat) : Int) := by omega
  have i2 : (0 : Int) < (zs.length : Int) := by omega
  have i3 : 0 < zs.length := by omega
  have i4 : (3 : Int) ≤ (zs.length : Int) := by omega
  have i5 : ((zs.length : Int) - 1).toNat = zs.length - 1 := by omega
  have i6 : (zs.length : Int) - 1 < (zs.length : Int) := by omega
  have i7 : 0 ≤ (zs.length : Int) - 1 := by omega
  have HDD : Hid ((d1, d2) = ds.getD 0 (0, 0)) := Frame.hid (by rw [hd1, hd2])
  clear hf hA ht hfin hc hp1 hp2 hq1 hq2 t1 t2 hd1 hd2
  go_enter Try.func10, Try.ntmps10
  go_wp2_with fail
  refine HC.out.mono ?_
  rintro e w1 ⟨rfl, n, rfl⟩
  have k5 := k1 n
  have k6 := k2 n
  go_wp2_with fail
  go_quiet (fail)
  go_wp2_with fail
  try rw [World.drewN_drewN]
  refine (HD.out (n + nq)).mono ?_
  rintro e w1 ⟨g, cap, rfl, hO, hb⟩
  have HB : Hid (Below w.heap.size w w1) := Frame.hid ((below_drewN (Below.refl _ w) _).trans hb)
  have HO := Frame.hid hO
  have hcap : zs.length + 1 ≤ cap := by
    rcases hO.2 with ⟨h, _⟩ | ⟨_, _, _, h, _, _, h2, _⟩
    · cases h
    · injection h with _ _ h4
      subst h4
      simpa using h2
  obtain ⟨L, hL⟩ : ∃ L, L = zs.length + 1 := ⟨_, rfl⟩
  rw [← hL] at hcap HO ⊢
  have g1 : (1 : Int) ≤ (L : Int) := by omega
  have g2 : (L : Int) ≤ (cap : Int) := by omega
  have g3 : (1 : Int) ≤ (cap : Int) := by omega
  have g4 : 1 ≤ L := by omega
  have g5 : 1 ≤ cap := by omega
  have g6 : (L : Int) ≤ 65 := by omega
  have HOC := Frame.hid (show ∀ j, j < zs.length + 1 → w1.cell? ⟨g, j, none⟩ = some (cx ((zs ++ [zs.getD 0 (0, 0)]).getD j (0, 0))) from fun j hj => HO.out.cell (by rw [hL]; simp) (by simp; omega))
  clear HO hO hb HC HD k1 k2 k3 k4 k5 k6 f1
  go_wp2_with fail
  go_loopw [4, 5, 26] (fun b v i wr => TurnsAt ds ss zs.length w1 b v i wr) (fun _ _ i _ => zs.length - (intOf i).toNat)
  case atStart => exact ⟨0, 0, by omega, rfl, by rw [HT.out.2], by rw [← HDD.out], rfl⟩
  case round =>
    obtain ⟨q, m, hq, rfl, rfl, rfl, rfl⟩ := hrel
    by_cases hlt : q < zs.length
    · obtain ⟨b', off', e, hltb', hc⟩ := HA.out w1 HB.out (by omega)
      injection e with e
      injection e with e1 e2
      subst e1 e2
      obtain ⟨p1, hp1⟩ : ∃ x, x = (zs.getD q (0, 0)).1 := ⟨_, rfl⟩
      obtain ⟨p2, hp2⟩ : ∃ x, x = (zs.getD q (0, 0)).2 := ⟨_, rfl⟩
      obtain ⟨q1, hq1⟩ : ∃ x, x = ((zs ++ [zs.getD 0 (0, 0)]).getD (q + 1) (0, 0)).1 := ⟨_, rfl⟩
      obtain ⟨q2, hq2⟩ : ∃ x, x = ((zs ++ [zs.getD 0 (0, 0)]).getD (q + 1) (0, 0)).2 := ⟨_, rfl⟩
      have hpe : (zs ++ [zs.getD 0 (0, 0)]).getD q (0, 0) = (p1, p2) := by
        rw [hp1, hp2, List.getD_eq_getElem?_getD, List.getElem?_append_left hlt, ← List.getD_eq_getElem?_getD]
      have hqe : (zs ++ [zs.getD 0 (0, 0)]).getD (q + 1) (0, 0) = (q1, q2) := by rw [hq1, hq2]
      have k1 : (w1.drewN m).cell? ⟨b, off + q, none⟩ = some (.complex .f32 p1 p2) := by rw [hp1, hp2]; exact hc q hlt
      have k3 : w1.cell? ⟨b, off + q, none⟩ = some (.complex .f32 p1 p2) := k1
      have k2 : (w1.drewN m).cell? ⟨g, 1 + q, none⟩ = some (.complex .f32 q1 q2) := by
        have h := HOC.out (q + 1) (by omega)
        rw [hqe] at h
        rw [Nat.add_comm 1 q]
        exact h
      have k4 : w1.cell? ⟨g, 1 + q, none⟩ = some (.complex .f32 q1 q2) := k2
      obtain ⟨⟨t1, t2⟩, hT, t3⟩ := HT.out.1 q hlt
      rw [hpe, hqe] at t1 t2
      obtain ⟨x1, hx1⟩ : ∃ x, x = (ds.getD q (0, 0)).1 := ⟨_, rfl⟩
      obtain ⟨x2, hx2⟩ : ∃ x, x = (ds.getD q (0, 0)).2 := ⟨_, rfl⟩
      obtain ⟨y1, hy1⟩ : ∃ x, x = (ds.getD (q + 1) (0, 0)).1 := ⟨_, rfl⟩
      obtain ⟨y2, hy2⟩ : ∃ x, x = (ds.getD (q + 1) (0, 0)).2 := ⟨_, rfl⟩
      obtain ⟨s0, hs0⟩ : ∃ x, x = ss.getD q 0 := ⟨_, rfl⟩
      obtain ⟨s1, hs1⟩ : ∃ x, x = ss.getD (q + 1) 0 := ⟨_, rfl⟩
      obtain ⟨a0, ha0⟩ : ∃ x, x = gs.getD q 0 := ⟨_, rfl⟩
      obtain ⟨hlong, hangle⟩ := hT
      rw [← hx1, ← hx2, ← hy1, ← hy2, ← ha0] at hangle
      rw [← hy1, ← hy2] at hlong
      rw [← hy1] at t1
      rw [← hy2] at t2
      rw [← hs0, ← ha0, ← hs1] at t3
      rw [← hx1, ← hx2, ← hs0]
      have f1 := tc (.inr rfl) t1 t2
      have f2 := ta t3
      have HLO := Frame.hid hlong
      have HAN := Frame.hid hangle
      have HS1 := Frame.hid hs1
      have HY : Hid (y1 = (ds.getD (q + 1) (0, 0)).1 ∧ y2 = (ds.getD (q + 1) (0, 0)).2) := Frame.hid ⟨hy1, hy2⟩
      have h1 : (q : Int) < (zs.length : Int) := by omega
      clear hp1 hp2 hq1 hq2 hpe hqe hlong hangle hc t1 t2 t3 hx1 hx2 hy1 hy2 hs0 hs1 ha0
      go_wp2_with fail
      refine (longZ_calls _ _ _).mono ?_
      rintro e w2 ⟨r, n3, rfl, hr, _, rfl⟩
      obtain ⟨o, ho, hne⟩ := HLO.out r hr
      clear hr k1 k2 k3 k4 f1
      cases o
      case eq => exact absurd rfl hne
      all_goals
        clear hne
        go_wp2_with fail
        refine (conj_calls _ _ _).mono ?_
        rintro e w3 ⟨rfl, rfl⟩
        go_wp2_with fail
        refine (mulComplexZ_calls _ _ _ _ _).mono ?_
        rintro e w3 ⟨m1, m2, n4, rfl, hm, _, _, rfl⟩
        have HM := Frame.hid hm
        clear hm
        go_wp2_with fail
        refine (angleZ_calls _ _ _).mono ?_
        rintro e w3 ⟨a, n5, rfl, ha, _, rfl⟩
        obtain rfl := HAN.out m1 m2 a HM.out ha
        clear ha
        go_wp2_with fail
        go_roundw
        case rel => exact ⟨q + 1, _, by omega, by go_num, by rw [HS1.out], by rw [HY.out.1, HY.out.2], rfl⟩
        case measure => simp [intOf]; omega
    · have hqn : q = zs.length := by omega
      subst hqn
      go_wp2_with fail
      refine (numberIfFinite_calls _ HFIN.out _).mono ?_
      rintro e w1 ⟨rfl, n2, rfl⟩
      go_wp2_with fail
      go_ret2
      exact ⟨rfl, below_drewN HB.out _⟩

end Go.Proofs.Ytbdmmpkphiilkaa
