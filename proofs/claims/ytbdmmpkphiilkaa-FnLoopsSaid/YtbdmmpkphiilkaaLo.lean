/-
  Areas beside points, as the program makes them.
-/
/-
  Loops of points, closed, as the program makes them; their areas.
-/
import Derived.Test.YtbdmmpkphiilkaaTp
import Derived.OwnWalk
import Derived.Laws.Cover3
import Derived.Deep.RegionLaw
namespace Go.Proofs.Ytbdmmpkphiilkaa
open Go.RowKit Fl Ieee
attribute [local go_sem] run_store_c run_store_f

def CrossR (p q : Nat × Nat) (r : Nat) : Prop := ∃ u v, FOp .mul .f32 p.1 q.2 u ∧ FOp .mul .f32 p.2 q.1 v ∧ FOp .sub .f32 u v r
def SumR (zs : List (Nat × Nat)) : Nat → Nat → Prop
  | 0, r => r = 0
  | k + 1, r => ∃ s c, SumR zs k s ∧ CrossR (zs.getD k (0, 0)) (zs.getD (k + 1) (0, 0)) c ∧ FOp .add .f32 s c r
def AreaR (zs : List (Nat × Nat)) (r : Nat) : Prop := ∃ s, SumR zs (zs.length - 1) s ∧ FOp .quo .f32 s 1073741824 r

set_option maxRecDepth 100000 in
set_option maxHeartbeats 1000000 in
theorem crossOf_calls (p1 p2 q1 q2 : Nat) (w : World) : Calls Try.prog 41 #[.complex .f32 p1 p2, .complex .f32 q1 q2] w (Gives .f32 (CrossR (p1, p2) (q1, q2)) w) := by
  go_enter Try.func41, Try.ntmps41
  go_wp2_with (refine wpList_arith rfl _ _ _ _ _ rfl rfl _ _ _ rfl rfl ?_; intro r n hr hl)
  go_ret
  exact ⟨_, _, rfl, ⟨_, _, by assumption, by assumption, by assumption⟩, by assumption, rfl⟩

set_option maxRecDepth 100000 in
set_option maxHeartbeats 1000000 in
theorem half_calls (x : Nat) (w : World) : Calls Try.prog 75 #[.float .f32 x] w (Gives .f32 (FOp .quo .f32 x 1073741824) w) := by
  go_enter Try.func75, Try.ntmps75
  go_wp2_with (refine wpList_arith rfl _ _ _ _ _ rfl rfl _ _ _ rfl rfl ?_; intro r n hr hl)
  go_ret
  exact ⟨_, _, rfl, by assumption, by assumption, rfl⟩

set_option maxRecDepth 100000 in
set_option maxHeartbeats 1000000 in
theorem numberIfFinite_calls (x : Nat) (hx : fin .f32 x = true) (w : World) : Calls Try.prog 39 #[.float .f32 x] w fun e w' => e = .returned (.tuple #[.float .f32 x, .bool true]) ∧ ∃ n, w' = w.drewN n := by
  go_enter Try.func39, Try.ntmps39
  go_wp2_with fail
  refine (isFinite_calls _ _).mono ?_
  rintro e w1 ⟨rfl, n1, rfl⟩
  rw [hx]
  go_wp2_with fail
  go_ret2
  exact ⟨rfl, _, rfl⟩

def AreaAt (zs : List (Nat × Nat)) (w : World) (v i : Value) (wr : World) : Prop :=
  ∃ (q s m : Nat), q + 1 ≤ zs.length ∧ i = .int .i64 q ∧ v = .float .f32 s ∧ SumR zs q s ∧ (s : Int) < 4294967296 ∧ wr = w.drewN m

set_option maxRecDepth 100000 in
set_option maxHeartbeats 4000000 in
theorem areaBeside_calls (zs : List (Nat × Nat)) (A : Option Addr) (c : Nat) (h1 : 1 ≤ zs.length) (hn : zs.length ≤ 1000) (hfin : ∀ r, AreaR zs r → fin .f32 r = true) (w : World) (hA : RdC w A zs) :
    Calls Try.prog 42 #[.slice A zs.length c] w fun e w' => ∃ r, e = .returned (.tuple #[.float .f32 r, .bool true]) ∧ AreaR zs r ∧ r < 4294967296 ∧ ∃ n, w' = w.drewN n := by
  have HF := Frame.hid hfin
  have HA := Frame.hid hA
  clear hfin hA
  have h1' : (1 : Int) ≤ (zs.length : Int) := by omega
  have hn' : (zs.length : Int) ≤ 1000 := by omega
  go_enter Try.func42, Try.ntmps42
  go_wp2_with fail
  go_loopw [4, 9] (fun v i wr => AreaAt zs w v i wr) (fun _ i _ => zs.length - (intOf i).toNat)
  case atStart => exact ⟨0, 0, 0, by omega, rfl, rfl, rfl, by omega, rfl⟩
  case round =>
    obtain ⟨q, s, m, hq, rfl, rfl, hs, hsl, rfl⟩ := hrel
    have HS := Frame.hid hs
    have HSL : Unit → (s : Int) < 4294967296 := fun _ => hsl
    clear hs hsl
    by_cases hlt : q + 1 < zs.length
    · obtain ⟨b, off, rfl, hltb, hc⟩ := HA.out (by omega)
      obtain ⟨p1, hp1⟩ : ∃ x, x = (zs.getD q (0, 0)).1 := ⟨_, rfl⟩
      obtain ⟨p2, hp2⟩ : ∃ x, x = (zs.getD q (0, 0)).2 := ⟨_, rfl⟩
      obtain ⟨q1, hq1⟩ : ∃ x, x = (zs.getD (q + 1) (0, 0)).1 := ⟨_, rfl⟩
      obtain ⟨q2, hq2⟩ : ∃ x, x = (zs.getD (q + 1) (0, 0)).2 := ⟨_, rfl⟩
      have k1 : (w.drewN m).cell? ⟨b, off + q, none⟩ = some (.complex .f32 p1 p2) := by rw [hp1, hp2]; exact hc q (by omega)
      have k2 : (w.drewN m).cell? ⟨b, off + (q + 1), none⟩ = some (.complex .f32 q1 q2) := by rw [hq1, hq2]; exact hc (q + 1) (by omega)
      have k3 : w.cell? ⟨b, off + q, none⟩ = some (.complex .f32 p1 p2) := k1
      have k4 : w.cell? ⟨b, off + (q + 1), none⟩ = some (.complex .f32 q1 q2) := k2
      have k5 : w.cell? ⟨b, off + q + 1, none⟩ = some (.complex .f32 q1 q2) := k2
      have HP : Hid ((p1, p2) = zs.getD q (0, 0) ∧ (q1, q2) = zs.getD (q + 1) (0, 0)) := Frame.hid ⟨by rw [hp1, hp2], by rw [hq1, hq2]⟩
      have hz1 : (q : Int) < (zs.length : Int) := by omega
      have hz2 : (q : Int) + 1 < (zs.length : Int) := by omega
      have hz3 : (q : Int) < (zs.length : Int) - 1 := by omega
      have hq4 : ¬ ((q : Int) + 1 < 0) := by omega
      have hq5 : 0 ≤ (q : Int) + 1 := by omega
      have hq6 : ((q : Int) + 1).toNat = q + 1 := by omega
      have hwr : IntKind.i64.wrap ((q : Int) + 1) = ((q + 1 : Nat) : Int) := by rw [IntKind.wrap_i64]; omega
      clear hp1 hp2 hq1 hq2 hc
      go_wp2_with fail
      go_region_with (first | (go_at_call 41; refine (crossOf_calls _ _ _ _ _).mono ?_; rintro e w1 ⟨cr, n1, rfl, hcr, hcl, rfl⟩) | (refine upon_arith _ _ .f32 _ _ rfl ?_; intro r n2 hr hl))
      all_goals
        have HC := Frame.hid hcr
        have HR := Frame.hid hr
        have HL : Unit → (r : Int) < 4294967296 := fun _ => Int.ofNat_lt.2 (lt32 hl)
        clear hcr hr hl hcl k1 k2 k3 k4 k5 hq4 hq5 hq6 hwr
        go_wp2_with fail
        go_roundw
        case rel =>
          refine ⟨q + 1, r, _, by omega, by go_num, rfl, ⟨s, cr, HS.out, ?_, HR.out⟩, HL (), rfl⟩
          rw [← HP.out.1, ← HP.out.2]
          exact HC.out
        case measure => simp [intOf]; omega
    · have hqn : zs.length = q + 1 := by omega
      have hz3 : ¬ (q : Int) < (zs.length : Int) - 1 := by omega
      go_wp2_with fail
      refine (half_calls s _).mono ?_
      rintro e w1 ⟨r, n1, rfl, hr, hl, rfl⟩
      have har : AreaR zs r := ⟨s, by rw [hqn]; exact HS.out, hr⟩
      have HAR := Frame.hid har
      have HL : Unit → r < 4294967296 := fun _ => lt32 hl
      clear hr hl har
      go_wp2_with fail
      refine (numberIfFinite_calls r (HF.out r HAR.out) _).mono ?_
      rintro e w1 ⟨rfl, n2, rfl⟩
      go_wp2_with fail
      go_ret2
      exact ⟨r, rfl, HAR.out, HL (), _, rfl⟩

end Go.Proofs.Ytbdmmpkphiilkaa

namespace Go.Proofs.Ytbdmmpkphiilkaa
open Go.RowKit Fl Ieee
attribute [local go_sem] run_store_c run_store_f

theorem none_litP (w : World) : OwnC (w.alloc (.cells #[] 26)) w.heap.size (.slice (some ⟨w.heap.size, 0, none⟩) 0 0) [] :=
  World.ownsRow_lit w #[] 0 (Nat.le_refl _) (by unfold maxLen; omega) rfl
theorem own_appP {w3 : World} {B m : Nat} {v' : Value} {ys zs : List (Nat × Nat)} (hm : ys.length + zs.length = m) (hpos : 0 < m) (h : w3.ownsRow B 26 1 v' m (cl ys ++ cl zs)) : ∃ g cap, v' = .slice (some ⟨g, 0, none⟩) m cap ∧ OwnC w3 B v' (ys ++ zs) := by
  rw [cl_app] at h
  subst hm
  have h' : OwnC w3 B v' (ys ++ zs) := by unfold OwnC; rw [List.length_append]; exact h
  rcases h'.form with ⟨_, h2⟩ | ⟨g, cap, hv, _⟩
  · obtain ⟨rfl, rfl⟩ := List.append_eq_nil_iff.1 h2
    simp at hpos
  · exact ⟨g, cap, by rw [hv]; simp, h'⟩
theorem OwnC.rd' {w : World} {base g n cap : Nat} {ys : List (Nat × Nat)} (h : OwnC w base (.slice (some ⟨g, 0, none⟩) n cap) ys) : RdC w (some ⟨g, 0, none⟩) ys := by
  obtain ⟨A, c, hv, hr⟩ := h.reads
  injection hv with h1 _ _
  rw [h1]
  exact hr
theorem add_off (b o j : Nat) : (⟨b, o, none⟩ : Addr).add j = ⟨b, o + j, none⟩ := by unfold Addr.add; split <;> simp_all
theorem cl_one {zs : List (Nat × Nat)} : ∀ u ∈ cl zs, u.oneCell' = true := fun u hu => by
  unfold cl at hu
  rw [List.mem_map] at hu
  obtain ⟨z, _, rfl⟩ := hu
  rfl

set_option maxRecDepth 100000 in
set_option maxHeartbeats 4000000 in
theorem clone_calls (b off c : Nat) (zs : List (Nat × Nat)) (h1 : 1 ≤ zs.length) (hn : zs.length ≤ 1000) (w : World) (hA : RdC w (some ⟨b, off, none⟩) zs) :
    Calls Try.prog 80 #[.slice (some ⟨b, off, none⟩) zs.length c] w fun e w' => ∃ g cap, e = .returned (.slice (some ⟨g, 0, none⟩) zs.length cap) ∧ OwnC w' w.heap.size (.slice (some ⟨g, 0, none⟩) zs.length cap) zs ∧ Below w.heap.size w w' := by
  obtain ⟨i0, hi, hz0, hz1, hz2⟩ := info_parts Try.infoC
  have hnews : ∀ j u, (cl zs)[j]? = some u → (w.alloc (.cells #[] 26)).cell? ((⟨b, off, none⟩ : Addr).add j) = some u := by
    obtain ⟨b', off', e, hlt, hc⟩ := hA (by omega)
    injection e with e
    injection e with e1 e2
    subst e1 e2
    intro j u hj
    have hjl : j < zs.length := by
      have := (List.getElem?_eq_some_iff.1 hj).1
      rwa [cl_len] at this
    rw [cl_get hjl] at hj
    rw [add_off, World.cell?_alloc_past _ _ _ hlt, hc j hjl]
    exact hj
  have HN := Frame.hid hnews
  have hnil : ∀ W, (binOp .eql 25 (.slice (some ⟨b, off, none⟩) zs.length c) (.slice none 0 0)).run Try.prog W = .ok (.bool false) W := by
    intro W
    simp [binOp, go_sem, run_equal_slice_nil (P := Try.prog) W 25 26 (some ⟨b, off, none⟩) zs.length c Try.underlying25]
  clear hA hnews
  go_enter Try.func80, Try.ntmps80
  go_wp2_with (at_builtin; refine wpList_append_own _ rfl _ _ 25 rfl w.heap.size 26 i0 (.complex .f32 0 0) 1 8 Try.underlying25 hi hz0 hz1 hz2 rfl (by decide) _ _ _ rfl (none_litP w) ⟨b, off, none⟩ zs.length _ (cl zs) rfl (by rw [cl_len, Nat.mul_one]) HN.out cl_one (by show 0 + zs.length ≤ maxLen; unfold maxLen; omega) (by show (0 + zs.length) * 8 ≤ _; omega) (by simp) ?_; intro v' w3 hown' hgrow3 hnil3; obtain ⟨g', cap', rfl, hO2⟩ := own_appP (ys := []) (by simp) (by omega) hown')
  have hgrow4 : (w.alloc (.cells #[] 26)).grownBy w3 (some w.heap.size) := hgrow3
  have HB : Hid (Below w.heap.size w w3) := Frame.hid (Below.grown ((Below.refl _ w).alloc (Nat.le_refl _) _) hgrow4 (by simp) (fun k hk => by injection hk with hk; omega))
  have HO : Hid (OwnC w3 w.heap.size (.slice (some ⟨g', 0, none⟩) (0 + zs.length) cap') zs) := Frame.hid hO2
  clear hown' hgrow3 hgrow4 hnil3 hO2
  rw [Nat.zero_add] at HO
  go_wp2_with fail
  go_ret
  exact ⟨_, _, rfl, HO.out, HB.out⟩

theorem step_append_own {P : Program} {ops : Array Oper} {o : Oper} {a : Act} {w : World} {K : Act → World → Prop} {Q : Exit → Act → World → Prop} {E : Prop} (hgd : o.guard = none) (s x : Operand) (t : TypeId)
    (ho : o.op = .call { callee := .builtin .append, args := #[s, x], argTypes := #[t, t] })
    (base : Nat) (e : TypeId) (i : TypeInfo) (z : Value) (size bytes : Nat) (ht : P.underlying t = some (.slice e)) (hi : P.info? e = some i) (hz : i.zero = some z)
    (hsize : i.size = size) (hby : i.bytes = bytes) (hzs : z.cells.size = size) (hsz : 0 < size)
    (v : Value) (n : Nat) (xs : List Value) (hs : a.eval s = v) (hown : w.ownsRow base e size v n xs)
    (ad : Addr) (m c : Nat) (news : List Value) (hx : a.eval x = .slice (some ad) m c) (hl : news.length = m * size) (hnews : ∀ j u, news[j]? = some u → w.cell? (ad.add j) = some u) (h1 : ∀ u ∈ news, u.oneCell' = true)
    (h63 : n + m ≤ maxLen) (hbytes : (n + m) * bytes ≤ 140737488355328) (hbase : base ≤ w.heap.size)
    (h : ∀ v' w', w'.ownsRow base e size v' (n + m) (xs ++ news) → w.grownBy w' v.ownBlock → (v' = .slice none 0 0 ↔ v = .slice none 0 0 ∧ m = 0) → K (a.put o.dst v') w') :
    if Region.wanted o (yielded ops a.tmps) = true then Oper.wp P o a w K Q else E := by
  have hw : Region.wanted o (yielded ops a.tmps) = true := by simp [Region.wanted, hgd]
  rw [if_pos hw]
  exact wp_append_own w s x t ho base e i z size bytes ht hi hz hsize hby hzs hsz v n xs hs hown ad m c news hx hl hnews h1 h63 hbytes hbase h
theorem cell_at (w : World) (b : Nat) (v : Value) (h : w.cell? ⟨b, 0, none⟩ = some v) : ∀ j u, [v][j]? = some u → w.cell? ((⟨b, 0, none⟩ : Addr).add j) = some u := fun j u hj => by
  match j, hj with
  | 0, hj =>
    have : v = u := by simpa using hj
    subst this
    rw [add_off]
    exact h
theorem OwnC.grown' {w' : World} {base g cap : Nat} {n : Nat} {zs : List (Nat × Nat)} {x : Nat × Nat} (hn : n = zs.length) (h : w'.ownsRow base 26 1 (.slice (some ⟨g, 0, none⟩) (n + 1) cap) (n + 1) (cl zs ++ [cx x])) : OwnC w' base (.slice (some ⟨g, 0, none⟩) (n + 1) cap) (zs ++ [x]) := by
  subst hn
  unfold OwnC
  rw [List.length_append, ← cl_app]
  exact h

set_option maxRecDepth 100000 in
set_option maxHeartbeats 4000000 in
theorem closed_calls (b off c : Nat) (zs : List (Nat × Nat)) (h1 : 1 ≤ zs.length) (hn : zs.length ≤ 900) (w : World) (hA : RdC w (some ⟨b, off, none⟩) zs) :
    Calls Try.prog 34 #[.slice (some ⟨b, off, none⟩) zs.length c] w fun e w' => ∃ g cap, e = .returned (.slice (some ⟨g, 0, none⟩) (zs.length + 1) cap) ∧ OwnC w' w.heap.size (.slice (some ⟨g, 0, none⟩) (zs.length + 1) cap) (zs ++ [zs.getD 0 (0, 0)]) ∧ Below w.heap.size w w' := by
  obtain ⟨i0, hi, hz0, hz1, hz2⟩ := info_parts Try.infoC
  obtain ⟨x, hx⟩ : ∃ x, x = (zs.getD 0 (0, 0)).1 := ⟨_, rfl⟩
  obtain ⟨y, hy⟩ : ∃ x, x = (zs.getD 0 (0, 0)).2 := ⟨_, rfl⟩
  have hxy : zs.getD 0 (0, 0) = (x, y) := by rw [hx, hy]
  obtain ⟨b', off', e, hlt, hc⟩ := hA (by omega)
  injection e with e
  injection e with e1 e2
  subst e1 e2
  have k0 : w.cell? ⟨b, off, none⟩ = some (.complex .f32 x y) := by rw [hx, hy]; exact hc 0 (by omega)
  have HC := Frame.hid (clone_calls b off c zs h1 (by omega))
  have hp1 : (0 : Int) < (zs.length : Int) := by omega
  have hp0 : 0 < zs.length := by omega
  have HA := Frame.hid (fun (W : World) (hb : Below w.heap.size w W) => RdC.below hA hb)
  have HK := Frame.hid (fun (W : World) (hb : Below w.heap.size w W) => (World.cell?_of_block (a := ⟨b, off, none⟩) (hb.block b hlt)).trans k0)
  clear hA hx hy hc
  go_enter Try.func34, Try.ntmps34
  go_wp2_with fail
  go_region_law (first
    | (refine step_append_own rfl _ _ 25 rfl w.heap.size 26 i0 (.complex .f32 0 0) 1 8 Try.underlying25 hi hz0 hz1 hz2 rfl (by decide) _ _ _ rfl (World.ownsRow.alloc (OwnC.mono' hO (by simp)) _) ⟨_, 0, none⟩ 1 1 [.complex .f32 x y] rfl rfl (cell_one_new _ _ _) (fun x hx => by simp at hx; subst hx; rfl) (by unfold maxLen; omega) (by omega) (by have := hBw.size; simp; omega) ?_; intro v' w3 hown' hgrow3 hnil3)
    | (refine step_append_own rfl _ _ 25 rfl w.heap.size 26 i0 (.complex .f32 0 0) 1 8 Try.underlying25 hi hz0 hz1 hz2 rfl (by decide) _ _ _ rfl (OwnC.mono' hO (by simp)) ⟨_, 0, none⟩ 1 1 [.complex .f32 x y] rfl rfl (cell_at _ _ _ hxc) (fun x hx => by simp at hx; subst hx; rfl) (by unfold maxLen; omega) (by omega) (by have := hBw.size; simp; omega) ?_; intro v' w3 hown' hgrow3 hnil3)
    | (go_simp; go_at_call 80; refine (HC.out _ (HA.out _ ((Below.refl _ w).drew))).mono ?_; rintro e w1 ⟨g, cap, rfl, hO, hb⟩; have hBw : Below w.heap.size w w1 := ((Below.refl _ w).drew).trans hb; have hkk := HK.out _ hBw)
    | (go_simp; go_at_call 80; refine (HC.out _ (HA.out _ (((Below.refl _ w).drew).alloc (Nat.le_refl _) _))).mono ?_; rintro e w1 ⟨g, cap, rfl, hO, hb⟩; have hBw : Below w.heap.size w w1 := (((Below.refl _ w).drew).alloc (Nat.le_refl _) _).trans (hb.mono (by simp)); have hxc : w1.cell? ⟨w.heap.size, 0, none⟩ = some (.complex .f32 x y) := (World.cell?_of_block (hb.block w.heap.size (by simp))).trans (by rw [World.cell?_alloc_at _ _ _ _ (show w.heap.size = w.drew.heap.size from rfl)]; rfl)))
  all_goals
    have hg : w.heap.size ≤ g := by
      first
        | exact (World.ownsRow.lt hO g rfl).1
        | exact Nat.le_trans (((Below.refl w.heap.size w).drew).alloc (Nat.le_refl _) (.cells #[.complex .f32 x y] 26)).size (World.ownsRow.lt hO g rfl).1
    have hBB : Below w.heap.size w w3 := by
      first
        | exact Below.grown (row := some g) (hBw.alloc hBw.size _) hgrow3 (by have := hBw.size; simp; omega) (fun k hk => by injection hk with hk; omega)
        | exact Below.grown (row := some g) hBw hgrow3 hBw.size (fun k hk => by injection hk with hk; omega)
    obtain ⟨g', cap', rfl, hO2⟩ := own_appP (ys := zs) (zs := [(x, y)]) (by simp) (by omega) hown'
    rw [← hxy] at hO2
    have HO2 := Frame.hid hO2
    have HB2 := Frame.hid hBB
    clear hO2 hBB hgrow3 hown' hnil3 hO hb hBw hg
    go_wp2_with fail
    go_ret
    exact ⟨_, _, rfl, HO2.out, HB2.out⟩

set_option maxRecDepth 100000 in
set_option maxHeartbeats 4000000 in
theorem isLoop_calls (A : Option Addr) (c : Nat) (zs : List (Nat × Nat)) (h3 : 3 ≤ zs.length) (hn : zs.length ≤ 64) (hf : FinP zs) (w : World) (hA : RdC w A zs) :
    Calls Try.prog 33 #[.slice A zs.length c] w fun e w' => e = .returned (.bool true) ∧ ∃ n, w' = w.drewN n := by
  have HC := Frame.hid (areFinitePoints_calls A zs c (by omega) hf w hA)
  have k1 : (3 : Int) ≤ (zs.length : Int) := by omega
  have k2 : (zs.length : Int) ≤ 64 := by omega
  clear hf hA
  go_enter Try.func33, Try.ntmps33
  go_wp2_with fail
  refine HC.out.mono ?_
  rintro e w1 ⟨rfl, n, rfl⟩
  go_wp2_with fail
  go_ret
  exact ⟨rfl, n, rfl⟩

set_option maxRecDepth 100000 in
set_option maxHeartbeats 4000000 in
theorem areaOfLoop_calls (b off c : Nat) (zs : List (Nat × Nat)) (h3 : 3 ≤ zs.length) (hn : zs.length ≤ 64) (hf : FinP zs) (hfin : ∀ r, AreaR (zs ++ [zs.getD 0 (0, 0)]) r → fin .f32 r = true) (w : World) (hA : RdC w (some ⟨b, off, none⟩) zs) :
    Calls Try.prog 12 #[.slice (some ⟨b, off, none⟩) zs.length c] w fun e w' => ∃ r, e = .returned (.tuple #[.float .f32 r, .bool true]) ∧ AreaR (zs ++ [zs.getD 0 (0, 0)]) r ∧ r < 4294967296 ∧ Below w.heap.size w w' := by
  have HC := Frame.hid (isLoop_calls _ c zs h3 hn hf w hA)
  have HD := Frame.hid (fun n : Nat => closed_calls b off c zs (by omega) (by omega) (w.drewN n) (fun h0 => hA h0))
  have HF := Frame.hid hfin
  have hlen : (zs ++ [zs.getD 0 (0, 0)]).length = zs.length + 1 := by simp
  clear hf hA hfin
  go_enter Try.func12, Try.ntmps12
  go_wp2_with fail
  refine HC.out.mono ?_
  rintro e w1 ⟨rfl, n, rfl⟩
  go_wp2_with fail
  refine (HD.out n).mono ?_
  rintro e w1 ⟨g, cap, rfl, hO, hb⟩
  have HB : Hid (Below w.heap.size w w1) := Frame.hid ((below_drewN (Below.refl _ w) n).trans hb)
  have HAB := Frame.hid (areaBeside_calls (zs ++ [zs.getD 0 (0, 0)]) (some ⟨g, 0, none⟩) cap (by omega) (by omega) HF.out w1 hO.rd')
  rw [hlen] at HAB
  clear hO hb HC HD
  go_wp2_with fail
  refine HAB.out.mono ?_
  rintro e w2 ⟨r, rfl, hr, hl, m, rfl⟩
  have HR := Frame.hid hr
  have HL : Unit → r < 4294967296 := fun _ => hl
  clear hr hl
  go_wp2_with fail
  go_ret2
  exact ⟨r, rfl, HR.out, HL (), below_drewN HB.out m⟩

end Go.Proofs.Ytbdmmpkphiilkaa
