/-
  Nets are valid: the program's test.
-/
import Derived.Test.YtnbgnaenlbphcaaO5
namespace Go.Proofs.Ytnbgnaenlbphcaa
open Go.RowKit Fl Go.WideShapes Go.Deep Go.Maps
attribute [local go_sem] kstore_f kalloc_drewN kset_drewN hstore_i hstore_s

theorem grown_cell {w w' : World} {row : Option Nat} {p : Addr} (h : w.grownBy w' row) (hl : p.block < w.heap.size) (hne : some p.block ≠ row) : w'.cell? p = w.cell? p := by
  have := h.block p.block hl hne
  unfold World.cell?
  rw [this]
theorem wf64 {a : Int} (h0 : 0 ≤ a) (h1 : a ≤ 1000000) : w64 a := by
  unfold w64
  have e1 : IntKind.i64.min = -9223372036854775808 := rfl
  have e2 : IntKind.i64.max = 9223372036854775807 := rfl
  simp only [Lit.wf, e1, e2, Bool.and_eq_true, decide_eq_true_eq]
  omega
/-- Facets with room behind them, in a block. -/
structure RdK (w : World) (g : Nat) (fs : List (List Int)) : Prop where
  l : g < w.heap.size
  h : ∀ k, k < fs.length → ∃ gk ck, w.cell? ⟨g, k, none⟩ = some (.slice (some ⟨gk, 0, none⟩) (crn fs k).length ck) ∧ (crn fs k).length ≤ ck ∧ RdJ w (some ⟨gk, 0, none⟩) (crn fs k)
theorem RdK.below {w w' : World} {g : Nat} {fs : List (List Int)} (h : RdK w g fs) (hB : Below w.heap.size w w') : RdK w' g fs := ⟨Nat.lt_of_lt_of_le h.l hB.size, fun k hk => by
  obtain ⟨gk, ck, h1, h2, h3⟩ := h.h k hk
  exact ⟨gk, ck, (hB.cell (p := ⟨g, k, none⟩) h.l).trans h1, h2, h3.below hB⟩⟩
theorem RdG.rdK {w : World} {B g : Nat} {fs : List (List Int)} (h : RdG w B g fs) : RdK w g fs := ⟨h.l, fun k hk => by
  obtain ⟨gk, h1, _, h3⟩ := h.h k hk
  exact ⟨gk, _, h1, Nat.le_refl _, h3⟩⟩
/-- The cells of a facet's sides, in a block. -/
structure Sd3 (g : Nat) (f : List Int) (w : World) : Prop where
  l : g < w.heap.size
  c : ∀ j, j < f.length → w.cell? ⟨g, j * 2, none⟩ = some (.int .i64 (f.getD j 0)) ∧ w.cell? ⟨g, j * 2 + 1, none⟩ = some (.int .i64 (f.getD ((j + 1) % f.length) 0))
theorem Sd3.grown {g : Nat} {f : List Int} {w w' : World} {row : Option Nat} (h : Sd3 g f w) (hg : w.grownBy w' row) (hne : some g ≠ row) : Sd3 g f w' :=
  ⟨Nat.lt_of_lt_of_le h.l hg.size, fun j hj => ⟨(grown_cell (p := ⟨g, _, none⟩) hg h.l hne).trans (h.c j hj).1, (grown_cell (p := ⟨g, _, none⟩) hg h.l hne).trans (h.c j hj).2⟩⟩
theorem Sd3.below {g : Nat} {f : List Int} {w w' : World} (h : Sd3 g f w) (hB : Below w.heap.size w w') : Sd3 g f w' :=
  ⟨Nat.lt_of_lt_of_le h.l hB.size, fun j hj => ⟨(hB.cell (p := ⟨g, _, none⟩) h.l).trans (h.c j hj).1, (hB.cell (p := ⟨g, _, none⟩) h.l).trans (h.c j hj).2⟩⟩
theorem owns_below {P : Program} {k : TypeId} {R : Value → Option (DataW Unit × List MemPlace)} {w w' : World} {b n : Nat} {D : DataW Unit} (h : w.ownsMap P k R b n D) (hB : Below w.heap.size w w') : w'.ownsMap P k R b n D := by
  have hlt := h.lt
  obtain ⟨es, clock, hb, F, hs, hD⟩ := h
  exact ⟨es, clock, (hB.block b hlt).trans hb, F, hs, hD⟩

/-- The program's two maps, after the sides L. -/
structure MapS (w0 : World) (bl bt n : Nat) (L : List (Int × Int)) (wr : World) : Prop where
  h : ∃ (Dl Dt : DataW Unit), wr.ownsMap Try.prog 2 (plainElem Try.prog 4) bl n Dl ∧ wr.ownsMap Try.prog 107 (plainElem Try.prog 4) bt L.length Dt ∧ LonS n L Dl ∧ ThrS L Dt
  ne : bl ≠ bt
  l : w0.heap.size ≤ bl
  t : w0.heap.size ≤ bt
  b : Below w0.heap.size w0 wr
theorem MapS.below {w0 wr w' : World} {bl bt n : Nat} {L : List (Int × Int)} (h : MapS w0 bl bt n L wr) (hB : Below wr.heap.size wr w') : MapS w0 bl bt n L w' := by
  obtain ⟨Dl, Dt, h1, h2, h3, h4⟩ := h.h
  exact ⟨⟨Dl, Dt, owns_below h1 hB, owns_below h2 hB, h3, h4⟩, h.ne, h.l, h.t, h.b.trans (hB.mono h.b.size)⟩

theorem sds_app (a b : List (List Int)) : sds (a ++ b) = sds a ++ sds b := by simp [sds]
theorem sdp_prefix {fs : List (List Int)} {k : Nat} (j : Nat) (hk : k < fs.length) : sdp fs k j <+: sds fs := by
  have e : fs = fs.take k ++ (crn fs k :: fs.drop (k + 1)) := by
    have e1 : crn fs k = fs[k] := by simp [crn, List.getD_eq_getElem?_getD, hk]
    rw [e1, List.getElem_cons_drop, List.take_append_drop]
  refine ⟨(sdF (crn fs k)).drop j ++ sds (fs.drop (k + 1)), ?_⟩
  have e2 : sds fs = sds (fs.take k) ++ (sdF (crn fs k) ++ sds (fs.drop (k + 1))) := by
    rw [← sds_cons, ← sds_app, ← e]
  rw [e2]
  unfold sdp
  rw [List.append_assoc, ← List.append_assoc ((sdF (crn fs k)).take j), List.take_append_drop]
theorem nodup_pre {L M : List (Int × Int)} (h : L <+: M) (hn : M.Nodup) : L.Nodup := by
  obtain ⟨t, rfl⟩ := h
  exact (List.nodup_append.1 hn).1
theorem MapS.next {w0 wr w4 w5 w6 : World} {bl bt n : Nat} {L : List (Int × Int)} {Dl Dt : DataW Unit} {x y : Int} (h : MapS w0 bl bt n L wr) (hB : Below wr.heap.size wr w4) (h3 : LonS n L Dl) (h4 : ThrS L Dt) (hD : IsMap Dt) (wx : w64 x) (wy : w64 y)
    (h5 : w5.ownsMap Try.prog 107 (plainElem Try.prog 4) bt (L.length + 1) (Dt.put (sdK x y) (.lit (.bool true)))) (g5 : w4.grownBy w5 (some bt))
    (h6 : w6.ownsMap Try.prog 2 (plainElem Try.prog 4) bl n (Dl.del (.int .i64 x))) (g6 : w5.grownBy w6 (some bl)) : MapS w0 bl bt n (L ++ [(x, y)]) w6 := by
  have hs4 := hB.size
  have hs5 := g5.size
  have hs0 := h.b.size
  refine ⟨⟨Dl.del (.int .i64 x), _, h6, ?_, h3.del (x, y), h4.put hD wx wy⟩, h.ne, h.l, h.t, ?_⟩
  · rw [List.length_append]
    exact h5.kept g6 (fun e => h.ne (by injection e with e; exact e.symm))
  · exact ((h.b.trans (hB.mono hs0)).grown g5 (by omega) (fun k hk => by injection hk with hk; have := h.t; omega)).grown g6 (by omega) (fun k hk => by injection hk with hk; have := h.l; omega)

theorem zeroBool (w : World) : (zeroValue 4).run Try.prog w = .ok (.bool false) w := by kernel_rfl

set_option maxRecDepth 100000 in
set_option maxHeartbeats 8000000 in
theorem validNet_calls (A B : Option Addr) (xs : List (Nat × Nat × Nat)) (fs : List (List Int)) (n m c d : Nat) (hx : n = xs.length) (hn : n ≤ 1048576) (hm : m = fs.length) (hml : m ≤ 1048576) (w : World) (hA : RdS w A xs) (hB : 0 < m → ∃ g, B = some ⟨g, 0, none⟩ ∧ RdK w g fs) :
    Calls Try.prog 28 #[.agg #[.slice A n c, .slice B m d]] w fun e w' => BoolIs (NetV xs fs) e ∧ Below w.heap.size w w' := by
  have HX := Frame.hid hx
  have HM := Frame.hid hm
  have HA := Frame.hid hA
  have HK := Frame.hid hB
  have HB0 := Frame.hid ((Below.refl w.heap.size w).alloc (Nat.le_refl _) (.cells #[.slice A n c, .slice B m d] 43))
  clear hx hm hA hB
  have bad : ¬ (3 ≤ n ∧ n ≤ 256 ∧ 1 ≤ m ∧ m ≤ 256) → ¬ NetV xs fs := fun h g => h ⟨by have := g.1.1; have := HX.out; omega, by have := g.1.2; have := HX.out; omega, by have := g.2.1.1; have := HM.out; omega, by have := g.2.1.2; have := HM.out; omega⟩
  have HBAD := Frame.hid bad
  clear bad
  by_cases h1 : n < 3
  · have HN := Frame.hid (HBAD.out fun h => by omega)
    go_enter Try.func28, Try.ntmps28
    go_wp2
    go_ret
    exact ⟨BoolIs.no HN.out, HB0.out⟩
  by_cases h2 : 256 < n
  · have HN := Frame.hid (HBAD.out fun h => by omega)
    go_enter Try.func28, Try.ntmps28
    go_wp2
    go_ret
    exact ⟨BoolIs.no HN.out, HB0.out⟩
  by_cases h3 : m < 1
  · have HN := Frame.hid (HBAD.out fun h => by omega)
    go_enter Try.func28, Try.ntmps28
    go_wp2
    go_ret
    exact ⟨BoolIs.no HN.out, HB0.out⟩
  by_cases h4 : 256 < m
  · have HN := Frame.hid (HBAD.out fun h => by omega)
    go_enter Try.func28, Try.ntmps28
    go_wp2
    go_ret
    exact ⟨BoolIs.no HN.out, HB0.out⟩
  obtain ⟨g, rfl, hK⟩ := HK.out (by omega)
  have hmm := @run_makeMap Try.prog
  go_enter Try.func28, Try.ntmps28
  go_wp2
  have hN := Nt2.here w (.slice A n c) (.slice (some ⟨g, 0, none⟩) m d) 43
  obtain ⟨w0, hw0⟩ : ∃ w0, w0 = w.alloc (.cells #[.slice A n c, .slice (some ⟨g, 0, none⟩) m d] 43) := ⟨_, rfl⟩
  have HBW : Hid (Below w.heap.size w w0) := by rw [hw0]; exact HB0.out
  obtain ⟨g0, hg0⟩ : ∃ g0, g0 = w.heap.size := ⟨_, rfl⟩
  obtain ⟨bl, hbl⟩ : ∃ bl, bl = w.heap.size + 1 := ⟨_, rfl⟩
  have hsz0 : w0.heap.size = bl := by rw [hw0, hbl]; simp
  have hMD := World.ownsMap_made w0 Try.prog 2 (plainElem (H := Unit) Try.prog 4)
  rw [hsz0] at hMD
  rw [← hw0, ← hg0] at hN
  rw [← hw0, ← hbl, ← hg0]
  have HMD := Frame.hid hMD
  have HN := Frame.hid hN
  have HK0 := Frame.hid (hK.below HBW.out)
  have HA0 := Frame.hid (HA.out.below HBW.out)
  have HS0 := Frame.hid hsz0
  have HB1 : Hid (Below bl w0 (w0.alloc (.map #[] 0))) := by rw [← hsz0]; exact (Below.refl _ _).alloc (Nat.le_refl _) _
  clear hN hw0 hg0 hbl hsz0 hMD hK HA HB0 HK
  go_loopw [36] (fun iv wr => ∃ (i : Nat) (D : DataW Unit), i ≤ n ∧ iv = .int .i64 i ∧ wr.ownsMap Try.prog 2 (plainElem Try.prog 4) bl i D ∧ LonS i [] D ∧ Below bl w0 wr) (fun iv _ => n - (intOf iv).toNat)
  case atStart => exact ⟨0, _, Nat.zero_le _, rfl, HMD.out, LonS.none, HB1.out⟩
  case round =>
    obtain ⟨i, D, hi, rfl, hown, hL, hB⟩ := hrel
    have HL := Frame.hid hL
    have HB := Frame.hid hB
    by_cases hlt : i < n
    · have hwf := wf64 (a := (i : Int)) (by omega) (by omega)
      have hbt : (plainElem (H := Unit) Try.prog 4 (.bool true)) = some (.lit (.bool true), []) := plainElem_bool Try.underlying4 true
      clear hL hB
      go_wp2_with (at_mapUpdate; refine wpList_mapUpdate_own _ rfl _ _ _ 101 rfl 2 4 keyI Try.underlying101 (plainElem (H := Unit) Try.prog 4) bl i D rfl hown (by unfold maxLen; omega) _ _ (.int .i64 (i : Int)) rfl rfl (keyOf_i64 hwf) (.lit (.bool true)) [] hbt ?_; intro w2 hown2 hgrow2)
      exact ⟨⟨i + 1, _, by omega, by go_num, hown2, HL.out.put hown.isMap _, HB.out.grown hgrow2 (by have := HB.out.size; have := HS0.out; omega) (fun k hk => by injection hk with hk; omega)⟩, by simp [intOf]; omega⟩
    · have hin : i = n := by omega
      subst hin
      have HMS : Hid (MapS w0 bl wr.heap.size i [] (wr.alloc (.map #[] 0))) := by
        have h1 := hB.size
        have h2 := HS0.out
        have h3 := hown.lt
        refine ⟨⟨D, .map [], hown.alloc _, World.ownsMap_made _ _ _ _, hL, ThrS.none⟩, by omega, by omega, by omega, ?_⟩
        rw [h2]
        exact hB.alloc (by omega) _
      have HOT := Frame.hid hown.lt
      have k1 := (HN.out.below HMS.out.b).c1
      clear hown hL hB HL HB HMD HB1 hlt hi
      go_wp2
      clear k1
      obtain ⟨bt, hbt⟩ : ∃ bt, bt = wr.heap.size := ⟨_, rfl⟩
      obtain ⟨W1, hW1⟩ : ∃ W1, W1 = wr.alloc (.map #[] 0) := ⟨_, rfl⟩
      rw [← hW1, ← hbt] at HMS
      rw [← hW1, ← hbt]
      clear hW1 hbt HOT
      go_loopw [46] (fun kv wr => ∃ k : Nat, k ≤ m ∧ kv = .int .i64 k ∧ (∀ j, j < k → FacV i (crn fs j)) ∧ (sdp fs k 0).Nodup ∧ (sdp fs k 0).length ≤ 8 * k ∧ MapS w0 bl bt i (sdp fs k 0) wr) (fun kv _ => m - (intOf kv).toNat)
      case atStart => exact ⟨0, Nat.zero_le _, rfl, fun j hj => absurd hj (by omega), List.nodup_nil, Nat.zero_le _, HMS.out⟩
      case round =>
        obtain ⟨k, hk, rfl, hF, hD, hLL, hMS⟩ := hrel
        have HF := Frame.hid hF
        have HD := Frame.hid hD
        have HLL := Frame.hid hLL
        have HM2 := Frame.hid hMS
        clear hF hD hLL hMS
        by_cases hlt : k < m
        · obtain ⟨gk, ck, c1, hck, c2⟩ := (HK0.out.below HM2.out.b).h k (by have := HM.out; omega)
          have k0 := (HN.out.below HM2.out.b).c0
          have kl := (HN.out.below HM2.out.b).l
          obtain ⟨p, hp⟩ : ∃ p, p = (crn fs k).length := ⟨_, rfl⟩
          rw [← hp] at c1 hck
          have HP := Frame.hid hp
          have HIA := Frame.hid (fun W (hW : Below wr.heap.size wr W) => isAmong_calls (some ⟨gk, 0, none⟩) (crn fs k) p ck i A c HP.out hck W (c2.below hW))
          clear hp
          by_cases hv : FacV i (crn fs k)
          · have HV := Frame.hid hv
            clear hv
            have hp38 : 3 ≤ p ∧ p ≤ 8 := ⟨by have := HV.out.1; have := HP.out; omega, by have := HV.out.2.1; have := HP.out; omega⟩
            have HSD := Frame.hid (fun W (hW : Below wr.heap.size wr W) => sides_calls gk 0 ck p (crn fs k) HP.out hp38.1 hp38.2 W (c2.below hW))
            have hW0 : Below wr.heap.size wr (wr.alloc (.cells #[.slice (some ⟨gk, 0, none⟩) p ck] 94)) := (Below.refl _ _).alloc (Nat.le_refl _) _
            clear c2
            go_wp2_with (first
              | (go_at_call 75; refine (HIA.out _ hW0).mono ?_; rintro e w' ⟨⟨r, rfl, hr⟩, hB⟩; have hr1 : r = true := hr.2 HV.out; subst hr1; have c7 : w'.cell? ⟨wr.heap.size, 0, none⟩ = some (.slice (some ⟨gk, 0, none⟩) p ck) := (hB.cell (p := ⟨wr.heap.size, 0, none⟩) (by simp)).trans (by simp [go_sem]); have hW1 := hW0.trans (hB.mono hW0.size); clear hr hB hW0 k0 c1)
              | (go_at_call 76; refine (HSD.out _ hW1).mono ?_; rintro e w2 ⟨gs, rfl, hS1, hS2, hS3, hS4⟩; have HSC := Frame.hid (show Sd3 gs (crn fs k) w2 from ⟨hS2, hS1⟩); have HW2 := Frame.hid (hW1.trans (hS4.mono hW1.size)); have HGS := Frame.hid (Nat.le_trans hW1.size hS3); rw [← HP.out]; clear c7 hS1 hS2 hS3 hS4 hW1))
            have HNL := Frame.hid (show gs ≠ bl ∧ gs ≠ bt from by
              obtain ⟨Dl, Dt, h1, h2, _, _⟩ := HM2.out.h
              have := h1.lt
              have := h2.lt
              have := HGS.out
              exact ⟨by omega, by omega⟩)
            obtain ⟨f, hf⟩ : ∃ f, f = crn fs k := ⟨_, rfl⟩
            rw [← hf] at HSC
            have HFF := Frame.hid hf
            have HMS3 := Frame.hid (HM2.out.below HW2.out)
            have HPF : Hid (p = f.length) := Frame.hid (by rw [hf]; exact HP.out)
            have HVF : Hid (FacV i f) := Frame.hid (by rw [hf]; exact HV.out)
            clear hf HM2 HW2 HIA HSD
            go_loopw [58] (fun jv wr => ∃ j : Nat, j ≤ p ∧ jv = .int .i64 j ∧ (sdp fs k j).Nodup ∧ (sdp fs k j).length ≤ 8 * k + j ∧ MapS w0 bl bt i (sdp fs k j) wr ∧ Sd3 gs f wr) (fun jv _ => p - (intOf jv).toNat)
            case atStart => exact ⟨0, Nat.zero_le _, rfl, HD.out, HLL.out, HMS3.out, HSC.out⟩
            case round =>
              obtain ⟨j, hj, rfl, hD, hLL, hMS, hS⟩ := hrel
              by_cases hlt2 : j < p
              · obtain ⟨L, hL⟩ : ∃ L, L = sdp fs k j := ⟨_, rfl⟩
                rw [← hL] at hD hLL hMS
                have hjl : j < f.length := by have := HPF.out; omega
                obtain ⟨c1, c2⟩ := hS.c j hjl
                obtain ⟨x, hx⟩ : ∃ x, x = f.getD j 0 := ⟨_, rfl⟩
                obtain ⟨y, hy⟩ : ∃ y, y = f.getD ((j + 1) % f.length) 0 := ⟨_, rfl⟩
                rw [← hx] at c1
                rw [← hy] at c2
                have hnx : sdp fs k (j + 1) = L ++ [(x, y)] := by rw [sdp_next fs k j (by rw [← HFF.out]; exact hjl), hL, hx, hy, HFF.out]
                have bx := HVF.out.2.2.1 j hjl
                have by' := HVF.out.2.2.1 ((j + 1) % f.length) (Nat.mod_lt _ (by omega))
                rw [← hx] at bx
                rw [← hy] at by'
                have wx : w64 x := wf64 bx.1 (by omega)
                have wy : w64 y := wf64 by'.1 (by omega)
                obtain ⟨Dl, Dt, o1, o2, h3', h4'⟩ := hMS.h
                have hat := h4' x y wx wy
                have hLen : L.length ≤ 2048 + 8 := by omega
                have HNX := Frame.hid hnx
                have HDD := Frame.hid hD
                have HLN := Frame.hid hLL
                have HMM := Frame.hid hMS
                have HSS := Frame.hid hS
                have H3 := Frame.hid h3'
                have H4 := Frame.hid h4'
                have hW4 : Below wr.heap.size wr (wr.alloc (.cells #[.int .i64 x, .int .i64 y] 107)) := (Below.refl _ _).alloc (Nat.le_refl _) _
                have HW4 := Frame.hid hW4
                have p1 := o1.alloc (.cells #[.int .i64 x, .int .i64 y] 107)
                have p2 := o2.alloc (.cells #[.int .i64 x, .int .i64 y] 107)
                have hbt : (plainElem (H := Unit) Try.prog 4 (.bool true)) = some (.lit (.bool true), []) := plainElem_bool Try.underlying4 true
                clear hL hD hLL hMS hS hx hy hnx bx by' h3' h4' hW4 hjl o1 o2
                by_cases hmem : (x, y) ∈ L
                · have HME := Frame.hid hmem
                  rw [decide_eq_true hmem] at hat
                  clear hmem
                  go_wp2_with (at_lookup; refine wpList_lookup_own_bool _ rfl _ _ 102 rfl 107 4 keyP Try.underlying102 Try.underlying4 (zeroBool _) bt L.length Dt rfl p2 _ (sdK x y) rfl (keyOf_side wx wy) true hat ?_)
                  go_ret
                  refine ⟨BoolIs.no fun h => ?_, (HBW.out.trans (HMM.out.b.mono HBW.out.size)).trans (HW4.out.mono (Nat.le_trans HBW.out.size HMM.out.b.size))⟩
                  have h5 := nodup_pre (sdp_prefix (k := k) (j + 1) (by have := HM.out; omega)) h.2.2.2.2.1
                  rw [HNX.out, List.nodup_append] at h5
                  exact h5.2.2 _ HME.out _ (by simp) rfl
                · have HME := Frame.hid hmem
                  rw [decide_eq_false hmem] at hat
                  have HOT2 := Frame.hid (show bt < wr.heap.size from by obtain ⟨_, _, _, h2, _, _⟩ := HMM.out.h; exact h2.lt)
                  have hDt := p2.isMap
                  have HDT := Frame.hid hDt
                  clear hmem hDt
                  go_wp2_with (first
                    | (at_lookup; refine wpList_lookup_own_bool _ rfl _ _ 102 rfl 107 4 keyP Try.underlying102 Try.underlying4 (zeroBool _) bt L.length Dt rfl p2 _ (sdK x y) rfl (keyOf_side wx wy) false hat ?_; clear hat)
                    | (at_mapUpdate; refine wpList_mapUpdate_own _ rfl _ _ _ 102 rfl 107 4 keyP Try.underlying102 (plainElem (H := Unit) Try.prog 4) bt L.length Dt rfl p2 (by unfold maxLen; omega) _ _ (sdK x y) rfl rfl (keyOf_side wx wy) (.lit (.bool true)) [] hbt ?_; intro w5 hown5 hgrow5; have HO5 := Frame.hid hown5; have HG5 := Frame.hid hgrow5; have p3 := p1.kept hgrow5 (fun e => HMM.out.ne (by injection e)); have d9 : w5.cell? ⟨wr.heap.size, 0, none⟩ = some (.int .i64 x) := (grown_cell (p := ⟨wr.heap.size, 0, none⟩) hgrow5 (by simp) (fun e => by injection e with e; have e' : wr.heap.size = bt := e; have h2 := HOT2.out; omega)).trans (by simp [go_sem]); clear hown5 hgrow5 p2 p1)
                    | (at_delete; refine wpList_delete_own _ rfl _ _ 101 2 rfl 4 keyI Try.underlying101 (plainElem (H := Unit) Try.prog 4) bl i Dl rfl p3 _ (.int .i64 x) rfl (keyOf_i64 wx) ?_; intro w6 hown6 hturn6; have HO6 := Frame.hid hown6; have HG6 := Frame.hid hturn6.grown; clear hown6 hturn6 p3 d9))
                  refine ⟨⟨j + 1, by omega, by go_num, ?_, ?_, ?_, ?_⟩, by simp [intOf]; omega⟩
                  · rw [HNX.out, List.nodup_append]
                    refine ⟨HDD.out, by simp, fun a ha b hb => ?_⟩
                    simp at hb
                    subst hb
                    intro e
                    subst e
                    exact HME.out ha
                  · rw [HNX.out, List.length_append]
                    have := HLN.out
                    simp only [List.length_cons, List.length_nil]
                    omega
                  · rw [HNX.out]
                    exact HMM.out.next HW4.out H3.out H4.out HDT.out wx wy HO5.out HG5.out HO6.out HG6.out
                  · exact ((HSS.out.below HW4.out).grown HG5.out (fun e => HNL.out.2 (by injection e))).grown HG6.out (fun e => HNL.out.1 (by injection e))
              · have hjp : j = p := by omega
                have HJP := Frame.hid hjp
                have HDD := Frame.hid hD
                have HLN := Frame.hid hLL
                have HMM := Frame.hid hMS
                clear hjp hD hLL hMS hS
                go_wp2
                go_roundw
                case rel =>
                  have e := sdp_full fs k (by have := HM.out; omega)
                  have e3 : j = (crn fs k).length := by rw [HJP.out, HP.out]
                  rw [← e3] at e
                  have hL2 := HLN.out
                  have hj8 : j ≤ 8 := by have := HJP.out; omega
                  refine ⟨k + 1, by omega, by go_num, fun j' hj' => ?_, by rw [← e]; exact HDD.out, by rw [← e]; omega, by rw [← e]; exact HMM.out⟩
                  rcases Nat.lt_or_ge j' k with g3 | g3
                  · exact HF.out j' g3
                  · obtain rfl : j' = k := by omega
                    exact HV.out
                case measure => simp [intOf]; omega
          · have HV := Frame.hid hv
            clear hv
            have hW0 : Below wr.heap.size wr (wr.alloc (.cells #[.slice (some ⟨gk, 0, none⟩) p ck] 94)) := (Below.refl _ _).alloc (Nat.le_refl _) _
            clear c2
            go_wp2_with (go_at_call 75; refine (HIA.out _ hW0).mono ?_; rintro e w' ⟨⟨r, rfl, hr⟩, hB⟩; have hr1 : r = false := Bool.eq_false_iff.2 fun h => HV.out (hr.1 h); subst hr1; have HW1 := Frame.hid (hW0.trans (hB.mono hW0.size)); clear hr hB hW0 k0 c1)
            go_ret
            refine ⟨BoolIs.no fun h => HV.out ?_, (HBW.out.trans (HM2.out.b.mono HBW.out.size)).trans (HW1.out.mono (Nat.le_trans HBW.out.size HM2.out.b.size))⟩
            rw [HX.out]
            exact h.2.2.2.1 k (by rw [← HM.out]; exact hlt)
        · have hkm : k = m := by omega
          have HKM := Frame.hid hkm
          have HAL := Frame.hid (show sdp fs k 0 = sds fs by rw [hkm, HM.out]; exact sdp_all fs)
          obtain ⟨Dl, Dt, o1, o2, h3', h4'⟩ := HM2.out.h
          rw [HAL.out] at h3'
          obtain ⟨z, hz⟩ : ∃ z, z = Maps.size Dl := ⟨_, rfl⟩
          have k0 := (HN.out.below HM2.out.b).c0
          have H3 := Frame.hid h3'
          have O1 := Frame.hid o1
          have HZ := Frame.hid hz
          have HAS := Frame.hid (show Calls Try.prog 77 #[.slice A i c] wr (fun e w' => e = .returned (.bool (finS xs)) ∧ Below wr.heap.size wr w') by have h := areSpots_calls A xs c wr (by have := HX.out; omega) (HA0.out.below HM2.out.b); rw [← HX.out] at h; exact h)
          clear hkm o2 h3' h4' hz
          by_cases hz0 : z = 0
          · have HZ0 := Frame.hid hz0
            clear hz0
            go_wp2_with (first
              | (at_len; refine wpList_len_own _ rfl _ 101 rfl 2 4 Try.underlying101 (plainElem (H := Unit) Try.prog 4) bl i Dl rfl o1 ?_; rw [← HZ.out, HZ0.out]; clear o1)
              | (go_at_call 77; refine HAS.out.mono ?_; rintro e w' ⟨rfl, hB⟩; have HW1 := Frame.hid hB; clear hB k0))
            go_ret
            refine ⟨⟨finS xs, rfl, ⟨fun hfin => ?_, fun h => h.2.2.1⟩⟩, (HBW.out.trans (HM2.out.b.mono HBW.out.size)).trans (HW1.out.mono (Nat.le_trans HBW.out.size HM2.out.b.size))⟩
            have e1 := HX.out
            have e2 := HM.out
            have hfa := HF.out
            rw [e1] at hfa
            refine ⟨by omega, by omega, hfin, fun j hj => hfa j (by have := HKM.out; omega), by rw [← HAL.out]; exact HD.out, fun j hj => ?_⟩
            apply Classical.byContradiction
            intro hno
            have h5 := H3.out.b j (by omega) fun s hs e => hno ⟨s, hs, e⟩
            exact size_pos O1.out.isMap h5 (by rw [← HZ.out, HZ0.out])
          · have HZ0 := Frame.hid hz0
            have hzb : ((z : Int) == 0) = false := by simpa using hz0
            clear hz0
            go_wp2_with (first
              | (at_len; refine wpList_len_own _ rfl _ 101 rfl 2 4 Try.underlying101 (plainElem (H := Unit) Try.prog 4) bl i Dl rfl o1 ?_; rw [← HZ.out]; clear o1))
            go_ret
            refine ⟨BoolIs.no fun h => HZ0.out ?_, HBW.out.trans (HM2.out.b.mono HBW.out.size)⟩
            rw [HZ.out]
            refine owns_empty O1.out keyI fun l => ?_
            cases hl : Maps.has Dl l
            · rfl
            · obtain ⟨j, hj, _, hno⟩ := H3.out.a l hl
              obtain ⟨s, hs, e⟩ := h.2.2.2.2.2 j (by have := HX.out; omega)
              exact absurd e (hno s hs)
end Go.Proofs.Ytnbgnaenlbphcaa
