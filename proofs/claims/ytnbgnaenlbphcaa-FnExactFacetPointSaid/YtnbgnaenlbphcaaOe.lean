/-
  The law of FacetPoint, walked.
-/
import Derived.Test.YtnbgnaenlbphcaaOd
namespace Go.Proofs.Ytnbgnaenlbphcaa
open Go.RowKit Fl Go.WideShapes Go.Deep
attribute [local go_sem] kstore_f kalloc_drewN kset_drewN hstore_i hstore_s

set_option maxRecDepth 100000 in
set_option maxHeartbeats 8000000 in
theorem fnExactFacetPoint_walk (A : Option Addr) (xs : List (Nat × Nat × Nat)) (c : Nat) (hl : xs.length ≤ maxLen) (B : Option Addr) (fs : List (List Int)) (d : Nat) (hk : fs.length ≤ maxLen) (hfl : ∀ k, (crn fs k).length ≤ maxLen) (q : Int) (hfx : Fit xs) (w : World) (hr : RdS w A xs) (hf : RdF w B fs) :
    Calls Try.prog 9 #[.agg #[.slice A xs.length c, .slice B fs.length d], .int .i64 q] w fun e w' => e = .returned (.bool true) ∧ Below w.heap.size w w' := by
  obtain ⟨n, hxn⟩ : ∃ n, n = xs.length := ⟨_, rfl⟩
  obtain ⟨m, hm⟩ : ∃ m, m = fs.length := ⟨_, rfl⟩
  rw [← hxn] at hl ⊢
  rw [← hm] at hk ⊢
  have HX := Frame.hid hxn
  have HM := Frame.hid hm
  have HSZ := Frame.hid (fun L (hL : L ≤ 1048576) W (h : RdF W B fs) => szNet_calls A B fs n m c d L hl hm hk hfl hL W h)
  have HFX := Frame.hid hfx
  have HR := Frame.hid (fun W (hW : Below w.heap.size w W) => hr.below hW)
  have HF := Frame.hid (fun W (hW : Below w.heap.size w W) => hf.below hW)
  have HS0 := Frame.hid (Nt2.here w (.slice A n c) (.slice B m d) 38)
  have hb2 : Below w.heap.size w (w.alloc (.cells #[.slice A n c, .slice B m d] 38)) := (Below.refl _ _).alloc (Nat.le_refl _) _
  clear hxn hm hl hk hfl hfx hr hf
  go_enter Try.func9, Try.ntmps9
  go_wp2_with fail
  refine (HSZ.out 1048576 (Nat.le_refl _) _ (HF.out _ hb2)).mono ?_
  rintro e w1 ⟨hz, hB1⟩
  have HS1 := Frame.hid (HS0.out.below hB1)
  have HB1 := Frame.hid (hb2.trans (hB1.mono hb2.size))
  clear hB1 hb2
  rcases hz with rfl | ⟨L, rfl, hL, hnl, hml, hfl⟩
  · go_wp2_with fail
    go_ret
    exact ⟨rfl, HB1.out⟩
  · have HFL := Frame.hid hfl
    have k0 := HS1.out.c0
    have k1 := HS1.out.c1
    have hL0 : ¬ (L : Int) < 0 := by omega
    have HTO := Frame.hid (fun W (hW : Below w.heap.size w W) => toNet_calls A B xs fs n m c d HX.out hnl HM.out hml HFL.out W (HR.out W hW) (HF.out W hW))
    have HSV := Frame.hid (fun (a b : Option Addr) W (h1 : RdS W a xs) (h2 : RdF W b fs) => specFacetPoint_calls a b xs fs n m n m q HX.out HM.out hml hnl HFX.out HFL.out W h1 h2)
    have HIV := Frame.hid (fun (a : Option Addr) (h : Nat) W (h1 : RdS W a xs) (h2 : RdK W h fs) => facetPoint_calls a h xs fs n m n m q HX.out HM.out hml hnl W h1 h2)
    have HEQ := Frame.hid (fun (a b a' b' : Option Addr) W (h1 : RdS W a xs) (h2 : RdF W b fs) (h3 : RdS W a' xs) (h4 : RdF W b' fs) => eqNet_calls a b a' b' xs fs n m n m n m HX.out hnl HM.out hml HFL.out W h1 h3 h2 h4)
    clear hfl
    go_wp2_with fail
    refine (HTO.out _ HB1.out).mono ?_
    rintro e w2 ⟨g2, h2, rfl, hR2, hF2, hB2, hg2⟩
    have HS2 := Frame.hid (HS1.out.below hB2)
    have HB2 := Frame.hid (HB1.out.trans (hB2.mono HB1.out.size))
    have HR2 := Frame.hid hR2
    have HF2 := Frame.hid hF2
    clear hB2 hR2 hF2 k0 k1
    go_wp2_with fail
    refine (HSV.out _ _ _ HR2.out HF2.out.rd).mono ?_
    rintro e w3 ⟨⟨x, y, z, ok, rfl, hV⟩, hB3⟩
    have HV := Frame.hid hV
    have hX3 : Below w3.heap.size w3 (w3.alloc (.cells #[.float .f32 x, .float .f32 y, .float .f32 z] 57)) := (Below.refl _ _).alloc (Nat.le_refl _) _
    have HS3 := Frame.hid ((HS2.out.below hB3).below hX3)
    have HA3 := Frame.hid (At3.here w3 x y z 57)
    have hl3 : w3.heap.size < (w3.alloc (.cells #[.float .f32 x, .float .f32 y, .float .f32 z] 57)).heap.size := by simp
    have HB3 := Frame.hid ((HB2.out.trans (hB3.mono HB2.out.size)).trans (hX3.mono (Nat.le_trans HB2.out.size hB3.size)))
    have k0 := HS3.out.c0
    have k1 := HS3.out.c1
    clear hB3 hV hX3
    go_wp2_with fail
    refine (HTO.out _ HB3.out).mono ?_
    rintro e w5 ⟨g5, h5, rfl, hR5, hF5, hB5, hg5⟩
    have hX5 : Below w5.heap.size w5 (w5.alloc (.cells #[.slice (some ⟨g5, 0, none⟩) n n, .slice (some ⟨h5, 0, none⟩) m m] 43)) := (Below.refl _ _).alloc (Nat.le_refl _) _
    have HS5 := Frame.hid ((HS3.out.below hB5).below hX5)
    have HA5 := Frame.hid ((HA3.out.keep hB5 hl3).keep hX5 (Nat.lt_of_lt_of_le hl3 hB5.size))
    have hl5 : w3.heap.size < (w5.alloc (.cells #[.slice (some ⟨g5, 0, none⟩) n n, .slice (some ⟨h5, 0, none⟩) m m] 43)).heap.size := Nat.lt_of_lt_of_le (Nat.lt_of_lt_of_le hl3 hB5.size) hX5.size
    have HN5 := Frame.hid (Nt2.here w5 (.slice (some ⟨g5, 0, none⟩) n n) (.slice (some ⟨h5, 0, none⟩) m m) 43)
    have HQ5 := Frame.hid (hR5.below hX5)
    have HP5 := Frame.hid (hF5.below hX5)
    have HB5 := Frame.hid ((HB3.out.trans (hB5.mono HB3.out.size)).trans (hX5.mono (Nat.le_trans HB3.out.size hB5.size)))
    clear hB5 hX5 hR5 hF5 k0 k1 hl3
    go_wp2_with fail
    refine (HIV.out _ _ _ HQ5.out HP5.out.rdK).mono ?_
    rintro e w6 ⟨⟨X, Y, Z, OK, rfl, hV⟩, hB6⟩
    obtain ⟨hsm, hok⟩ := MidO.same hV HV.out
    subst hok
    have HSM := Frame.hid hsm
    have hne : (OK != OK) = false := by simp
    have hX6 : Below w6.heap.size w6 (w6.alloc (.cells #[.float .f32 X, .float .f32 Y, .float .f32 Z] 57)) := (Below.refl _ _).alloc (Nat.le_refl _) _
    have hA6 := (HA5.out.keep hB6 hl5).keep hX6 (Nat.lt_of_lt_of_le hl5 hB6.size)
    have hC6 := At3.here w6 X Y Z 57
    have c0 := hA6.c0
    have c1 := hA6.c1
    have c2 := hA6.c2
    have d0 := hC6.c0
    have d1 := hC6.c1
    have d2 := hC6.c2
    have HN6 := Frame.hid ((HN5.out.below hB6).below hX6)
    have HQ6 := Frame.hid ((HQ5.out.below hB6).below hX6)
    have HP6 := Frame.hid ((HP5.out.below hB6).below hX6)
    have HS6 := Frame.hid ((HS5.out.below hB6).below hX6)
    have HB6 := Frame.hid ((HB5.out.trans (hB6.mono HB5.out.size)).trans (hX6.mono (Nat.le_trans HB5.out.size hB6.size)))
    clear hB6 hX6 hA6 hC6 hV hsm hl5 HSV HIV HSZ
    go_wp2_with fail
    refine (eqSpot_calls _ _ _ _ _ _ HSM.out _).mono ?_
    rintro e w7 ⟨rfl, hB7⟩
    have HN7 := Frame.hid (HN6.out.below hB7)
    have HQ7 := Frame.hid (HQ6.out.below hB7)
    have HP7 := Frame.hid (HP6.out.below hB7)
    have HS7 := Frame.hid (HS6.out.below hB7)
    have HB7 := Frame.hid (HB6.out.trans (hB7.mono HB6.out.size))
    clear hB7 c0 c1 c2 d0 d1 d2
    have k0 := HN7.out.c0
    have k1 := HN7.out.c1
    have j0 := HS7.out.c0
    have j1 := HS7.out.c1
    have q1 := HN7.out.l
    have q2 := HS7.out.l
    have hST : SK w7.heap.size w7 [((⟨w5.heap.size, 0, none⟩ : Addr), (.slice (some ⟨g5, 0, none⟩) n n : Value)), ((⟨w5.heap.size, 1, none⟩ : Addr), (.slice (some ⟨h5, 0, none⟩) m m : Value)), ((⟨w.heap.size, 0, none⟩ : Addr), (.slice A n c : Value)), ((⟨w.heap.size, 1, none⟩ : Addr), (.slice B m d : Value))] w7 := SK.start (Nat.le_refl _) (by intro p hp; simp at hp; rcases hp with rfl | rfl | rfl | rfl <;> assumption) (by intro p hp; simp at hp; rcases hp with rfl | rfl | rfl | rfl <;> assumption)
    clear q1 q2 k0 k1 j0 j1
    go_wp2_with fail
    go_region_held3 (fun W => W.cell? ⟨w5.heap.size, 0, none⟩ = some (.slice (some ⟨g5, 0, none⟩) n n) ∧ W.cell? ⟨w5.heap.size, 1, none⟩ = some (.slice (some ⟨h5, 0, none⟩) m m) ∧ W.cell? ⟨w.heap.size, 0, none⟩ = some (.slice A n c) ∧ W.cell? ⟨w.heap.size, 1, none⟩ = some (.slice B m d) ∧ w7.heap.size ≤ W.heap.size ∧ SK w7.heap.size w7 [((⟨w5.heap.size, 0, none⟩ : Addr), (.slice (some ⟨g5, 0, none⟩) n n : Value)), ((⟨w5.heap.size, 1, none⟩ : Addr), (.slice (some ⟨h5, 0, none⟩) m m : Value)), ((⟨w.heap.size, 0, none⟩ : Addr), (.slice A n c : Value)), ((⟨w.heap.size, 1, none⟩ : Addr), (.slice B m d : Value))] W) ((refine SK_all4 ?_; (repeat' first | with_reducible assumption | exact SK_of4 (by with_reducible assumption) | exact hST | apply SK.drew | apply SK.drewN | apply SK.alloc | (refine SK.call ?_ (by with_reducible assumption)) | (refine SK.set ?_ _ _ _ (by omega)))))
      (first
        | (go_at_call 24; refine (HTO.out _ HB7.out.drew).mono ?_; rintro e w8 ⟨g8, h8, rfl, hR8, hF8, hB, hg8⟩)
        | (go_at_call 26; refine (HEQ.out _ _ _ _ _ ((HQ7.out.below (Below.refl _ _).drew).below (by with_reducible assumption)) ((HP7.out.below (Below.refl _ _).drew).below (by with_reducible assumption)).rd hR8 hF8.rd).mono ?_; rintro e w8' ⟨rfl, hB⟩))
    have hSK7 : SK w7.heap.size w7 [((⟨w5.heap.size, 0, none⟩ : Addr), (.slice (some ⟨g5, 0, none⟩) n n : Value)), ((⟨w5.heap.size, 1, none⟩ : Addr), (.slice (some ⟨h5, 0, none⟩) m m : Value)), ((⟨w.heap.size, 0, none⟩ : Addr), (.slice A n c : Value)), ((⟨w.heap.size, 1, none⟩ : Addr), (.slice B m d : Value))] _ := SK_of4 (by with_reducible assumption)
    have HB8 := Frame.hid (HB7.out.trans (hSK7.m.mono HB7.out.size))
    clear hSK7 hST
    go_wp2_with fail
    go_ret
    exact ⟨rfl, HB8.out⟩

end Go.Proofs.Ytnbgnaenlbphcaa
