/-
  A sheet of its own (append of all spots to an empty slice, in a region); wants: MoveSpot on both sides.
-/
import Derived.Test.YtnbgnaenlbphcaaKg
import Derived.Test.YtnbgnaenlbphcaaKy
namespace Go.Proofs.Ytnbgnaenlbphcaa
open Go.RowKit Fl Go.WideShapes Go.Deep
attribute [local go_sem] kstore_f kalloc_drewN kset_drewN hstore_i hstore_s

theorem own0 (W : World) (base g : Nat) (hg : g = W.heap.size) (hb : base ≤ W.heap.size) : ((W.alloc (.cells #[] 57)).drew).ownsRow base 57 3 (.slice (some ⟨g, 0, none⟩) 0 0) 0 [] := by
  subst hg
  have h := none_litS W
  exact ⟨h.1, h.2.imp id fun ⟨g, cap, cur, h1, h2, h3⟩ => ⟨g, cap, cur, h1, Nat.le_trans hb h2, h3⟩⟩
theorem OwnedS.setO {w : World} {B k i : Nat} {v u : Value} {xs : List (Nat × Nat × Nat)} (h : OwnedS w B v xs) (hk : k < B) : OwnedS (w.setCell ⟨k, i, none⟩ u) B v xs :=
  ⟨h.1, h.2.imp id fun ⟨g, cap, cur, h1, h2, h3, h4⟩ => ⟨g, cap, cur, h1, h2, (by rw [Below.heap_setCell _ _ _ _ (by simp; omega)]; exact h3), h4⟩⟩
theorem OwnedS.mono' {w : World} {B B' : Nat} {v : Value} {xs : List (Nat × Nat × Nat)} (h : OwnedS w B v xs) (hb : B' ≤ B) : OwnedS w B' v xs :=
  ⟨h.1, h.2.imp id fun ⟨g, cap, cur, h1, h2, h3⟩ => ⟨g, cap, cur, h1, Nat.le_trans hb h2, h3⟩⟩
theorem step_append_any {P : Program} {ops : Array Oper} {o : Oper} {a : Act} {w : World} {K : Act → World → Prop} {Q : Exit → Act → World → Prop} {E : Prop} (hgd : o.guard = none) (s x : Operand) (t : TypeId)
    (ho : o.op = .call { callee := .builtin .append, args := #[s, x], argTypes := #[t, t] })
    (base : Nat) (e : TypeId) (i : TypeInfo) (z : Value) (size bytes : Nat) (ht : P.underlying t = some (.slice e)) (hi : P.info? e = some i) (hz : i.zero = some z)
    (hsize : i.size = size) (hby : i.bytes = bytes) (hzs : z.cells.size = size) (hsz : 0 < size)
    (v : Value) (n : Nat) (xs : List Value) (hs : a.eval s = v) (hown : w.ownsRow base e size v n xs)
    (ad : Addr) (m c : Nat) (news : List Value) (hx : a.eval x = .slice (some ad) m c) (hl : news.length = m * size) (hnews : ∀ j u, news[j]? = some u → w.cell? (ad.add j) = some u) (h1 : ∀ u ∈ news, u.oneCell' = true)
    (h63 : n + m ≤ maxLen) (hbytes : (n + m) * bytes ≤ 140737488355328) (hbase : base ≤ w.heap.size)
    (h : ∀ v' w', w'.ownsRow base e size v' (n + m) (xs ++ news) → w.grownBy w' v.ownBlock → (v' = .slice none 0 0 ↔ v = .slice none 0 0 ∧ m = 0) → K (a.put o.dst v') w') :
    if Region.wanted o (yielded ops a.tmps) = true then Oper.wp P o a w K Q else E := by
  have hw : Region.wanted o (yielded ops a.tmps) = true := by simp [Region.wanted, hgd]
  rw [if_pos hw]
  exact wp_append_own w s x t ho base e i z size bytes ht hi hz hsize hby hzs hsz v n xs hs hown ad m c news hx hl hnews h1 h63 hbytes hbase h

set_option maxRecDepth 100000 in
set_option maxHeartbeats 4000000 in
theorem l04Own_calls (g : Nat) (p q : Int) (b off c : Nat) (xs : List (Nat × Nat × Nat)) (h1 : 1 ≤ xs.length) (hn : xs.length ≤ 100000) (w : World) (hS : Sh3 w g p q (.slice (some ⟨b, off, none⟩) xs.length c)) (hA : RdS w (some ⟨b, off, none⟩) xs) :
    Calls Try.prog 58 #[.pointer (some ⟨g, 0, none⟩)] w fun e w' => ∃ v, e = .returned (.agg #[.int .i64 p, .int .i64 q, v]) ∧ OwnedS w' w.heap.size v xs ∧ Below w.heap.size w w' := by
  obtain ⟨i0, hi, hz0, hz1, hz2⟩ := info_parts infoSpot
  obtain ⟨hlt, hnw⟩ := hA.news (by omega)
  have hnews : ∀ W, Below w.heap.size w W → ∀ j u, (cellsS xs)[j]? = some u → W.cell? ((⟨b, off, none⟩ : Addr).add j) = some u := by
    intro W hB j u hj
    rw [add_plain, rd_of hB _ _ hlt]
    have := hnw j u hj
    rwa [add_plain] at this
  have HN := Frame.hid hnews
  have c0 := hS.c0
  have c1 := hS.c1
  have c2 := hS.c2
  have gl := hS.l
  have hST : SK w.heap.size w [((⟨g, 0, none⟩ : Addr), (.int .i64 p : Value)), ((⟨g, 1, none⟩ : Addr), (.int .i64 q : Value)), ((⟨g, 2, none⟩ : Addr), (.slice (some ⟨b, off, none⟩) xs.length c : Value))] w := SK.start (Nat.le_refl _) (by intro p hp; simp at hp; rcases hp with rfl | rfl | rfl <;> assumption) (by intro p hp; simp at hp; rcases hp with rfl | rfl | rfl <;> assumption)
  clear hA hnews hnw hlt
  go_enter Try.func58, Try.ntmps58
  go_wp2_with fail
  go_region_held3 (fun W => W.cell? ⟨g, 0, none⟩ = some (.int .i64 p) ∧ W.cell? ⟨g, 1, none⟩ = some (.int .i64 q) ∧ W.cell? ⟨g, 2, none⟩ = some (.slice (some ⟨b, off, none⟩) xs.length c) ∧ w.heap.size ≤ W.heap.size ∧ SK w.heap.size w [((⟨g, 0, none⟩ : Addr), (.int .i64 p : Value)), ((⟨g, 1, none⟩ : Addr), (.int .i64 q : Value)), ((⟨g, 2, none⟩ : Addr), (.slice (some ⟨b, off, none⟩) xs.length c : Value))] W) ((refine SK_all3 ?_; (repeat' first | with_reducible assumption | exact SK_of3 (by with_reducible assumption) | exact hST | apply SK.drew | apply SK.drewN | apply SK.alloc | (refine SK.call ?_ (by with_reducible assumption)) | (refine SK.set ?_ _ _ _ (by omega)))))
    (first | (refine step_append_any rfl _ _ 27 rfl (w.heap.size + 1) 57 i0 (.agg #[.float .f32 0, .float .f32 0, .float .f32 0]) 3 12 Try.underlying27 hi hz0 hz1 hz2 rfl (by decide) _ _ _ rfl (own0 _ _ _ (by simp) (by simp)) ⟨b, off, none⟩ xs.length _ (cellsS xs) rfl (cellsS_len xs) (HN.out _ (((((Below.refl _ w).alloc (Nat.le_refl _) _).alloc (by simp) _)).drew)) (cellsS_one xs) (by show 0 + xs.length ≤ maxLen; unfold maxLen; omega) (by show (0 + xs.length) * 12 ≤ _; omega) (by simp <;> omega) ?_; intro v' w3 hown' hgrow3 hnil3; have hB : Below w.heap.size w w3 := Below.grown (((((Below.refl _ w).alloc (Nat.le_refl _) _).alloc (by simp) _)).drew) hgrow3 (by simp <;> omega) (fun k hk => by injection hk with hk; have hk : w.heap.size + 1 = k := hk; omega); have hB1 : Below (w.heap.size + 1) _ w3 := Below.grown (Below.refl _ _) hgrow3 (by simp) (fun k hk => by injection hk with hk; have hk : w.heap.size + 1 = k := hk; omega); have hc := rd_of hB1; have hz := fz_of hB1; have hs := sz_of hB1; have hO : OwnedS w3 (w.heap.size + 1) v' xs := (by unfold OwnedS; have h := hown'; simp only [Nat.zero_add, List.nil_append] at h; exact h); obtain ⟨A, cap, rfl, -⟩ := hO.rd))
  have hSK : SK w.heap.size w [((⟨g, 0, none⟩ : Addr), (.int .i64 p : Value)), ((⟨g, 1, none⟩ : Addr), (.int .i64 q : Value)), ((⟨g, 2, none⟩ : Addr), (.slice (some ⟨b, off, none⟩) xs.length c : Value))] _ := SK_of3 (by with_reducible assumption)
  have k0 : w3.cell? ⟨w.heap.size, 0, none⟩ = some (.int .i64 0) := by rw [hc _ _ (by simp)]; simp [go_sem]
  have k1 : w3.cell? ⟨w.heap.size, 1, none⟩ = some (.int .i64 0) := by rw [hc _ _ (by simp)]; simp [go_sem]
  have k2 : w3.cell? ⟨w.heap.size, 2, none⟩ = some (.slice none 0 0) := by rw [hc _ _ (by simp)]; simp [go_sem]
  obtain ⟨e0, e1, e2⟩ := set3_read (w := w3) (v0 := .int .i64 p) (v1 := .int .i64 q) (v2 := .slice A xs.length cap) k0 k1 k2
  go_wp2_with fail
  refine bodyPost_ret (v := .agg #[.int .i64 p, .int .i64 q, .slice A xs.length cap]) (by simp [results, Try.results58, go_sem, e0, e1, e2]) rfl ⟨_, rfl, ?_, ?_⟩
  · exact (((hO.setO (by omega)).setO (by omega)).setO (by omega)).mono' (by omega)
  · exact hSK.m

end Go.Proofs.Ytnbgnaenlbphcaa
