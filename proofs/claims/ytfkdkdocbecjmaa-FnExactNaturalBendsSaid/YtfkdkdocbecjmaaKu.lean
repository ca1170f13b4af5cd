/-
  TrianglesOf, walked on both sides: the corners of all triangles.
-/
import Derived.Test.YtfkdkdocbecjmaaKi
import Derived.Test.YtfkdkdocbecjmaaSc
import Derived.Deep.Slices
namespace Go.Proofs.Ytfkdkdocbecjmaa
open Go.RowKit Go.Deep Go.WideShapes

/-- The corners of the two triangles of a tile. -/
def tileI (m j i : Nat) : List Int := [((j * (m + 1) + i : Nat) : Int), ((j * (m + 1) + i + 1 : Nat) : Int), ((j * (m + 1) + i + m + 1 : Nat) : Int), ((j * (m + 1) + i + 1 : Nat) : Int), ((j * (m + 1) + i + m + 1 + 1 : Nat) : Int), ((j * (m + 1) + i + m + 1 : Nat) : Int)]
def tilesI (m j : Nat) : Nat → List Int
  | 0 => []
  | i + 1 => tilesI m j i ++ tileI m j i
def triI (m : Nat) : Nat → List Int
  | 0 => []
  | j + 1 => triI m j ++ tilesI m j m
theorem tilesI_len (m j i : Nat) : (tilesI m j i).length = 6 * i := by
  induction i with
  | zero => rfl
  | succ i ih => rw [tilesI, List.length_append, ih]; simp [tileI]; omega
theorem triI_len (m j : Nat) : (triI m j).length = 6 * m * j := by
  induction j with
  | zero => rfl
  | succ j ih => rw [triI, List.length_append, ih, tilesI_len, Nat.mul_succ]
theorem triI_small {m j : Nat} (hm : m ≤ 12) (hj : j ≤ 12) : (triI m j).length ≤ 864 := by
  rw [triI_len]
  have h := Nat.mul_le_mul (Nat.mul_le_mul_left 6 hm) hj
  omega

def TriAt (w : World) (m n : Nat) (v jv : Value) (wr : World) : Prop :=
  ∃ j : Nat, j ≤ n ∧ jv = .int .i64 j ∧ OwnI wr w.heap.size v (triI m j) ∧ Below w.heap.size w wr
def TileAt (w : World) (m j : Nat) (v iv : Value) (wr : World) : Prop :=
  ∃ i : Nat, i ≤ m ∧ iv = .int .i64 i ∧ OwnI wr w.heap.size v (triI m j ++ tilesI m j i) ∧ Below w.heap.size w wr

theorem cell_six (w : World) (a b c d e f : Int) : ∀ j u, [Value.int .i64 a, .int .i64 b, .int .i64 c, .int .i64 d, .int .i64 e, .int .i64 f][j]? = some u → (w.alloc (.cells #[.int .i64 a, .int .i64 b, .int .i64 c, .int .i64 d, .int .i64 e, .int .i64 f] 2)).cell? ((⟨w.heap.size, 0, none⟩ : Addr).add j) = some u := by
  intro j u h
  rw [add_plain, Nat.zero_add, World.cell?_alloc_new]
  simpa using h

set_option maxRecDepth 100000 in
set_option maxHeartbeats 4000000 in
theorem l04Triangles_calls (m n : Nat) (hm : 1 ≤ m ∧ m ≤ 12) (hn : 1 ≤ n ∧ n ≤ 12) (w : World) : Calls Try.prog 40 #[.int .i64 m, .int .i64 n] w fun e w' => ∃ v, e = .returned v ∧ OwnI w' w.heap.size v (triI m n) ∧ Below w.heap.size w w' := by
  obtain ⟨i0, hi, hz0, hz1, hz2⟩ := info_parts infoI64
  go_enter Try.func40, Try.ntmps40
  go_wp2
  go_loopw [5, 6] (fun v jv wr => TriAt w m n v jv wr) (fun _ jv _ => n - (Go.RowKit.intOf jv).toNat)
  case atStart => exact ⟨0, Nat.zero_le _, rfl, none_litI w, (Below.refl _ _).alloc (Nat.le_refl _) _⟩
  case round =>
    obtain ⟨j, hj, rfl, hO, hB⟩ := hrel
    by_cases hlt : j < n
    · have HO := Frame.hid hO
      have HB := Frame.hid hB
      clear hO hB
      go_wp2
      go_loopw [5, 7] (fun v iv wr => TileAt w m j v iv wr) (fun _ iv _ => m - (Go.RowKit.intOf iv).toNat)
      case atStart => exact ⟨0, Nat.zero_le _, rfl, by simpa [tilesI] using HO.out, HB.out⟩
      case round =>
        obtain ⟨i, hi', rfl, hO, hB⟩ := hrel
        have HO := Frame.hid hO
        have HB := Frame.hid hB
        clear hO hB
        by_cases hlt2 : i < m
        · obtain ⟨a, ha⟩ : ∃ a : Nat, a = j * (m + 1) := ⟨_, rfl⟩
          have ha2 : a ≤ 143 := by rw [ha]; exact Nat.mul_le_mul (show j ≤ 11 by omega) (show m + 1 ≤ 13 by omega)
          have ha3 : (j : Int) * ((m : Int) + 1) = (a : Int) := by rw [ha]; push_cast; rfl
          have HA := Frame.hid ha
          have hlen : (triI m j ++ tilesI m j i).length ≤ 1008 := by
            have h1 := triI_small hm.2 (show j ≤ 12 by omega)
            rw [List.length_append, tilesI_len]; omega
          obtain ⟨k, hk⟩ : ∃ k, k = (triI m j ++ tilesI m j i).length := ⟨_, rfl⟩
          have hO1 : wr.ownsRow w.heap.size 2 1 u5 k ((triI m j ++ tilesI m j i).map (Value.int .i64)) := by rw [hk]; exact HO.out
          rw [← hk] at hlen
          have HK := Frame.hid hk
          have hsz := HB.out.size
          clear ha hk
          go_wp2_with (at_builtin; refine wpList_append_own _ rfl _ _ 66 rfl w.heap.size 2 i0 (.int .i64 0) 1 8 Try.underlying66 hi hz0 hz1 hz2 rfl (by decide) _ _ _ rfl (hO1.alloc _) ⟨wr.heap.size, 0, none⟩ 6 6 [.int .i64 (↑a + ↑i), .int .i64 (↑a + ↑i + 1), .int .i64 (↑a + ↑i + ↑m + 1), .int .i64 (↑a + ↑i + 1), .int .i64 (↑a + ↑i + ↑m + 1 + 1), .int .i64 (↑a + ↑i + ↑m + 1)] rfl rfl (cell_six _ _ _ _ _ _ _) (fun x hx => by simp at hx; rcases hx with rfl | rfl | rfl | rfl | rfl | rfl <;> rfl) (by unfold maxLen; omega) (by omega) (by simp; omega) ?_; intro v' w3 hown' hgrow3 hnil3)
          have hO3 : Hid (OwnI w3 w.heap.size v' (triI m j ++ tilesI m j (i + 1))) := by
            have e : ([(a : Int) + i, (a : Int) + i + 1, (a : Int) + i + m + 1, (a : Int) + i + 1, (a : Int) + i + m + 1 + 1, (a : Int) + i + m + 1] : List Int) = tileI m j i := by
              unfold tileI; rw [← HA.out]; push_cast; rfl
            have h := OwnI.app (news := [(a : Int) + i, (a : Int) + i + 1, (a : Int) + i + m + 1, (a : Int) + i + 1, (a : Int) + i + m + 1 + 1, (a : Int) + i + m + 1]) HK.out hown'
            rw [e, List.append_assoc] at h
            exact h
          have HB3 : Hid (Below w.heap.size w w3) := Below.grown (HB.out.alloc hsz _) hgrow3 (by simp; omega) (fun k' hk' => (World.ownsRow.lt hO1 k' hk').1)
          clear hown' hgrow3 hnil3 hO1
          go_roundw
          case rel => exact ⟨i + 1, by omega, by go_num, hO3.out, HB3.out⟩
          case measure => simp [Go.RowKit.intOf]; omega
        · have him : i = m := by omega
          subst him
          go_wp2
          go_roundw
          case rel => exact ⟨j + 1, by omega, by go_num, by rw [triI]; exact HO.out, HB.out⟩
          case measure => simp [Go.RowKit.intOf]; omega
    · have hjn : j = n := by omega
      subst hjn
      have HO := Frame.hid hO
      have HB := Frame.hid hB
      clear hO hB
      go_wp2
      go_ret
      exact ⟨_, rfl, HO.out, HB.out⟩


def sizesB (m n : Int) : Bool := decide (1 ≤ m) && decide (m ≤ 12) && decide (1 ≤ n) && decide (n ≤ 12)
theorem sizesB_ok {m n : Nat} (hm : 1 ≤ m ∧ m ≤ 12) (hn : 1 ≤ n ∧ n ≤ 12) : sizesB m n = true := by
  simp [sizesB]; omega
theorem sizesB_nat {m n : Int} (h : sizesB m n = true) : ∃ a b : Nat, m = a ∧ n = b ∧ (1 ≤ a ∧ a ≤ 12) ∧ (1 ≤ b ∧ b ≤ 12) := by
  simp [sizesB] at h
  exact ⟨m.toNat, n.toNat, by omega, by omega, by omega, by omega⟩

set_option maxRecDepth 100000 in
set_option maxHeartbeats 1000000 in
theorem areTiles_calls (m n : Int) (w : World) : Calls Try.prog 91 #[.int .i64 m, .int .i64 n] w fun e w' => e = .returned (.bool (sizesB m n)) ∧ w = w' := by
  by_cases h1 : 1 ≤ m <;> by_cases h2 : m ≤ 12 <;> by_cases h3 : 1 ≤ n <;> by_cases h4 : n ≤ 12
  all_goals
    go_enter Try.func91, Try.ntmps91
    go_wp2
    all_goals go_ret
    all_goals exact ⟨ret_bool (by simp [sizesB, h1, h2, h3, h4]), rfl⟩

set_option maxRecDepth 100000 in
set_option maxHeartbeats 1000000 in
theorem l04Sizes_calls (m n : Int) (w : World) : Calls Try.prog 70 #[.int .i64 m, .int .i64 n] w fun e w' => e = .returned (.bool (sizesB m n)) ∧ w = w' := by
  by_cases h1 : 1 ≤ m <;> by_cases h2 : m ≤ 12 <;> by_cases h3 : 1 ≤ n <;> by_cases h4 : n ≤ 12
  all_goals
    go_enter Try.func70, Try.ntmps70
    go_wp2_with (go_at_call 88; refine (l00In_calls _ _ _ _).mono ?_; rintro e w' ⟨rfl, rfl⟩)
    all_goals go_ret
    all_goals exact ⟨ret_bool (by simp [sizesB, h1, h2, h3, h4]), rfl⟩

set_option maxRecDepth 100000 in
set_option maxHeartbeats 4000000 in
theorem trianglesOf_ok (m n : Nat) (hm : 1 ≤ m ∧ m ≤ 12) (hn : 1 ≤ n ∧ n ≤ 12) (w : World) : Calls Try.prog 76 #[.int .i64 m, .int .i64 n] w fun e w' => ∃ v, e = .returned (.tuple #[v, .bool true]) ∧ OwnI w' w.heap.size v (triI m n) ∧ Below w.heap.size w w' := by
  obtain ⟨i0, hi, hz0, hz1, hz2⟩ := info_parts infoI64
  have HS := Frame.hid (sizesB_ok hm hn)
  go_enter Try.func76, Try.ntmps76
  go_wp2_with (go_at_call 91; refine (areTiles_calls _ _ _).mono ?_; rintro e w' ⟨rfl, rfl⟩; rw [HS.out])
  go_loopw [6, 16] (fun v jv wr => TriAt w m n v jv wr) (fun _ jv _ => n - (Go.RowKit.intOf jv).toNat)
  case atStart => exact ⟨0, Nat.zero_le _, rfl, OwnI.nilv _ _, Below.refl _ _⟩
  case round =>
    obtain ⟨j, hj, rfl, hO, hB⟩ := hrel
    by_cases hlt : j < n
    · have HO := Frame.hid hO
      have HB := Frame.hid hB
      clear hO hB
      go_wp2
      go_loopw [6, 20] (fun v iv wr => TileAt w m j v iv wr) (fun _ iv _ => m - (Go.RowKit.intOf iv).toNat)
      case atStart => exact ⟨0, Nat.zero_le _, rfl, by simpa [tilesI] using HO.out, HB.out⟩
      case round =>
        obtain ⟨i, hi', rfl, hO, hB⟩ := hrel
        have HO := Frame.hid hO
        have HB := Frame.hid hB
        clear hO hB
        by_cases hlt2 : i < m
        · obtain ⟨a, ha⟩ : ∃ a : Nat, a = j * (m + 1) := ⟨_, rfl⟩
          have ha2 : a ≤ 143 := by rw [ha]; exact Nat.mul_le_mul (show j ≤ 11 by omega) (show m + 1 ≤ 13 by omega)
          have ha3 : (j : Int) * ((m : Int) + 1) = (a : Int) := by rw [ha]; push_cast; rfl
          have HA := Frame.hid ha
          have hlen : (triI m j ++ tilesI m j i).length ≤ 1008 := by
            have h1 := triI_small hm.2 (show j ≤ 12 by omega)
            rw [List.length_append, tilesI_len]; omega
          obtain ⟨k, hk⟩ : ∃ k, k = (triI m j ++ tilesI m j i).length := ⟨_, rfl⟩
          have hO1 : wr.ownsRow w.heap.size 2 1 u6 k ((triI m j ++ tilesI m j i).map (Value.int .i64)) := by rw [hk]; exact HO.out
          rw [← hk] at hlen
          have HK := Frame.hid hk
          have hsz := HB.out.size
          clear ha hk
          go_wp2_with (at_builtin; refine wpList_append_own _ rfl _ _ 66 rfl w.heap.size 2 i0 (.int .i64 0) 1 8 Try.underlying66 hi hz0 hz1 hz2 rfl (by decide) _ _ _ rfl (hO1.alloc _) ⟨wr.heap.size, 0, none⟩ 6 6 [.int .i64 (↑a + ↑i), .int .i64 (↑a + ↑i + 1), .int .i64 (↑a + ↑i + ↑m + 1), .int .i64 (↑a + ↑i + 1), .int .i64 (↑a + ↑i + ↑m + 1 + 1), .int .i64 (↑a + ↑i + ↑m + 1)] rfl rfl (cell_six _ _ _ _ _ _ _) (fun x hx => by simp at hx; rcases hx with rfl | rfl | rfl | rfl | rfl | rfl <;> rfl) (by unfold maxLen; omega) (by omega) (by simp; omega) ?_; intro v' w3 hown' hgrow3 hnil3)
          have hO3 : Hid (OwnI w3 w.heap.size v' (triI m j ++ tilesI m j (i + 1))) := by
            have e : ([(a : Int) + i, (a : Int) + i + 1, (a : Int) + i + m + 1, (a : Int) + i + 1, (a : Int) + i + m + 1 + 1, (a : Int) + i + m + 1] : List Int) = tileI m j i := by
              unfold tileI; rw [← HA.out]; push_cast; rfl
            have h := OwnI.app (news := [(a : Int) + i, (a : Int) + i + 1, (a : Int) + i + m + 1, (a : Int) + i + 1, (a : Int) + i + m + 1 + 1, (a : Int) + i + m + 1]) HK.out hown'
            rw [e, List.append_assoc] at h
            exact h
          have HB3 : Hid (Below w.heap.size w w3) := Below.grown (HB.out.alloc hsz _) hgrow3 (by simp; omega) (fun k' hk' => (World.ownsRow.lt hO1 k' hk').1)
          clear hown' hgrow3 hnil3 hO1
          go_roundw
          case rel => exact ⟨i + 1, by omega, by go_num, hO3.out, HB3.out⟩
          case measure => simp [Go.RowKit.intOf]; omega
        · have him : i = m := by omega
          subst him
          go_wp2
          go_roundw
          case rel => exact ⟨j + 1, by omega, by go_num, by rw [triI]; exact HO.out, HB.out⟩
          case measure => simp [Go.RowKit.intOf]; omega
    · have hjn : j = n := by omega
      subst hjn
      have HO := Frame.hid hO
      have HB := Frame.hid hB
      clear hO hB
      go_wp2
      go_ret2
      exact ⟨_, rfl, HO.out, HB.out⟩


def TriO (m n : Int) (w : World) (e : Ending) (w' : World) : Prop := (∃ a b : Nat, m = a ∧ n = b ∧ (a ≤ 12 ∧ b ≤ 12) ∧ ∃ v, e = .returned (.tuple #[v, .bool true]) ∧ sizesB m n = true ∧ OwnI w' w.heap.size v (triI a b) ∧ Below w.heap.size w w') ∨ (sizesB m n = false ∧ e = .returned (.tuple #[.slice none 0 0, .bool false]) ∧ w = w')

set_option maxRecDepth 100000 in
set_option maxHeartbeats 1000000 in
theorem trianglesOf_calls (m n : Int) (w : World) : Calls Try.prog 76 #[.int .i64 m, .int .i64 n] w (TriO m n w) := by
  cases hs : sizesB m n
  · have HS := Frame.hid hs
    go_enter Try.func76, Try.ntmps76
    go_wp2_with (go_at_call 91; refine (areTiles_calls _ _ _).mono ?_; rintro e w' ⟨rfl, rfl⟩; rw [HS.out])
    go_ret2
    exact .inr ⟨HS.out, rfl, rfl⟩
  · obtain ⟨a, b, rfl, rfl, h1, h2⟩ := sizesB_nat hs
    refine (trianglesOf_ok a b h1 h2 w).mono ?_
    rintro e w' ⟨v, rfl, hO, hB⟩
    exact .inl ⟨a, b, rfl, rfl, ⟨h1.2, h2.2⟩, v, rfl, hs, hO, hB⟩

end Go.Proofs.Ytfkdkdocbecjmaa
