/-
  Cutting a text at a byte: the specification's walk.
-/
import Derived.Test.YtnhpiebddelebabDoorCt
import Derived.Test.YtnhpiebddelebabDoorLp
import Derived.Maps.AppendAt
namespace Go.Proofs.YtnhpiebddelebabDoor
open Go.RowKit Go.Lib Rd Go.WideShapes

/-- A slice of texts of the call's own. -/
def OwnT (w : World) (base : Nat) (v : Value) (out : List ByteArray) : Prop := w.ownsRow base 9 1 v out.length (out.map Value.string)
theorem none_litT (w : World) : OwnT (w.alloc (.cells #[] 9)) w.heap.size (.slice (some ⟨w.heap.size, 0, none⟩) 0 0) [] :=
  World.ownsRow_lit w #[] 0 (Nat.le_refl _) (by unfold maxLen; omega) rfl
theorem own_appT {w3 : World} {B k : Nat} {x : ByteArray} {v' : Value} {out : List ByteArray} (hk : k = out.length) (h : w3.ownsRow B 9 1 v' (k + 1) (out.map Value.string ++ [.string x])) :
    ∃ g cap, v' = .slice (some ⟨g, 0, none⟩) (k + 1) cap ∧ OwnT w3 B v' (out ++ [x]) := by
  have h2 : OwnT w3 B v' (out ++ [x]) := by
    unfold OwnT
    rw [List.length_append, List.map_append, ← hk]
    exact h
  rcases h.2 with ⟨_, h0⟩ | ⟨g, cap, cur, hv, _⟩
  · omega
  · exact ⟨g, cap, hv, h2⟩

structure CutR (s : ByteArray) (c : UInt8) (f i : Nat) (out : List ByteArray) : Prop where
  few : out.length ≤ i
  room : i ≤ s.size + 1
  on : i ≤ s.size → f ≤ i ∧ Ct.cut c s.data.toList = out.map (·.data.toList) ++ Ct.cut c (s.data.toList.drop f) ∧ ∀ j, f ≤ j → j < i → s.data.toList[j]? ≠ some c
  off : i = s.size + 1 → Ct.cut c s.data.toList = out.map (·.data.toList)
theorem CutR.start (s : ByteArray) (c : UInt8) : CutR s c 0 0 [] := ⟨Nat.le_refl _, Nat.zero_le _, fun _ => ⟨Nat.le_refl _, by simp, fun j h1 h2 => by omega⟩, fun h => by omega⟩
theorem byte_at (s : ByteArray) (i : Nat) (h : i < s.size) : s.data.toList[i]? = some s[i] := by
  rw [List.getElem?_eq_getElem (by rw [size_list]; exact h)]; rfl
theorem extract_mid (s : ByteArray) (a b : Nat) : (s.extract a b).data.toList = (s.data.toList.drop a).take (b - a) := extract_data s a b
theorem CutR.miss {s : ByteArray} {c : UInt8} {f i : Nat} {out : List ByteArray} (h : CutR s c f i out) (hi : i < s.size) (hc : s[i] ≠ c) : CutR s c f (i + 1) out := by
  obtain ⟨h1, h2, h3⟩ := h.on (by omega)
  refine ⟨by have := h.few; omega, by omega, fun _ => ⟨by omega, h2, fun j hj1 hj2 => ?_⟩, fun h => by omega⟩
  by_cases he : j = i
  · subst he
    rw [byte_at s j hi]
    intro e
    injection e with e
    exact hc e
  · exact h3 j hj1 (by omega)
theorem CutR.hit {s : ByteArray} {c : UInt8} {f i : Nat} {out : List ByteArray} (h : CutR s c f i out) (hi : i < s.size) (hc : s[i] = c) : CutR s c (i + 1) (i + 1) (out ++ [s.extract f i]) := by
  obtain ⟨h1, h2, h3⟩ := h.on (by omega)
  refine ⟨by rw [List.length_append]; have := h.few; simp; omega, by omega, fun _ => ⟨by omega, ?_, fun j hj1 hj2 => by omega⟩, fun h => by omega⟩
  rw [List.map_append, List.map_cons, List.map_nil, extract_mid]
  exact Ct.cut_more h1 (by rw [size_list]; exact hi) (by rw [byte_at s i hi, hc]) h3 h2
theorem CutR.last {s : ByteArray} {c : UInt8} {f : Nat} {out : List ByteArray} (h : CutR s c f s.size out) : CutR s c (s.size + 1) (s.size + 1) (out ++ [s.extract f s.size]) := by
  obtain ⟨h1, h2, h3⟩ := h.on (by omega)
  refine ⟨by rw [List.length_append]; have := h.few; simp; omega, by omega, fun h => by omega, fun _ => ?_⟩
  rw [List.map_append, List.map_cons, List.map_nil, extract_mid]
  have := Ct.cut_last (l := s.data.toList) (by rw [size_list]; exact h1) (by rw [size_list]; exact h3) h2
  rw [size_list] at this
  exact this

def CutAt (s : ByteArray) (c : UInt8) (w : World) (v fv iv : Value) (wr : World) : Prop :=
  ∃ (f i k g cap : Nat) (out : List ByteArray), fv = .int .i64 f ∧ iv = .int .i64 i ∧ v = .slice (some ⟨g, 0, none⟩) k cap ∧ k = out.length ∧ CutR s c f i out ∧ OwnT wr w.heap.size v out ∧ Below w.heap.size w wr

set_option maxRecDepth 100000 in
set_option maxHeartbeats 4000000 in
theorem l01Cut_calls (s : ByteArray) (c : UInt8) (hmax : s.size ≤ 1048576) (w : World) : Calls Tryd.prog 46 #[.string s, .int .u8 (c.toNat : Int)] w fun e w' =>
    ∃ (g cap : Nat) (out : List ByteArray), e = .returned (.slice (some ⟨g, 0, none⟩) out.length cap) ∧ Ct.cut c s.data.toList = out.map (·.data.toList) ∧ OwnT w' w.heap.size (.slice (some ⟨g, 0, none⟩) out.length cap) out ∧ Below w.heap.size w w' := by
  obtain ⟨i0, hi, hz0, hz1, hz2⟩ := info_parts infoS
  go_enter Tryd.func46, Tryd.ntmps46
  go_wp2_with fail
  go_loopw [5, 6, 7] (fun v f i wr => CutAt s c w v f i wr) (fun _ _ i _ => s.size + 1 - (Go.RowKit.intOf i).toNat)
  case atStart => exact ⟨0, 0, 0, w.heap.size, 0, [], rfl, rfl, rfl, rfl, CutR.start s c, none_litT w, (Below.refl _ _).alloc (Nat.le_refl _) _⟩
  case round =>
    obtain ⟨f, i, k, g, cap, out, rfl, rfl, rfl, hk, hR, hO, hB⟩ := hrel
    have hfew := hR.few
    have hroom := hR.room
    have hsz := hB.size
    have hgB : w.heap.size ≤ g := (World.ownsRow.lt hO g rfl).1
    have HR := Frame.hid hR
    have HK := Frame.hid hk
    have HB := Frame.hid hB
    have HGB := Frame.hid hgB
    rw [← hk] at hfew
    have hO1 : wr.ownsRow w.heap.size 9 1 (.slice (some ⟨g, 0, none⟩) k cap) k (out.map Value.string) := by have h := hO; unfold OwnT at h; rwa [← hk] at h
    clear hk
    rcases (by omega : i = s.size + 1 ∨ i = s.size ∨ i < s.size) with h1 | h1 | h1
    · subst h1
      have HE := Frame.hid (hR.off rfl)
      have HO := Frame.hid hO
      clear hR hO hB hO1 hgB
      go_wp2_with fail
      go_ret
      exact ⟨g, cap, out, by rw [← HK.out]; rfl, HE.out, by rw [← HK.out]; exact HO.out, HB.out⟩
    · subst h1
      obtain ⟨f1, _, _⟩ := hR.on (Nat.le_refl _)
      clear hR hO hB hgB
      go_wp2_with (at_builtin; refine wpList_append_own _ rfl _ _ 25 rfl w.heap.size 9 i0 (.string ByteArray.empty) 1 16 Tryd.underlying25 hi hz0 hz1 hz2 rfl (by decide) _ _ _ rfl (hO1.alloc _) ⟨wr.heap.size, 0, none⟩ 1 1 [.string (s.extract f s.size)] rfl rfl (cell_one_new _ _ _) (fun x hx => by simp at hx; subst hx; rfl) (by unfold maxLen; omega) (by omega) (by simp; omega) ?_; intro v' w3 hown' hgrow3 hnil3; obtain ⟨g', cap', rfl, hO2⟩ := own_appT HK.out hown')
      have hgrow4 : (wr.alloc (.cells #[.string (s.extract f s.size)] 9)).grownBy w3 (some g) := hgrow3
      have HB2 : Hid (Below w.heap.size w w3) := Below.grown (HB.out.alloc hsz _) hgrow4 (by simp; omega) (fun k hk => by injection hk with hk; rw [← hk]; exact HGB.out)
      have HO2 := Frame.hid hO2
      clear hgrow3 hgrow4 hnil3 hown' hO1 hO2 hsz HB
      go_roundw
      case rel => exact ⟨s.size + 1, s.size + 1, k + 1, g', cap', _, by go_num, by go_num, rfl, by rw [List.length_append, HK.out]; rfl, HR.out.last, HO2.out, HB2.out⟩
      case measure => simp [Go.RowKit.intOf]
    · obtain ⟨f1, _, _⟩ := hR.on (by omega)
      by_cases hc : s[i] = c
      · have hbz : (((s[i].toNat : Int)) == (c.toNat : Int)) = true := by rw [hc]; exact beq_self_eq_true _
        have HC := Frame.hid hc
        clear hR hO hB hgB hc
        go_wp2_with (at_builtin; refine wpList_append_own _ rfl _ _ 25 rfl w.heap.size 9 i0 (.string ByteArray.empty) 1 16 Tryd.underlying25 hi hz0 hz1 hz2 rfl (by decide) _ _ _ rfl (hO1.alloc _) ⟨wr.heap.size, 0, none⟩ 1 1 [.string (s.extract f i)] rfl rfl (cell_one_new _ _ _) (fun x hx => by simp at hx; subst hx; rfl) (by unfold maxLen; omega) (by omega) (by simp; omega) ?_; intro v' w3 hown' hgrow3 hnil3; obtain ⟨g', cap', rfl, hO2⟩ := own_appT HK.out hown')
        have hgrow4 : (wr.alloc (.cells #[.string (s.extract f i)] 9)).grownBy w3 (some g) := hgrow3
        have HB2 : Hid (Below w.heap.size w w3) := Below.grown (HB.out.alloc hsz _) hgrow4 (by simp; omega) (fun k hk => by injection hk with hk; rw [← hk]; exact HGB.out)
        have HO2 := Frame.hid hO2
        clear hgrow3 hgrow4 hnil3 hown' hO1 hO2 hsz HB
        go_roundw
        case rel => exact ⟨i + 1, i + 1, k + 1, g', cap', _, by go_num, by go_num, rfl, by rw [List.length_append, HK.out]; rfl, HR.out.hit h1 HC.out, HO2.out, HB2.out⟩
        case measure => simp [Go.RowKit.intOf]; omega
      · have hbz : (((s[i].toNat : Int)) == (c.toNat : Int)) = false := by rw [beq_eq_false_iff_ne]; intro e; exact hc (UInt8.toNat_inj.1 (by omega))
        have HC := Frame.hid hc
        have HO := Frame.hid hO
        clear hR hO hB hgB hc hO1
        go_wp2_with fail
        go_roundw
        case rel => exact ⟨f, i + 1, k, g, cap, out, rfl, by go_num, rfl, HK.out, HR.out.miss h1 HC.out, HO.out, HB.out⟩
        case measure => simp [Go.RowKit.intOf]; omega

end Go.Proofs.YtnhpiebddelebabDoor
