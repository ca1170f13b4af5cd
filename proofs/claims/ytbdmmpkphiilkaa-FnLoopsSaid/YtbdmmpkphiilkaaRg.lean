/-
  The rings of FnLoops, reckoned.
-/
import Derived.Test.YtbdmmpkphiilkaaTu
import Derived.Test.YtbdmmpkphiilkaaUn
namespace Go.Proofs.Ytbdmmpkphiilkaa
open Go.RowKit Fl Ieee
namespace Rg

def rgTab : List (List (Nat × Nat)) := [[(1073741824, 0), (3212836864, 1071494103), (3212836864, 3218977751)], [(1073741824, 0), (0, 1073741824), (3221225472, 0), (0, 3221225472)], [(1073741824, 0), (1058944890, 1072920689), (3218021309, 1066826008), (3218021309, 3214309656), (1058944890, 3220404337)], [(1073741824, 0), (1065353216, 1071494103), (3212836864, 1071494103), (3221225472, 0), (3212836864, 3218977751), (1065353216, 3218977751)], [(1073741824, 0), (1067425031, 1070081564), (3202604167, 1073321184), (3219564005, 1063134722), (3219564005, 3210618370), (3202604167, 3220804832), (1067425031, 3217565212)], [(1073741824, 0), (1068827891, 1068827891), (0, 1073741824), (3216311539, 1068827891), (3221225472, 0), (3216311539, 3216311539), (0, 3221225472), (1068827891, 3216311539)], [(1073741824, 0), (1069816701, 1067748795), (1051840724, 1073486940), (3212836864, 1071494103), (3220213682, 1060052292), (3220213682, 3207535940), (3212836864, 3218977751), (1051840724, 3220970588), (1069816701, 3215232443)], [(1073741824, 0), (1070537661, 1066826008), (1058944890, 1072920689), (3206428538, 1072920689), (3218021309, 1066826008), (3221225472, 0), (3218021309, 3214309656), (3206428538, 3220404337), (1058944890, 3220404337), (1070537661, 3214309656)]]
def dsTab : List (List (Nat × Nat)) := [[(1077936128, 1071494103), (3225419776, 1071494103), (0, 3227366359), (1077936128, 1071494103)], [(1073741824, 1073741824), (3221225472, 1073741824), (3221225472, 3221225472), (1073741824, 3221225472), (1073741824, 1073741824)], [(1068557379, 1072920689), (3216041027, 1072920689), (3222215613, 3208249010), (0, 3222698264), (1074731965, 3208249010), (1068557379, 1072920689)], [(1065353216, 1071494103), (3212836864, 1071494103), (3221225472, 0), (3212836864, 3218977751), (1065353216, 3218977751), (1073741824, 0), (1065353216, 1071494103)], [(1061209586, 1070081564), (3208693234, 1070081564), (3218641961, 1053145872), (3215830723, 3213525471), (0, 3219006978), (1068347075, 3213525471), (1071158313, 1053145872), (1061209586, 1070081564)], [(1058403866, 1068827891), (3205887514, 1068827891), (3216311539, 1058403866), (3216311539, 3205887514), (3205887514, 3216311539), (1058403866, 3216311539), (1068827891, 3205887514), (1068827891, 1058403866), (1058403866, 1068827891)], [(1055887884, 1067748795), (3203371532, 1067748795), (3214387016, 1060052290), (3215750197, 3195225128), (3210813284, 3213239605), (0, 3215924548), (1063329636, 3213239605), (1068266549, 3195225128), (1066903368, 1060052290), (1055887884, 1067748795)], [(1053004044, 1066826008), (3200487692, 1066826008), (3212836864, 1060765362), (3214817146, 0), (3212836864, 3208249010), (3200487692, 3214309656), (1053004044, 3214309656), (1065353216, 3208249010), (1067333498, 0), (1065353216, 1060765362), (1053004044, 1066826008)]]
def gsTab : List (List Nat) := [[1051372203, 1051372203, 1051372203], [1048576000, 1048576000, 1048576000, 1048576000], [1045220557, 1045220557, 1045220557, 1045220557, 1045220557], [1042983595, 1042983595, 1042983595, 1042983595, 1042983595, 1042983595], [1041385765, 1041385765, 1041385764, 1041385764, 1041385764, 1041385764, 1041385765], [1040187392, 1040187391, 1040187392, 1040187391, 1040187392, 1040187391, 1040187392, 1040187391], [1038323257, 1038323258, 1038323255, 1038323257, 1038323258, 1038323258, 1038323257, 1038323255, 1038323258], [1036831948, 1036831948, 1036831949, 1036831949, 1036831948, 1036831948, 1036831948, 1036831949, 1036831949, 1036831948]]
def ssTab : List (List Nat) := [[0, 1051372203, 1059760811, 1065353216], [0, 1048576000, 1056964608, 1061158912, 1065353216], [0, 1045220557, 1053609165, 1058642330, 1061997773, 1065353216], [0, 1042983595, 1051372203, 1056964608, 1059760811, 1062557014, 1065353216], [0, 1041385765, 1049774373, 1054567863, 1058162980, 1060559725, 1062956470, 1065353215], [0, 1040187392, 1048576000, 1052770304, 1056964608, 1059061760, 1061158912, 1063256064, 1065353216], [0, 1038323257, 1046711866, 1051372203, 1055100473, 1057896676, 1059760811, 1061624946, 1063489081, 1065353216], [0, 1036831948, 1045220556, 1050253721, 1053609164, 1056964607, 1058642329, 1060320050, 1061997772, 1063675494, 1065353216]]
def dbTab : List (List (Nat × Nat)) := [[(3225419776, 3218977751), (0, 1079882711), (1077936128, 3218977751), (3225419776, 3218977751)], [(3221225472, 3221225472), (3221225472, 1073741824), (1073741824, 1073741824), (1073741824, 3221225472), (3221225472, 3221225472)], [(3216041027, 3220404337), (3222215613, 1060765362), (0, 1075214616), (1074731965, 1060765362), (1068557379, 3220404337), (3216041027, 3220404337)], [(3212836864, 3218977751), (3221225472, 0), (3212836864, 1071494103), (1065353216, 1071494103), (1073741824, 0), (1065353216, 3218977751), (3212836864, 3218977751)], [(3208693234, 3217565212), (3218641961, 3200629520), (3215830723, 1066041823), (0, 1071523330), (1068347075, 1066041823), (1071158313, 3200629520), (1061209586, 3217565212), (3208693234, 3217565212)], [(3205887514, 3216311539), (3216311539, 3205887514), (3216311539, 1058403866), (3205887514, 1068827891), (1058403866, 1068827891), (1068827891, 1058403866), (1068827891, 3205887514), (1058403866, 3216311539), (3205887514, 3216311539)], [(3203371532, 3215232443), (3214387016, 3207535938), (3215750197, 1047741480), (3210813284, 1065755957), (0, 1068440900), (1063329636, 1065755957), (1068266549, 1047741480), (1066903368, 3207535938), (1055887884, 3215232443), (3203371532, 3215232443)], [(3200487692, 3214309656), (3212836864, 3208249010), (3214817146, 0), (3212836864, 1060765362), (3200487692, 1066826008), (1053004044, 1066826008), (1065353216, 1060765362), (1067333498, 0), (1065353216, 3208249010), (1053004044, 3214309656), (3200487692, 3214309656)]]
def gbTab : List (List Nat) := [[3198855851, 3198855851, 3198855851], [3196059648, 3196059648, 3196059648, 3196059648], [3192704205, 3192704205, 3192704205, 3192704205, 3192704205], [3190467243, 3190467243, 3190467243, 3190467243, 3190467243, 3190467243], [3188869413, 3188869412, 3188869412, 3188869412, 3188869412, 3188869413, 3188869413], [3187671039, 3187671040, 3187671039, 3187671040, 3187671039, 3187671040, 3187671039, 3187671040], [3185806906, 3185806903, 3185806905, 3185806906, 3185806906, 3185806905, 3185806903, 3185806906, 3185806905], [3184315596, 3184315597, 3184315597, 3184315596, 3184315596, 3184315596, 3184315597, 3184315597, 3184315596, 3184315596]]
def sbTab : List (List Nat) := [[0, 3198855851, 3207244459, 3212836864], [0, 3196059648, 3204448256, 3208642560, 3212836864], [0, 3192704205, 3201092813, 3206125978, 3209481421, 3212836864], [0, 3190467243, 3198855851, 3204448256, 3207244459, 3210040662, 3212836864], [0, 3188869413, 3197258020, 3202051510, 3205646628, 3208043373, 3210440118, 3212836863], [0, 3187671039, 3196059648, 3200253952, 3204448256, 3206545408, 3208642560, 3210739712, 3212836864], [0, 3185806906, 3194195512, 3198855850, 3202584120, 3205380323, 3207244458, 3209108593, 3210972728, 3212836863], [0, 3184315596, 3192704204, 3197737369, 3201092812, 3204448255, 3206125977, 3207803699, 3209481421, 3211159142, 3212836864]]
def arTab : List Nat := [1084638945, 1090519040, 1092102983, 1093027553, 1093607768, 1093993714, 1094262641, 1094457182]
def abTab : List Nat := [3232122593, 3238002688, 3239586631, 3240511201, 3241091416, 3241477362, 3241746288, 3241940831]

def rg (n : Nat) : List (Nat × Nat) := rgTab.getD (n - 3) []
def cls (zs : List (Nat × Nat)) : List (Nat × Nat) := zs ++ [zs.getD 0 (0, 0)]

/-- The phasor of k nths of a turn. -/
def phO (n k : Nat) : Option (Nat × Nat) := (floatBits .quo .f64 (floatOfInt .f64 (k : Int)) (floatOfInt .f64 (n : Int))).bind fun y => if (fin .f64 y && decide (y % 9223372036854775808 < 4841369599423283200)) = true then (partO y).bind phasFO else none
def ringOk (n k : Nat) : Bool := match phO n k with
  | some r => !isNan .f32 r.1 && !isNan .f32 r.2 && (floatBits .mul .f32 r.1 1073741824 == some ((rg n).getD k (0, 0)).1) && (floatBits .mul .f32 r.2 1073741824 == some ((rg n).getD k (0, 0)).2)
  | none => false
theorem ring_tab : ∀ n : Fin 8, ∀ k : Fin 10, (decide (n.val + 3 ≤ k.val) || ringOk (n.val + 3) k.val) = true := by decide +kernel

def longO (x1 x2 : Nat) : Option Nat :=
  (floatToFloatBits .f32 x1 .f64).bind fun a => (floatToFloatBits .f32 x2 .f64).bind fun b => (floatBits .mul .f64 a a).bind fun aa => (floatBits .mul .f64 b b).bind fun bb => (floatBits .add .f64 aa bb).bind fun p => (FloatKind.f64.format.sqrt p).bind fun q => floatToFloatBits .f64 q .f32
theorem longO_eq {x1 x2 r r' : Nat} (h : longO x1 x2 = some r) (g : LongZ x1 x2 r') : r' = r := by
  obtain ⟨a, h1, h⟩ := bnd h
  obtain ⟨b, h2, h⟩ := bnd h
  obtain ⟨aa, h3, h⟩ := bnd h
  obtain ⟨bb, h4, h⟩ := bnd h
  obtain ⟨p, h5, h⟩ := bnd h
  obtain ⟨q, h6, h⟩ := bnd h
  obtain ⟨p', q', ⟨a', b', aa', bb', g1, g2, g3, g4, g5⟩, g6, g7⟩ := g
  have e := fcv_eq h1 g1
  subst e
  have e := fcv_eq h2 g2
  subst e
  have e := fop_eq h3 g3
  subst e
  have e := fop_eq h4 g4
  subst e
  have e := fop_eq h5 g5
  subst e
  unfold FSq at g6
  rw [h6] at g6
  subst g6
  exact fcv_eq h g7
def neZ (r : Nat) : Bool := match FloatKind.f32.format.order r 0 with
  | some .eq => false
  | some _ => true
  | none => false
theorem neZ_ok {r : Nat} (h : neZ r = true) : ∃ o, FloatKind.f32.format.order r 0 = some o ∧ o ≠ .eq := by
  unfold neZ at h
  split at h
  · cases h
  · rename_i o ho hs
    exact ⟨o, hs, ho⟩
  · cases h
def pieceDk (p q d : Nat × Nat) : Bool := (floatBits .sub .f32 q.1 p.1 == some d.1) && (floatBits .sub .f32 q.2 p.2 == some d.2)
theorem pieceDk_ok {p q d : Nat × Nat} (h : pieceDk p q d = true) : PieceD p q d := by
  unfold pieceDk at h
  rw [Bool.and_eq_true] at h
  exact ⟨eq_of_beq h.1, eq_of_beq h.2⟩
def angMO (before behind : Nat × Nat) : Option Nat := (mulZO behind.1 behind.2 before.1 (Op.negFloat .f32 before.2)).bind fun m => angO m.2 m.1
def turnTk (before behind : Nat × Nat) (a : Nat) : Bool := (match longO behind.1 behind.2 with | some r => neZ r | none => false) && (angMO before behind == some a) && !isNan .f32 a
theorem turnTk_ok {before behind : Nat × Nat} {a : Nat} (h : turnTk before behind a = true) : TurnT before behind a := by
  unfold turnTk at h
  rw [Bool.and_eq_true, Bool.and_eq_true] at h
  obtain ⟨⟨h1, h2⟩, h3⟩ := h
  obtain ⟨m, k1, k2⟩ := bnd (eq_of_beq h2)
  refine ⟨fun r hr => ?_, fun m1 m2 r hm hr => ?_⟩
  · split at h1
    · rename_i r0 hr0
      rw [longO_eq hr0 hr]
      exact neZ_ok h1
    · cases h1
  · obtain ⟨e1, e2⟩ := mulZO_eq k1 hm
    subst e1 e2
    rcases AngleV.same hr (angO_ok k2) with e | ⟨_, e⟩
    · exact e
    · rw [e] at h3; cases h3
def turnsOk (zs ds : List (Nat × Nat)) (gs ss : List Nat) (n : Nat) : Bool :=
  pieceDk (zs.getD (n - 1) (0, 0)) (zs.getD 0 (0, 0)) (ds.getD 0 (0, 0)) && (ss.getD 0 0 == 0) && (List.range n).all fun k => pieceDk ((cls zs).getD k (0, 0)) ((cls zs).getD (k + 1) (0, 0)) (ds.getD (k + 1) (0, 0)) && turnTk (ds.getD k (0, 0)) (ds.getD (k + 1) (0, 0)) (gs.getD k 0) && (floatBits .add .f32 (ss.getD k 0) (gs.getD k 0) == some (ss.getD (k + 1) 0))
theorem turnsOk_ok {zs ds : List (Nat × Nat)} {gs ss : List Nat} {n : Nat} (h : turnsOk zs ds gs ss n = true) : PieceD (zs.getD (n - 1) (0, 0)) (zs.getD 0 (0, 0)) (ds.getD 0 (0, 0)) ∧ TurnsR (zs ++ [zs.getD 0 (0, 0)]) ds gs ss n := by
  unfold turnsOk at h
  rw [Bool.and_eq_true, Bool.and_eq_true] at h
  obtain ⟨⟨h1, h2⟩, h3⟩ := h
  refine ⟨pieceDk_ok h1, fun k hk => ?_, eq_of_beq h2⟩
  have h4 := List.all_eq_true.1 h3 k (List.mem_range.2 hk)
  rw [Bool.and_eq_true, Bool.and_eq_true] at h4
  exact ⟨pieceDk_ok h4.1.1, turnTk_ok h4.1.2, eq_of_beq h4.2⟩

def crossO (p q : Nat × Nat) : Option Nat := (floatBits .mul .f32 p.1 q.2).bind fun u => (floatBits .mul .f32 p.2 q.1).bind fun v => floatBits .sub .f32 u v
theorem crossO_eq {p q : Nat × Nat} {r r' : Nat} (h : crossO p q = some r) (g : CrossR p q r') : r' = r := by
  obtain ⟨u, h1, h⟩ := bnd h
  obtain ⟨v, h2, h⟩ := bnd h
  obtain ⟨u', v', g1, g2, g3⟩ := g
  have e := fop_eq h1 g1
  subst e
  have e := fop_eq h2 g2
  subst e
  exact fop_eq h g3
theorem crossO_mk {p q : Nat × Nat} {r : Nat} (h : crossO p q = some r) : CrossR p q r := by
  obtain ⟨u, h1, h⟩ := bnd h
  obtain ⟨v, h2, h⟩ := bnd h
  exact ⟨u, v, fop_mk h1, fop_mk h2, fop_mk h⟩
def pieceO (p q z : Nat × Nat) : Option Nat := (floatBits .sub .f32 q.1 p.1).bind fun a => (floatBits .sub .f32 q.2 p.2).bind fun b => (floatBits .sub .f32 z.1 p.1).bind fun c => (floatBits .sub .f32 z.2 p.2).bind fun d => crossO (a, b) (c, d)
def pieceTk (p q z : Nat × Nat) : Bool := match pieceO p q z with
  | some s => (FloatKind.f32.format.order p.2 z.2).isSome && (FloatKind.f32.format.order q.2 z.2).isSome && (FloatKind.f32.format.order s 0).isSome
  | none => false
theorem pieceTk_ok {p q z : Nat × Nat} (h : pieceTk p q z = true) : ∃ s, pieceO p q z = some s ∧ PieceT p q z s := by
  unfold pieceTk at h
  split at h
  · rename_i s hs
    rw [Bool.and_eq_true, Bool.and_eq_true] at h
    obtain ⟨a, h1, k⟩ := bnd hs
    obtain ⟨b, h2, k⟩ := bnd k
    obtain ⟨c, h3, k⟩ := bnd k
    obtain ⟨d, h4, k⟩ := bnd k
    exact ⟨s, hs, ⟨a, b, c, d, h1, h2, h3, h4, fun r hr => crossO_eq k hr⟩, Option.isSome_iff_exists.1 h.1.1, Option.isSome_iff_exists.1 h.1.2, Option.isSome_iff_exists.1 h.2⟩
  · cases h
theorem pieceT_one {p q z : Nat × Nat} {s s' : Nat} (h : PieceT p q z s) (h' : pieceO p q z = some s') : s = s' := by
  obtain ⟨a, b, c, d, g1, g2, g3, g4, g5⟩ := h.ex
  obtain ⟨a', h1, k⟩ := bnd h'
  obtain ⟨b', h2, k⟩ := bnd k
  obtain ⟨c', h3, k⟩ := bnd k
  obtain ⟨d', h4, k⟩ := bnd k
  rw [g1] at h1
  rw [g2] at h2
  rw [g3] at h3
  rw [g4] at h4
  injection h1 with h1
  injection h2 with h2
  injection h3 with h3
  injection h4 with h4
  subst h1 h2 h3 h4
  exact (g5 s' (crossO_mk k)).symm
def windC (zs : List (Nat × Nat)) (z : Nat × Nat) : Nat → Int
  | 0 => 0
  | k + 1 => windC zs z k + match pieceO (zs.getD k (0, 0)) (zs.getD (k + 1) (0, 0)) z with | some s => turnAt (zs.getD k (0, 0)) (zs.getD (k + 1) (0, 0)) z s | none => 0
def windOk (zs : List (Nat × Nat)) (z : Nat × Nat) (n : Nat) (v : Int) : Bool := ((List.range n).all fun k => pieceTk (zs.getD k (0, 0)) (zs.getD (k + 1) (0, 0)) z) && decide (windC zs z n = v)
theorem windOk_pieces {zs : List (Nat × Nat)} {z : Nat × Nat} {n : Nat} {v : Int} (h : windOk zs z n v = true) : ∀ k, k < n → ∃ s, PieceT (zs.getD k (0, 0)) (zs.getD (k + 1) (0, 0)) z s := fun k hk => by
  unfold windOk at h
  rw [Bool.and_eq_true] at h
  obtain ⟨s, _, h2⟩ := pieceTk_ok (List.all_eq_true.1 h.1 k (List.mem_range.2 hk))
  exact ⟨s, h2⟩
theorem windC_eq {zs : List (Nat × Nat)} {z : Nat × Nat} {n : Nat} (h : ∀ k, k < n → pieceTk (zs.getD k (0, 0)) (zs.getD (k + 1) (0, 0)) z = true) : ∀ (k : Nat) (v : Int), k ≤ n → WindR zs z k v → v = windC zs z k
  | 0, v, _, g => g
  | k + 1, v, hk, g => by
    obtain ⟨u, s, g1, g2, g3⟩ := g
    obtain ⟨s', h1, h2⟩ := pieceTk_ok (h k (by omega))
    have e := pieceT_one g2 h1
    subst e
    rw [g3, windC_eq h k u (by omega) g1]
    show _ = windC zs z k + _
    rw [h1]
theorem windOk_eq {zs : List (Nat × Nat)} {z : Nat × Nat} {n : Nat} {v v' : Int} (h : windOk zs z n v = true) (g : WindR zs z n v') : v' = v := by
  unfold windOk at h
  rw [Bool.and_eq_true] at h
  rw [windC_eq (fun k hk => List.all_eq_true.1 h.1 k (List.mem_range.2 hk)) n v' (Nat.le_refl _) g]
  exact of_decide_eq_true h.2

def sumO (zs : List (Nat × Nat)) : Nat → Option Nat
  | 0 => some 0
  | k + 1 => (sumO zs k).bind fun s => (crossO (zs.getD k (0, 0)) (zs.getD (k + 1) (0, 0))).bind fun c => floatBits .add .f32 s c
theorem sumO_eq {zs : List (Nat × Nat)} : ∀ {k r r' : Nat}, sumO zs k = some r → SumR zs k r' → r' = r
  | 0, r, r', h, g => by
    have h : some 0 = some r := h
    injection h with h
    exact g.trans h
  | k + 1, r, r', h, g => by
    obtain ⟨s, h1, h⟩ := bnd h
    obtain ⟨c, h2, h⟩ := bnd h
    obtain ⟨s', c', g1, g2, g3⟩ := g
    have e := sumO_eq h1 g1
    subst e
    have e := crossO_eq h2 g2
    subst e
    exact fop_eq h g3
def areaO (zs : List (Nat × Nat)) : Option Nat := (sumO zs (zs.length - 1)).bind fun s => floatBits .quo .f32 s 1073741824
theorem areaO_eq {zs : List (Nat × Nat)} {r r' : Nat} (h : areaO zs = some r) (g : AreaR zs r') : r' = r := by
  obtain ⟨s, h1, h⟩ := bnd h
  obtain ⟨s', g1, g2⟩ := g
  have e := sumO_eq h1 g1
  subst e
  exact fop_eq h g2

/-- The gap of two numbers is under m. -/
def nearOk (a b m : Nat) : Bool := match gapO a b with
  | some g => FloatKind.f64.format.order g m == some Ordering.lt
  | none => false
theorem nearOk_ok {a b m g : Nat} (h : nearOk a b m = true) (hg : GapR a b g) : FloatKind.f64.format.order g m = some Ordering.lt := by
  unfold nearOk at h
  split at h
  · rename_i g0 h0
    rw [gapO_eq h0 hg]
    exact eq_of_beq h
  · cases h
def nearW (x b m : Nat) : Bool := match floatToFloatBits .f32 x .f64 with
  | some a => nearOk a b m
  | none => false
theorem nearW_ok {x b m a g : Nat} (h : nearW x b m = true) (ha : FCv .f32 .f64 x a) (hg : GapR a b g) : FloatKind.f64.format.order g m = some Ordering.lt := by
  unfold nearW at h
  split at h
  · rename_i a0 h0
    have e := fcv_eq h0 ha
    subst e
    exact nearOk_ok h hg
  · cases h
def nearN (x y m : Nat) : Bool := match floatToFloatBits .f32 x .f64, floatToFloatBits .f32 y .f64 with
  | some a, some b => nearOk a (Op.negFloat .f64 b) m
  | _, _ => false
theorem nearN_ok {x y m a b g : Nat} (h : nearN x y m = true) (ha : FCv .f32 .f64 x a) (hb : FCv .f32 .f64 y b) (hg : GapR a (Op.negFloat .f64 b) g) : FloatKind.f64.format.order g m = some Ordering.lt := by
  unfold nearN at h
  split at h
  · rename_i a0 b0 h0 h1
    have e := fcv_eq h0 ha
    subst e
    have e := fcv_eq h1 hb
    subst e
    exact nearOk_ok h hg
  · cases h

def inOk (x : Nat) : Bool := decide (x < 4294967296) && match FloatKind.f32.format.read x with
  | .number s m p => decide (-2.1 ≤ dv s m p ∧ dv s m p ≤ 2.1)
  | _ => false
theorem inOk_ok {x : Nat} (h : inOk x = true) : x < 4294967296 ∧ ∃ q, FV .f32 x q ∧ -2.1 ≤ q ∧ q ≤ 2.1 := by
  unfold inOk at h
  rw [Bool.and_eq_true] at h
  refine ⟨of_decide_eq_true h.1, ?_⟩
  have h2 := h.2
  split at h2
  · rename_i s m p hr
    exact ⟨_, ⟨s, m, p, hr, rfl⟩, of_decide_eq_true h2⟩
  · cases h2
def inside : Nat × Nat := (1040187392, 1031798784)
def outside : Nat × Nat := (1084227584, 1031798784)
/-- All that is reckoned of a ring. -/
structure RingT (n : Nat) : Prop where
  len : (rg n).length = n
  small : ((rg n).all fun z => inOk z.1 && inOk z.2) = true
  turns : turnsOk (rg n) (dsTab.getD (n - 3) []) (gsTab.getD (n - 3) []) (ssTab.getD (n - 3) []) n = true
  turnsB : turnsOk (rg n).reverse (dbTab.getD (n - 3) []) (gbTab.getD (n - 3) []) (sbTab.getD (n - 3) []) n = true
  one : nearW ((ssTab.getD (n - 3) []).getD n 0) 4607182418800017408 4562254508917369340 = true
  oneB : nearW ((sbTab.getD (n - 3) []).getD n 0) 13830554455654793216 4562254508917369340 = true
  finT : (fin .f32 ((ssTab.getD (n - 3) []).getD n 0) && fin .f32 ((sbTab.getD (n - 3) []).getD n 0)) = true
  windI : windOk (cls (rg n)) inside n 1 = true
  windO : windOk (cls (rg n)) outside n 0 = true
  windB : windOk (cls (rg n).reverse) inside n (-1) = true
  area : areaO (cls (rg n)) = some (arTab.getD (n - 3) 0)
  areaB : areaO (cls (rg n).reverse) = some (abTab.getD (n - 3) 0)
  more : (FloatKind.f32.format.order (arTab.getD (n - 3) 0) 0 == some Ordering.gt) = true
  opp : nearN (abTab.getD (n - 3) 0) (arTab.getD (n - 3) 0) 4562254508917369340 = true
def ringB (n : Nat) : Bool := decide ((rg n).length = n) && ((rg n).all fun z => inOk z.1 && inOk z.2) && turnsOk (rg n) (dsTab.getD (n - 3) []) (gsTab.getD (n - 3) []) (ssTab.getD (n - 3) []) n && turnsOk (rg n).reverse (dbTab.getD (n - 3) []) (gbTab.getD (n - 3) []) (sbTab.getD (n - 3) []) n && nearW ((ssTab.getD (n - 3) []).getD n 0) 4607182418800017408 4562254508917369340 && nearW ((sbTab.getD (n - 3) []).getD n 0) 13830554455654793216 4562254508917369340 && (fin .f32 ((ssTab.getD (n - 3) []).getD n 0) && fin .f32 ((sbTab.getD (n - 3) []).getD n 0)) && windOk (cls (rg n)) inside n 1 && windOk (cls (rg n)) outside n 0 && windOk (cls (rg n).reverse) inside n (-1) && (areaO (cls (rg n)) == some (arTab.getD (n - 3) 0)) && (areaO (cls (rg n).reverse) == some (abTab.getD (n - 3) 0)) && (FloatKind.f32.format.order (arTab.getD (n - 3) 0) 0 == some Ordering.gt) && nearN (abTab.getD (n - 3) 0) (arTab.getD (n - 3) 0) 4562254508917369340
theorem ringB_tab : ∀ n : Fin 8, ringB (n.val + 3) = true := by decide +kernel
theorem ring_all {n : Nat} (h3 : 3 ≤ n) (h10 : n ≤ 10) : RingT n := by
  have h := ringB_tab ⟨n - 3, by omega⟩
  simp only at h
  rw [show n - 3 + 3 = n by omega] at h
  unfold ringB at h
  rw [Bool.and_eq_true, Bool.and_eq_true, Bool.and_eq_true, Bool.and_eq_true, Bool.and_eq_true, Bool.and_eq_true, Bool.and_eq_true, Bool.and_eq_true, Bool.and_eq_true, Bool.and_eq_true, Bool.and_eq_true, Bool.and_eq_true, Bool.and_eq_true] at h
  obtain ⟨⟨⟨⟨⟨⟨⟨⟨⟨⟨⟨⟨⟨a1, a2⟩, a3⟩, a4⟩, a5⟩, a6⟩, a7⟩, a8⟩, a9⟩, a10⟩, a11⟩, a12⟩, a13⟩, a14⟩ := h
  exact ⟨of_decide_eq_true a1, a2, a3, a4, a5, a6, a7, a8, a9, a10, eq_of_beq a11, eq_of_beq a12, a13, a14⟩

end Rg
end Go.Proofs.Ytbdmmpkphiilkaa
