/-
  The sine of a quarter of a turn, reckoned: it is 1 to the last bit.
-/
import Derived.Test.YtnflmdlhcjjfdadDoorSw
namespace Go.Proofs.YtnflmdlhcjjfdadDoor
namespace Fl
open Ieee

theorem FOp.of {op : BinOp} {k : FloatKind} {x y r : Nat} (e : floatBits op k x y = some r) : FOp op k x y r := by unfold FOp; rw [e]
theorem FCv.of {s k : FloatKind} {b r : Nat} (e : floatToFloatBits s b k = some r) : FCv s k b r := by unfold FCv; rw [e]

theorem poly0 : Poly 4612738512137897438 0 4607182418800017408 := rfl
theorem poly1 : Poly 4612738512137897438 1 4607100711545048584 := ⟨4607182418800017408, 4612738512137897438, 4576382886099058174, poly0, FOp.of (by decide +kernel), FOp.of (by decide +kernel), FOp.of (by decide +kernel)⟩
theorem poly2 : Poly 4612738512137897438 2 4607077548472490218 := ⟨4607100711545048584, 4612688110995194861, 4577865322742793573, poly1, FOp.of (by decide +kernel), FOp.of (by decide +kernel), FOp.of (by decide +kernel)⟩
theorem poly3 : Poly 4612738512137897438 3 4607041613568030269 := ⟨4607077548472490218, 4612673822847515811, 4580162988832012369, poly2, FOp.of (by decide +kernel), FOp.of (by decide +kernel), FOp.of (by decide +kernel)⟩
theorem poly4 : Poly 4612738512137897438 4 4606983537433042945 := ⟨4607041613568030269, 4612651656391815146, 4582021425151606758, poly3, FOp.of (by decide +kernel), FOp.of (by decide +kernel), FOp.of (by decide +kernel)⟩
theorem poly5 : Poly 4612738512137897438 5 4606880562504908746 := ⟨4606983537433042945, 4612615832111973324, 4584990521757533024, poly4, FOp.of (by decide +kernel), FOp.of (by decide +kernel), FOp.of (by decide +kernel)⟩
theorem poly6 : Poly 4612738512137897438 6 4606671000400092530 := ⟨4606880562504908746, 4612552311999228627, 4588343515434592480, poly5, FOp.of (by decide +kernel), FOp.of (by decide +kernel), FOp.of (by decide +kernel)⟩
theorem poly7 : Poly 4612738512137897438 7 4606134293848575110 := ⟨4606671000400092530, 4612423043557228897, 4593049420274703310, poly6, FOp.of (by decide +kernel), FOp.of (by decide +kernel), FOp.of (by decide +kernel)⟩
theorem poly8 : Poly 4612738512137897438 8 4603909380684499324 := ⟨4606134293848575110, 4612091975973294533, 4600217696148942087, poly7, FOp.of (by decide +kernel), FOp.of (by decide +kernel), FOp.of (by decide +kernel)⟩
theorem part_quarter : PartR 4598175219545276416 4598175219545276416 := ⟨0, 4598175219545276416, by decide +kernel, FOp.of (by decide +kernel), by unfold Step1; rw [if_neg (by decide +kernel)]⟩
theorem sine_of_quarter : SineR 4598175219545276416 4607182418800017604 :=
  ⟨4598175219545276416, part_quarter, 4598175219545276416, 4598175219545276416, 4609753056924675352, 4612738512137897438, 4603909380684499324, 4607182418800017604, by unfold Step2; rw [if_neg (by unfold halfB; decide +kernel)], by unfold Step3; rw [if_neg (by decide +kernel)], FOp.of (by decide +kernel), FOp.of (by decide +kernel), poly8, FOp.of (by decide +kernel), by rw [if_neg (by unfold halfB; decide +kernel)]⟩

end Fl
open Fl
theorem sine_quarter {r : Nat} (h : SineV 1048576000 r) : r = 1065353216 := by
  have h0 : SineV 1048576000 1065353216 := ⟨4598175219545276416, FCv.of (by decide +kernel), .inr (.inr ⟨by decide +kernel, by decide, 4607182418800017604, sine_of_quarter, FCv.of (by decide +kernel)⟩)⟩
  rcases SineV.same h h0 with h1 | ⟨_, h1⟩
  · exact h1
  · exact absurd h1 (by decide +kernel)

end Go.Proofs.YtnflmdlhcjjfdadDoor
