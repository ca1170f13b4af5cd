package tests

import (
	"slices"
	"testing"

	"loop.example/g01328/impl"
)

// arch is the curve of the chapter's example.
func arch() impl.Curve { return plain(0, 1+1i, 2) }

// heavy is a curve with several weights.
func heavy() impl.Curve {
	return impl.Curve{Points: []complex64{0, 1 + 2i, 3 - 1i, 4 + 1i}, Weights: []float32{1, 2, 0.5, 3}}
}

// atTime is what a function of a curve and a time returns.
type atTime struct {
	curve impl.Curve
	time  float32
	want  complex64
}

// someCurves are a line, one with weights, and a quarter of a circle.
func someCurves() (impl.Curve, impl.Curve, impl.Curve) {
	weighted := impl.Curve{Points: []complex64{0, 4}, Weights: []float32{1, 3}}
	quarter, _ := impl.QuarterCurve(0, 1)
	return plain(1, 5-2i), weighted, quarter
}

// Promise 3: what a valid curve is.
func TestValidCurve(t *testing.T) {
	for count := range 12 {
		c := plain(make([]complex64, count)...)
		wantEqual(t, impl.ValidCurve(c), count >= 2 && count <= 8, "ValidCurve of points", count)
	}
	wantEqual(t, impl.MaxDegree, 7, "MaxDegree")
	wantTrue(t, !impl.ValidCurve(impl.Curve{}), "no curve")
	short, long := arch(), arch()
	short.Weights = short.Weights[:2]
	long.Weights = append(long.Weights, 1)
	wantTrue(t, !impl.ValidCurve(short), "a weight too few")
	wantTrue(t, !impl.ValidCurve(long), "a weight too many")
	wantTrue(t, !impl.ValidCurve(impl.Curve{Points: []complex64{0, 1}}), "no weights")
	wantTrue(t, !impl.ValidCurve(impl.Curve{Weights: []float32{1, 1}}), "no points")
	for i := range 3 {
		for _, weight := range []float32{leastNumber, leastNormal, 0.5, 3, mostNumber} {
			c := arch()
			c.Weights[i] = weight
			wantTrue(t, impl.ValidCurve(c), "weight", i, weight)
		}
		for _, weight := range []float32{0, negZero, -leastNumber, -1, infinity, -infinity, notNum} {
			c := arch()
			c.Weights[i] = weight
			wantTrue(t, !impl.ValidCurve(c), "weight", i, weight)
		}
		for _, point := range wildPoints() {
			c := arch()
			c.Points[i] = point
			wantTrue(t, !impl.ValidCurve(c), "point", i, point)
		}
		c := arch()
		c.Points[i] = complex(mostNumber, -mostNumber)
		wantTrue(t, impl.ValidCurve(c), "far point", i)
	}
}

// Promise 3: curves are compared number by number, valid or not.
func TestSameCurve(t *testing.T) {
	first := impl.Curve{Points: []complex64{0, complex(notNum, 1)}, Weights: []float32{notNum, -1, 0}}
	wantTrue(t, impl.SameCurve(first, copyCurve(first)), "the same numbers")
	wantTrue(t, impl.SameCurve(impl.Curve{}, impl.Curve{Points: []complex64{}, Weights: []float32{}}), "no numbers")
	for i := range first.Points {
		for _, point := range []complex64{complex(negZero, 0), complex(0, negZero), complex(notNum, 2), 5} {
			c := copyCurve(first)
			c.Points[i] = point
			wantTrue(t, !impl.SameCurve(first, c), "another point", i, point)
		}
	}
	for i := range first.Weights {
		for _, weight := range []float32{1, negZero} {
			c := copyCurve(first)
			c.Weights[i] = weight
			wantTrue(t, !impl.SameCurve(first, c), "another weight", i, weight)
		}
	}
	for _, c := range []impl.Curve{
		{Points: first.Points[:1], Weights: first.Weights},
		{Points: first.Points, Weights: first.Weights[:2]},
		{Points: first.Points},
		{Weights: first.Weights},
	} {
		wantTrue(t, !impl.SameCurve(first, c), "fewer numbers", c)
		wantTrue(t, !impl.SameCurve(c, first), "more numbers", c)
	}
}

// Promise 3: plain curves have 2 to 8 points.
func TestPlainCurve(t *testing.T) {
	points := []complex64{1, 2i, 3 - 1i, complex(negZero, 4), 5, 6, 7, 8, 9}
	for count := range 10 {
		got, ok := impl.PlainCurve(points[:count])
		if count >= 2 && count <= 8 {
			wantCurve(t, got, ok, plain(points[:count]...), "PlainCurve", count)
		} else {
			wantNoCurve(t, got, ok, "PlainCurve", count)
		}
	}
	for _, point := range wildPoints() {
		got, ok := impl.PlainCurve([]complex64{1, point})
		wantNoCurve(t, got, ok, "PlainCurve", point)
	}
	got, ok := impl.PlainCurve(nil)
	wantNoCurve(t, got, ok, "PlainCurve of none")
}

// Promise 3, and the chapter's example: quarters are round.
func TestQuarterCurve(t *testing.T) {
	got, ok := impl.QuarterCurve(1+2i, 3)
	wantCurve(t, got, ok, impl.Curve{Points: []complex64{4 + 2i, 4 + 5i, 1 + 5i}, Weights: hexNumbers("3f800000,3f3504f3,3f800000")}, "QuarterCurve")
	got, ok = impl.QuarterCurve(complex(negZero, -1), leastNumber)
	wantCurve(t, got, ok, impl.Curve{Points: []complex64{complex(leastNumber, -1), complex(leastNumber, -1), complex(0, -1)}, Weights: hexNumbers("3f800000,3f3504f3,3f800000")}, "QuarterCurve of the least number")
	got, ok = impl.QuarterCurve(0, mostNumber)
	wantTrue(t, ok && impl.ValidCurve(got), "QuarterCurve of the greatest number")
	for _, radius := range []float32{0, negZero, -leastNumber, -1, infinity, -infinity, notNum} {
		got, ok := impl.QuarterCurve(1, radius)
		wantNoCurve(t, got, ok, "QuarterCurve", radius)
	}
	for _, middle := range append(wildPoints(), complex(mostNumber, 0), complex(0, mostNumber)) {
		got, ok := impl.QuarterCurve(middle, 1e38)
		wantNoCurve(t, got, ok, "QuarterCurve", middle)
	}
	quarter, _ := impl.QuarterCurve(0, 1)
	for i := range 101 {
		at, ok := impl.CurveAt(quarter, float32(i)/100)
		long := impl.LongOf(at)
		wantTrue(t, ok && long > 0.999999 && long < 1.000001, "distance of the quarter", i, long)
	}
}

// Promise 3, and the chapter's example: points at times.
func TestCurveAt(t *testing.T) {
	line, weighted, quarter := someCurves()
	for _, c := range []atTime{
		{arch(), 0.5, 1 + 0.5i}, {arch(), 0, 0}, {arch(), negZero, 0}, {arch(), 1, 2}, {arch(), 0.25, 0.5 + 0.375i},
		{line, 0, 1}, {line, 1, 5 - 2i}, {line, 0.25, 2 - 0.5i}, {line, 0.5, 3 - 1i},
		{weighted, 0.5, 3}, {weighted, 0, 0}, {weighted, 1, 4},
		{quarter, 0, 1}, {quarter, 0.1, hexPoints("3f7d4c28/3e1465c6")[0]}, {quarter, 0.5, hexPoints("3f3504f2/3f3504f2")[0]},
		{quarter, 1, 1i}, {heavy(), 0.3, hexPoints("3f88225e/3f9ffd14")[0]},
		{plain(complex(negZero, negZero), 1), 0, 0}, {plain(complex(0, 1), complex(-1, 1)), 0.5, -0.5 + 1i},
		{plain(complex(mostNumber, 0), complex(-mostNumber, 0)), 0.5, 0},
	} {
		got, ok := impl.CurveAt(c.curve, c.time)
		wantPoint(t, got, ok, c.want, "CurveAt", c.curve, c.time)
	}
}

// Promise 3, and the chapter's example: slopes at times.
func TestSlopeAt(t *testing.T) {
	line, weighted, quarter := someCurves()
	for _, c := range []atTime{
		{arch(), 0.5, 2}, {arch(), 0, 2 + 2i}, {arch(), 1, 2 - 2i}, {arch(), negZero, 2 + 2i},
		{line, 0, 4 - 2i}, {line, 0.25, 4 - 2i}, {line, 1, 4 - 2i},
		{weighted, 0, 12}, {weighted, 0.5, 3}, {weighted, 1, hexPoints("3faaaaab/00000000")[0]},
		{quarter, 0, hexPoints("b3b504f3/3fb504f2")[0]}, {quarter, 0.3, hexPoints("bf362a3a/3fb93a6c")[0]},
		{quarter, 1, hexPoints("bfb504f2/33b504f3")[0]}, {heavy(), 0.3, hexPoints("405eb8f9/3f18dd21")[0]},
		{plain(2, 2, 2), 0.5, 0},
	} {
		got, ok := impl.SlopeAt(c.curve, c.time)
		wantPoint(t, got, ok, c.want, "SlopeAt", c.curve, c.time)
	}
}

// Promise 3: both fail at other times, for curves that are not valid, and where a part is not finite.
func TestPointsAndSlopesFail(t *testing.T) {
	for _, time := range notTimes() {
		at, ok := impl.CurveAt(arch(), time)
		wantNoPoint(t, at, ok, "CurveAt", time)
		slope, ok := impl.SlopeAt(plain(1, 2), time)
		wantNoPoint(t, slope, ok, "SlopeAt", time)
	}
	for _, c := range notCurves() {
		at, ok := impl.CurveAt(c, 0.5)
		wantNoPoint(t, at, ok, "CurveAt", c)
		slope, ok := impl.SlopeAt(c, 0.5)
		wantNoPoint(t, slope, ok, "SlopeAt", c)
	}
	far := impl.Curve{Points: []complex64{farPoint, farPoint}, Weights: []float32{2, 2}}
	at, ok := impl.CurveAt(far, 0)
	wantNoPoint(t, at, ok, "CurveAt far away")
	slope, ok := impl.SlopeAt(far, 0)
	wantPoint(t, slope, ok, 0, "SlopeAt far away")
	steep := plain(complex(0, -mostNumber), complex(0, mostNumber))
	slope, ok = impl.SlopeAt(steep, 0.5)
	wantNoPoint(t, slope, ok, "SlopeAt of a steep curve")
	// The weights of both points blend to 0.
	light := impl.Curve{Points: []complex64{1, 1}, Weights: []float32{leastNumber, leastNumber}}
	at, ok = impl.CurveAt(light, 0.5)
	wantNoPoint(t, at, ok, "CurveAt with little weight")
	slope, ok = impl.SlopeAt(light, 0.5)
	wantNoPoint(t, slope, ok, "SlopeAt with little weight")
}

// notCurves are curves that are not valid.
func notCurves() []impl.Curve {
	list := []impl.Curve{
		{}, plain(1), plain(make([]complex64, 9)...),
		{Points: []complex64{0, 1}}, {Weights: []float32{1, 1}},
		{Points: []complex64{0, 1}, Weights: []float32{1}}, {Points: []complex64{0, 1}, Weights: []float32{1, 1, 1}},
		{Points: []complex64{0, 1}, Weights: []float32{0, 1}}, {Points: []complex64{0, 1, 2}, Weights: []float32{1, -1, 1}},
	}
	for _, x := range wildNumbers() {
		list = append(list, impl.Curve{Points: []complex64{0, 1, 2}, Weights: []float32{1, x, 1}})
	}
	for _, point := range wildPoints() {
		list = append(list, plain(0, 1, point))
	}
	return list
}

// Promise 3: all other functions fail for curves that are not valid.
func TestCurvesThatAreNotValid(t *testing.T) {
	for _, c := range notCurves() {
		former, latter, ok := impl.CutCurve(c, 0.5)
		wantNoCurve(t, former, ok, "CutCurve", c)
		wantNoCurve(t, latter, ok, "CutCurve", c)
		got, ok := impl.PartOfCurve(c, 0.25, 0.5)
		wantNoCurve(t, got, ok, "PartOfCurve", c)
		got, ok = impl.BackCurve(c)
		wantNoCurve(t, got, ok, "BackCurve", c)
		got, ok = impl.MoveCurve(c, 1)
		wantNoCurve(t, got, ok, "MoveCurve", c)
		got, ok = impl.TurnCurve(c, 0, 1)
		wantNoCurve(t, got, ok, "TurnCurve", c)
		got, ok = impl.RaiseCurve(c)
		wantNoCurve(t, got, ok, "RaiseCurve", c)
		got, ok = impl.SlopeCurve(c)
		wantNoCurve(t, got, ok, "SlopeCurve", c)
		got, ok = impl.BlendCurves(c, c, 0)
		wantNoCurve(t, got, ok, "BlendCurves", c)
		got, ok = impl.BlendCurves(plain(0, 1, 2), c, 0)
		wantNoCurve(t, got, ok, "BlendCurves", c)
		points, ok := impl.PointsOn(c, 2)
		wantNoList(t, points, ok, "PointsOn", c)
	}
}

// Promise 3: a curve in the opposite order has the same points at opposite times.
func TestBackCurve(t *testing.T) {
	got, ok := impl.BackCurve(heavy())
	want := heavy()
	slices.Reverse(want.Points)
	slices.Reverse(want.Weights)
	wantCurve(t, got, ok, want, "BackCurve")
	got, ok = impl.BackCurve(plain(1, 2i))
	wantCurve(t, got, ok, plain(2i, 1), "BackCurve of a line")
	at, _ := impl.CurveAt(want, 0.25)
	opposite, _ := impl.CurveAt(heavy(), 0.75)
	wantNear(t, at, opposite, "opposite times")
}

// Promise 3: a curve is moved with its points.
func TestMoveCurve(t *testing.T) {
	want := heavy()
	want.Points = []complex64{1 - 1i, 2 + 1i, 4 - 2i, 5}
	got, ok := impl.MoveCurve(heavy(), 1-1i)
	wantCurve(t, got, ok, want, "MoveCurve")
	for _, by := range append(wildPoints(), complex(mostNumber, 0), complex(0, -mostNumber)) {
		got, ok := impl.MoveCurve(plain(0, complex(mostNumber, -mostNumber)), by)
		wantNoCurve(t, got, ok, "MoveCurve", by)
	}
	got, ok = impl.MoveCurve(plain(farPoint, 0), -farPoint)
	wantCurve(t, got, ok, plain(0, -farPoint), "MoveCurve far away")
}

// Promise 3: a curve is turned and scaled with its points.
func TestTurnCurve(t *testing.T) {
	got, ok := impl.TurnCurve(arch(), 0, 2)
	wantCurve(t, got, ok, plain(0, 2+2i, 4), "TurnCurve by nothing")
	got, ok = impl.TurnCurve(heavy(), 0.1, 3)
	wantCurve(t, got, ok, hexCurve("00000000/00000000,bf8cc1ac/40d3c237,4110b64f/40373ba8,40fe3c33/4117b006", "3f800000,40000000,3f000000,40400000"), "TurnCurve")
	got, ok = impl.TurnCurve(plain(1, 2i), 0.25, -1)
	wantTrue(t, ok, "TurnCurve by a quarter")
	wantNear(t, got.Points[0], -1i, "TurnCurve by a quarter")
	wantNear(t, got.Points[1], 2, "TurnCurve by a quarter")
	got, ok = impl.TurnCurve(plain(1, 2), 0.125, 0)
	wantTrue(t, ok && impl.ValidCurve(got) && got.Points[1] == 0, "TurnCurve to nothing")
	got, ok = impl.TurnCurve(plain(1, 2), mostNumber, 1)
	wantCurve(t, got, ok, plain(1, 2), "TurnCurve by many turns")
	for _, x := range wildNumbers() {
		got, ok := impl.TurnCurve(arch(), x, 1)
		wantNoCurve(t, got, ok, "TurnCurve by", x)
		got, ok = impl.TurnCurve(plain(0, 0), 0, x)
		wantNoCurve(t, got, ok, "TurnCurve scaled by", x)
	}
	got, ok = impl.TurnCurve(plain(0, 1e30), 0, 1e30)
	wantNoCurve(t, got, ok, "TurnCurve far away")
}

// Promise 3: the curve of slopes has the slopes as points.
func TestSlopeCurve(t *testing.T) {
	got, ok := impl.SlopeCurve(arch())
	wantCurve(t, got, ok, plain(2+2i, 2-2i), "SlopeCurve")
	got, ok = impl.SlopeCurve(plain(0, 1, 3i, 3i))
	wantCurve(t, got, ok, plain(3, -3+9i, 0), "SlopeCurve of the degree 3")
	got, ok = impl.SlopeCurve(plain(make([]complex64, 8)...))
	wantCurve(t, got, ok, plain(make([]complex64, 7)...), "SlopeCurve of the degree 7")
	got, ok = impl.SlopeCurve(plain(1, 2))
	wantNoCurve(t, got, ok, "SlopeCurve of a line")
	for i := range 3 {
		c := arch()
		c.Weights[i] = 0.99999994
		got, ok := impl.SlopeCurve(c)
		wantNoCurve(t, got, ok, "SlopeCurve with the weight", i)
	}
	got, ok = impl.SlopeCurve(plain(0, farPoint, 0))
	wantNoCurve(t, got, ok, "SlopeCurve of a steep curve")
	s := newSource()
	for range 200 {
		c := s.curve(2, 7)
		c = plain(c.Points...)
		time := s.time()
		slopes, _ := impl.SlopeCurve(c)
		at, ok := impl.CurveAt(slopes, time)
		slope, _ := impl.SlopeAt(c, time)
		wantTrue(t, ok, "SlopeCurve")
		wantNear(t, at, slope, "SlopeCurve", c, time)
	}
}

// Promise 3: shares of points.
func TestSharesAt(t *testing.T) {
	for _, c := range []struct {
		n    int64
		time float32
		want []float32
	}{
		{1, 0.25, []float32{0.75, 0.25}}, {2, 0.5, []float32{0.25, 0.5, 0.25}}, {3, 0.5, []float32{0.125, 0.375, 0.375, 0.125}},
		{1, 0, []float32{1, 0}}, {1, 1, []float32{0, 1}}, {1, negZero, []float32{1, 0}},
		{7, 0, []float32{1, 0, 0, 0, 0, 0, 0, 0}}, {7, 1, []float32{0, 0, 0, 0, 0, 0, 0, 1}},
		{3, 0.3, hexNumbers("3eaf9db2,3ee1cac0,3e418938,3cdd2f1c")},
	} {
		got, ok := impl.SharesAt(c.n, c.time)
		wantNumbers(t, got, ok, c.want, "SharesAt", c.n, c.time)
	}
	for _, n := range []int64{0, 8, -1, 1 << 40, -1 << 63, 1<<63 - 1} {
		got, ok := impl.SharesAt(n, 0.5)
		wantNoList(t, got, ok, "SharesAt", n)
	}
	for _, time := range notTimes() {
		got, ok := impl.SharesAt(2, time)
		wantNoList(t, got, ok, "SharesAt", time)
	}
}

// Promise 3: a plain curve is the sum of its points' shares, nearly.
func TestSharesMakeCurves(t *testing.T) {
	s := newSource()
	for range 300 {
		c := plain(s.curve(1, 7).Points...)
		time := s.time()
		shares, ok := impl.SharesAt(int64(len(c.Points)-1), time)
		var sum complex64
		for i, share := range shares {
			sum += impl.ScaleComplex(c.Points[i], share)
		}
		at, _ := impl.CurveAt(c, time)
		wantTrue(t, ok, "SharesAt")
		wantNear(t, sum, at, "SharesAt", c, time)
	}
}

// Promise 3: curves between two others.
func TestBlendCurves(t *testing.T) {
	other := impl.Curve{Points: []complex64{1, 2, 3, 4i}, Weights: []float32{2, 1, 1, 1}}
	got, ok := impl.BlendCurves(heavy(), other, 0.3)
	wantCurve(t, got, ok, hexCurve("3e99999a/00000000,3fa66666/3fb33333,40400000/bf333333,40333333/3ff33334", "3fa66666,3fd9999a,3f266666,4019999a"), "BlendCurves")
	got, ok = impl.BlendCurves(heavy(), other, 0)
	wantCurve(t, got, ok, heavy(), "BlendCurves by nothing")
	got, ok = impl.BlendCurves(heavy(), other, negZero)
	wantCurve(t, got, ok, heavy(), "BlendCurves by -0")
	got, ok = impl.BlendCurves(heavy(), other, 1)
	wantCurve(t, got, ok, other, "BlendCurves to the other")
	got, ok = impl.BlendCurves(plain(0, 2), plain(4i, 4), 0.5)
	wantCurve(t, got, ok, plain(2i, 3), "BlendCurves of lines")
	for _, share := range notTimes() {
		got, ok := impl.BlendCurves(heavy(), other, share)
		wantNoCurve(t, got, ok, "BlendCurves", share)
	}
	for _, c := range notCurves() {
		got, ok := impl.BlendCurves(c, plain(0, 1, 2), 0.5)
		wantNoCurve(t, got, ok, "BlendCurves", c)
	}
	got, ok = impl.BlendCurves(plain(0, 1), plain(0, 1, 2), 0.5)
	wantNoCurve(t, got, ok, "BlendCurves of different degrees")
	got, ok = impl.BlendCurves(plain(0, 1, 2), plain(0, 1), 0.5)
	wantNoCurve(t, got, ok, "BlendCurves of different degrees")
	got, ok = impl.BlendCurves(plain(0, farPoint), plain(0, -farPoint), 0)
	wantNoCurve(t, got, ok, "BlendCurves far away")
	// 2 to the power of 30 less a number that is too small to matter leaves no weight.
	loud := impl.Curve{Points: []complex64{0, 1}, Weights: []float32{0x1p30, 1}}
	got, ok = impl.BlendCurves(loud, impl.Curve{Points: []complex64{0, 1}, Weights: []float32{1e-9, 1}}, 1)
	wantNoCurve(t, got, ok, "BlendCurves without weight")
}

// Promise 3: points of curves.
func TestPointsOn(t *testing.T) {
	got, ok := impl.PointsOn(arch(), 3)
	wantTrue(t, ok && samePoints(got, []complex64{0, 1 + 0.5i, 2}), "PointsOn", got)
	got, ok = impl.PointsOn(plain(1, 2i), 2)
	wantTrue(t, ok && samePoints(got, []complex64{1, 2i}), "PointsOn", got)
	got, ok = impl.PointsOn(heavy(), 4)
	wantTrue(t, ok && samePoints(got, hexPoints("00000000/00000000,3f979438/3fa1af2a,403b88ed/3f7a0be4,40800000/3f800000")), "PointsOn", got)
	got, ok = impl.PointsOn(heavy(), impl.MaxCorners)
	wantTrue(t, ok && len(got) == 24, "PointsOn", len(got))
	for _, count := range []int64{1, 25, 0, -1, 1 << 40, -1 << 63, 1<<63 - 1} {
		got, ok := impl.PointsOn(arch(), count)
		wantNoList(t, got, ok, "PointsOn", count)
	}
	far := impl.Curve{Points: []complex64{0, farPoint}, Weights: []float32{2, 2}}
	got, ok = impl.PointsOn(far, 2)
	wantNoList(t, got, ok, "PointsOn far away")
}
