package tests

import (
	"testing"

	"loop.example/g01328/impl"
)

// Promise 3: both parts of a curve, to the last bit.
func TestCutCurve(t *testing.T) {
	quarter, _ := impl.QuarterCurve(0, 1)
	for _, c := range []struct {
		curve          impl.Curve
		time           float32
		former, latter impl.Curve
	}{
		{arch(), 0.5, plain(0, 0.5+0.5i, 1+0.5i), plain(1+0.5i, 1.5+0.5i, 2)},
		{arch(), 0, plain(0, 0, 0), arch()}, {arch(), negZero, plain(0, 0, 0), arch()}, {arch(), 1, arch(), plain(2, 2, 2)},
		{plain(1, 5-2i), 0.25, plain(1, 2-0.5i), plain(2-0.5i, 5-2i)},
		{plain(1, 5-2i), 0, plain(1, 1), plain(1, 5-2i)}, {plain(1, 5-2i), 1, plain(1, 5-2i), plain(5-2i, 5-2i)},
		{quarter, 0.3,
			hexCurve("3f800000/00000000,3f800000/3e6e261c,3f65ba69/3ee1edcd", "3f800000,3f69817c,3f608214"),
			hexCurve("3f65ba69/3ee1edcd,3f1f64a5/3f7fffff,00000000/3f800000", "3f608214,3f4b8377,3f800000")},
		{heavy(), 0.7,
			hexCurve("00000000/00000000,3f52d2d2/3fd2d2d2,3fab9310/3f9c52cb,40476d4e/3f721308", "3f800000,3fd9999a,3f966667,3fd3c6a8"),
			hexCurve("40476d4e/3f721308,4066318b/3f5ef7be,407bbbbb/3f5ddddd,40800000/3f800000", "3fd3c6a8,3fee147a,40100000,40400000")},
	} {
		former, latter, ok := impl.CutCurve(c.curve, c.time)
		wantCurve(t, former, ok, c.former, "CutCurve, former part", c.curve, c.time)
		wantCurve(t, latter, ok, c.latter, "CutCurve, latter part", c.curve, c.time)
	}
}

func wantNoParts(t *testing.T, c impl.Curve, time float32) {
	t.Helper()
	former, latter, ok := impl.CutCurve(c, time)
	wantNoCurve(t, former, ok, "CutCurve, former part", c, time)
	wantNoCurve(t, latter, ok, "CutCurve, latter part", c, time)
}

// Promise 3: there are no parts at other times, or where a number is not finite, or a weight not greater than 0.
func TestCutCurveFails(t *testing.T) {
	for _, time := range notTimes() {
		wantNoParts(t, arch(), time)
		wantNoParts(t, plain(1, 2), time)
	}
	wantNoParts(t, impl.Curve{Points: []complex64{farPoint, 0}, Weights: []float32{2, 2}}, 0)
	wantNoParts(t, impl.Curve{Points: []complex64{1, 1}, Weights: []float32{leastNumber, leastNumber}}, 0.5)
}

// Promise 3: curves that are cut are the same, nearly.
func TestCutCurvesAreTheSame(t *testing.T) {
	s := newSource()
	for range 1000 {
		c, time, share := s.curve(1, 7), s.time(), s.time()
		former, latter, ok := impl.CutCurve(c, time)
		wantTrue(t, ok && len(former.Points) == len(c.Points) && len(latter.Points) == len(c.Points), "CutCurve", c, time)
		middle, _ := impl.CurveAt(c, time)
		last := len(c.Points) - 1
		wantComplex(t, former.Points[last], middle, "end of the former part")
		wantComplex(t, latter.Points[0], middle, "begin of the latter part")
		wantNear(t, former.Points[0], c.Points[0], "begin of the former part")
		wantNear(t, latter.Points[last], c.Points[last], "end of the latter part")
		at, _ := impl.CurveAt(former, share)
		want, _ := impl.CurveAt(c, time*share)
		wantNear(t, at, want, "former part", c, time, share)
		at, _ = impl.CurveAt(latter, share)
		want, _ = impl.CurveAt(c, min(time+(1-time)*share, 1))
		wantNear(t, at, want, "latter part", c, time, share)
	}
}

// Promise 3: parts between two times, to the last bit.
func TestPartOfCurve(t *testing.T) {
	for _, c := range []struct {
		curve    impl.Curve
		from, to float32
		want     impl.Curve
	}{
		{arch(), 0.5, 1, plain(1+0.5i, 1.5+0.5i, 2)}, {arch(), 0, 0.5, plain(0, 0.5+0.5i, 1+0.5i)},
		{arch(), negZero, 0.5, plain(0, 0.5+0.5i, 1+0.5i)}, {arch(), 0, 1, arch()},
		{plain(0, 8-4i), 0.25, 0.5, plain(2-1i, 4-2i)}, {plain(0, 8-4i), 0.75, 1, plain(6-3i, 8-4i)},
		{heavy(), 0.2, 0.9, hexCurve("3f3edd29/3f8f25df,3fae0f59/3fc7c295,403913f9/3f25384c,40783706/3f6b6b9e", "3fad0e57,3fc45a1e,3f90624e,40174395")},
	} {
		got, ok := impl.PartOfCurve(c.curve, c.from, c.to)
		wantCurve(t, got, ok, c.want, "PartOfCurve", c.curve, c.from, c.to)
	}
	got, ok := impl.PartOfCurve(arch(), 0.99999994, 1)
	wantTrue(t, ok && impl.ValidCurve(got), "PartOfCurve at the end")
	got, ok = impl.PartOfCurve(plain(1, 2), 0, leastNumber)
	wantTrue(t, ok && impl.ValidCurve(got), "PartOfCurve at the begin")
	for _, times := range [][2]float32{{0.5, 0.5}, {0.75, 0.5}, {1, 0}, {0, 0}, {negZero, 0}, {0, negZero}, {1, 1}} {
		got, ok := impl.PartOfCurve(arch(), times[0], times[1])
		wantNoCurve(t, got, ok, "PartOfCurve", times)
	}
	for _, time := range notTimes() {
		got, ok := impl.PartOfCurve(arch(), time, 1)
		wantNoCurve(t, got, ok, "PartOfCurve from", time)
		got, ok = impl.PartOfCurve(arch(), 0, time)
		wantNoCurve(t, got, ok, "PartOfCurve to", time)
	}
}

// Promise 3: a part is the same, nearly.
func TestPartsAreTheSame(t *testing.T) {
	s := newSource()
	for range 500 {
		c, from, to, share := s.curve(1, 7), s.time(), s.time(), s.time()
		if from >= to {
			from, to = 0, 1
		}
		part, ok := impl.PartOfCurve(c, from, to)
		wantTrue(t, ok, "PartOfCurve", c, from, to)
		at, _ := impl.CurveAt(part, share)
		want, _ := impl.CurveAt(c, min(from+(to-from)*share, 1))
		wantNear(t, at, want, "PartOfCurve", c, from, to, share)
	}
}

// Promise 3: a curve of a higher degree, to the last bit.
func TestRaiseCurve(t *testing.T) {
	got, ok := impl.RaiseCurve(heavy())
	wantCurve(t, got, ok, hexCurve("00000000/00000000,3f5b6db8/3fdb6db8,3fb33333/3fb33333,406aaaab/3eaaaaab,40800000/3f800000", "3f800000,3fe00000,3fa00000,3f900000,40400000"), "RaiseCurve")
	got, ok = impl.RaiseCurve(plain(1, 5-2i))
	wantCurve(t, got, ok, plain(1, 3-1i, 5-2i), "RaiseCurve of a line")
	got, ok = impl.RaiseCurve(impl.Curve{Points: []complex64{complex(negZero, 1), 8}, Weights: []float32{3, 1}})
	wantCurve(t, got, ok, impl.Curve{Points: []complex64{complex(negZero, 1), 2 + 0.75i, 8}, Weights: []float32{3, 2, 1}}, "RaiseCurve of a heavy line")
	got, ok = impl.RaiseCurve(plain(make([]complex64, 7)...))
	wantCurve(t, got, ok, plain(make([]complex64, 8)...), "RaiseCurve of the degree 6")
	got, ok = impl.RaiseCurve(plain(make([]complex64, 8)...))
	wantNoCurve(t, got, ok, "RaiseCurve of the degree 7")
	got, ok = impl.RaiseCurve(impl.Curve{Points: []complex64{farPoint, farPoint}, Weights: []float32{2, 2}})
	wantNoCurve(t, got, ok, "RaiseCurve far away")
	got, ok = impl.RaiseCurve(impl.Curve{Points: []complex64{1, 2}, Weights: []float32{leastNumber, leastNumber}})
	wantNoCurve(t, got, ok, "RaiseCurve with little weight")
}

// Promise 3: raised curves are the same, nearly, again and again.
func TestRaisedCurvesAreTheSame(t *testing.T) {
	s := newSource()
	for range 500 {
		c := s.curve(1, 6)
		raised := c
		for len(raised.Points) <= impl.MaxDegree {
			more, ok := impl.RaiseCurve(raised)
			wantTrue(t, ok && len(more.Points) == len(raised.Points)+1, "RaiseCurve", raised)
			raised = more
			time := s.time()
			at, _ := impl.CurveAt(raised, time)
			want, _ := impl.CurveAt(c, time)
			wantNear(t, at, want, "RaiseCurve", c, time)
			wantComplex(t, raised.Points[len(raised.Points)-1], c.Points[len(c.Points)-1], "last point")
		}
	}
}
