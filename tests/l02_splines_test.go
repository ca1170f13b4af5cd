package tests

import (
	"math"
	"testing"

	"loop.example/g01328/impl"
)

func sevenPoints() []complex64 { return []complex64{0, 1 + 2i, 2 - 1i, 3 + 0.5i, 4 + 4i, 5, 6 + 1i} }

// twice has the degree 2 and a knot that is there as often as it can.
func twice() impl.Spline {
	return impl.Spline{Degree: 2, Knots: []float32{0, 0, 0, 0.3, 0.3, 1, 2.5, 3, 3, 3}, Points: sevenPoints()}
}

// cubic has the degree 3 and a knot that is there twice.
func cubic() impl.Spline {
	return impl.Spline{Degree: 3, Knots: []float32{-1, -1, -1, -1, 0.1, 0.5, 0.5, 2, 2, 2, 2}, Points: sevenPoints()}
}

// chain has the degree 1.
func chain() impl.Spline {
	return impl.Spline{Degree: 1, Knots: []float32{0, 0, 1, 3, 4, 4}, Points: []complex64{0, 1i, 4 + 1i, 4}}
}

// whole has a single span of the greatest degree.
func whole() impl.Spline {
	return impl.Spline{Degree: 5, Knots: []float32{2, 2, 2, 2, 2, 2, 4, 4, 4, 4, 4, 4}, Points: sevenPoints()[:6]}
}

func withKnots(s impl.Spline, knots ...float32) impl.Spline {
	return impl.Spline{Degree: s.Degree, Knots: knots, Points: s.Points}
}

// notSplines are splines that are not valid.
func notSplines() []impl.Spline {
	s := twice()
	points, knots := s.Points, s.Knots
	list := []impl.Spline{
		{}, {Degree: 2}, {Degree: 2, Points: points}, {Degree: 2, Knots: knots},
		{Degree: 0, Knots: []float32{0, 1, 2, 3}, Points: points[:3]},
		{Degree: -1, Knots: knots[:7], Points: points},
		{Degree: 6, Knots: append(repeated[float32](0, 7), repeated[float32](1, 7)...), Points: points},
		{Degree: math.MaxInt64, Knots: knots, Points: points}, {Degree: math.MinInt64, Knots: knots, Points: points},
		{Degree: 2, Knots: knots[:9], Points: points}, {Degree: 2, Knots: append(knots[:10:10], 3), Points: points},
		{Degree: 2, Knots: []float32{0, 0, 0, 1, 1}, Points: points[:2]},
		{Degree: 2, Knots: []float32{0, 0, 0, 0, 1, 1, 1}, Points: points[:4]},
		withKnots(s, 0, 0, 0, 0.3, 0.3, 0.3, 2.5, 3, 3, 3), withKnots(s, 0, 0, 0, 0, 0.3, 1, 2.5, 3, 3, 3),
		withKnots(s, 0, 0, negZero, negZero, 0.3, 1, 2.5, 3, 3, 3), withKnots(s, 0, 0, 0, 0.3, 0.3, 1, 3, 3, 3, 3),
		withKnots(s, 0, 0, 0.1, 0.3, 0.3, 1, 2.5, 3, 3, 3), withKnots(s, -0.1, 0, 0, 0.3, 0.3, 1, 2.5, 3, 3, 3),
		withKnots(s, 0, 0, 0, 0.3, 0.3, 1, 2.5, 2.9, 3, 3), withKnots(s, 0, 0, 0, 0.3, 0.3, 1, 2.5, 3, 3, 3.1),
		withKnots(s, 0, 0, 0, 1, 0.3, 0.3, 2.5, 3, 3, 3), withKnots(s, 0, 0, 0, 0.3, 2.5, 0.3, 2.6, 3, 3, 3),
		withKnots(s, 3, 3, 3, 2.5, 1, 0.3, 0.3, 0, 0, 0), withKnots(s, 1, 1, 1, 1, 1, 1, 1, 1, 1, 1),
		withKnots(s, -1, -1, -1, negZero, 0, 0, 2.5, 3, 3, 3),
		{Degree: 1, Knots: []float32{0, 0, 1, 1, 4, 4}, Points: points[:4]},
		{Degree: 1, Knots: []float32{1, 1, 1, 1}, Points: points[:2]},
	}
	for _, x := range wildNumbers() {
		list = append(list,
			withKnots(s, 0, 0, 0, 0.3, x, 1, 2.5, 3, 3, 3), withKnots(s, x, x, x, 0.3, 0.3, 1, 2.5, 3, 3, 3),
			withKnots(s, 0, 0, 0, 0.3, 0.3, 1, 2.5, x, x, x))
	}
	for _, point := range wildPoints() {
		other := copySpline(s)
		other.Points[6] = point
		list = append(list, other)
	}
	return list
}

// Promise 3: what a valid spline is.
func TestValidSpline(t *testing.T) {
	for _, s := range []impl.Spline{
		twice(), cubic(), chain(), whole(),
		{Degree: 1, Knots: []float32{-1, -1, 1, 1}, Points: []complex64{0, farPoint}},
		withKnots(twice(), negZero, 0, negZero, 0.3, 0.3, 1, 2.5, 3, 3, 3),
		withKnots(twice(), -mostNumber, -mostNumber, -mostNumber, negZero, 0, leastNumber, 1, mostNumber, mostNumber, mostNumber),
		withKnots(twice(), 0, 0, 0, leastNumber, leastNumber, 1, 1, 3, 3, 3),
		withKnots(cubic(), 0, 0, 0, 0, 0.5, 0.5, 0.5, 1, 1, 1, 1),
	} {
		wantTrue(t, impl.ValidSpline(s), "ValidSpline", s)
	}
	for _, s := range notSplines() {
		wantTrue(t, !impl.ValidSpline(s), "not ValidSpline", s)
	}
	wantEqual(t, impl.MaxCorners, 24, "MaxCorners")
	for degree := range 8 {
		for count := range 27 {
			s := impl.Spline{Degree: int64(degree), Points: make([]complex64, count)}
			for i := range count + degree + 1 {
				s.Knots = append(s.Knots, float32(min(max(i, degree), count)))
			}
			isValid := degree >= 1 && degree <= 5 && count >= degree+1 && count <= 24
			wantEqual(t, impl.ValidSpline(s), isValid, "ValidSpline of degree and points", degree, count)
		}
	}
}

// Promise 3: splines are compared number by number, valid or not.
func TestSameSpline(t *testing.T) {
	first := impl.Spline{Degree: -3, Knots: []float32{notNum, 0, -1}, Points: []complex64{0, complex(1, notNum)}}
	wantTrue(t, impl.SameSpline(first, copySpline(first)), "the same numbers")
	wantTrue(t, impl.SameSpline(impl.Spline{}, impl.Spline{Knots: []float32{}, Points: []complex64{}}), "no numbers")
	for i, knot := range []float32{infinity, negZero, 1} {
		other := copySpline(first)
		other.Knots[i] = knot
		wantTrue(t, !impl.SameSpline(first, other), "another knot", i, knot)
	}
	for i, point := range []complex64{complex(0, negZero), complex(2, notNum)} {
		other := copySpline(first)
		other.Points[i] = point
		wantTrue(t, !impl.SameSpline(first, other), "another point", i, point)
	}
	for _, other := range []impl.Spline{
		{Degree: -2, Knots: first.Knots, Points: first.Points}, {Degree: -3, Knots: first.Knots}, {Degree: -3, Points: first.Points},
		{Degree: -3, Knots: first.Knots[:2], Points: first.Points}, {Degree: -3, Knots: first.Knots, Points: first.Points[:1]},
	} {
		wantTrue(t, !impl.SameSpline(first, other) && !impl.SameSpline(other, first), "another spline", other)
	}
}

// Promise 3, and the chapter's example: even splines.
func TestEvenSpline(t *testing.T) {
	for _, c := range []struct {
		degree int64
		count  int
		knots  []float32
	}{
		{2, 4, []float32{0, 0, 0, 1, 2, 2, 2}}, {1, 2, []float32{0, 0, 1, 1}}, {1, 5, []float32{0, 0, 1, 2, 3, 4, 4}},
		{5, 6, []float32{0, 0, 0, 0, 0, 0, 1, 1, 1, 1, 1, 1}}, {3, 6, []float32{0, 0, 0, 0, 1, 2, 3, 3, 3, 3}},
	} {
		points := sevenPoints()[:c.count]
		got, ok := impl.EvenSpline(points, c.degree)
		wantSpline(t, got, ok, impl.Spline{Degree: c.degree, Knots: c.knots, Points: points}, "EvenSpline", c.degree, c.count)
	}
	points := make([]complex64, 26)
	for degree := int64(-1); degree <= 8; degree++ {
		for count := range points {
			got, ok := impl.EvenSpline(points[:count], degree)
			if degree < 1 || degree > 5 || int64(count) <= degree || count > 24 {
				wantNoSpline(t, got, ok, "EvenSpline", degree, count)
			} else {
				wantTrue(t, ok && impl.ValidSpline(got), "EvenSpline", degree, count)
				wantEqual(t, got.Knots[count], float32(int64(count)-degree), "last knots of EvenSpline", degree, count)
			}
		}
	}
	for _, degree := range []int64{math.MaxInt64, math.MinInt64} {
		got, ok := impl.EvenSpline(points[:4], degree)
		wantNoSpline(t, got, ok, "EvenSpline", degree)
	}
	for _, point := range wildPoints() {
		got, ok := impl.EvenSpline([]complex64{1, point}, 1)
		wantNoSpline(t, got, ok, "EvenSpline", point)
	}
}

// Promise 3: the index of a span is that of the last knot that is not behind the time.
func TestSpanAt(t *testing.T) {
	for _, c := range []struct {
		spline impl.Spline
		time   float32
		want   int64
	}{
		{twice(), 0, 2}, {twice(), negZero, 2}, {twice(), 0.29999998, 2}, {twice(), 0.3, 4}, {twice(), 0.99999994, 4}, {twice(), 1, 5},
		{twice(), 2.4999998, 5}, {twice(), 2.5, 6}, {twice(), 2.9, 6}, {twice(), 3, 6},
		{chain(), 0, 1}, {chain(), 0.5, 1}, {chain(), 1, 2}, {chain(), 2, 2}, {chain(), 3, 3}, {chain(), 4, 3},
		{whole(), 2, 5}, {whole(), 3, 5}, {whole(), 4, 5}, {cubic(), 0.5, 6},
		{withKnots(chain(), -1, -1, negZero, 3, 4, 4), 0, 2}, {withKnots(chain(), -1, -1, 0, 3, 4, 4), negZero, 2},
	} {
		got, ok := impl.SpanAt(c.spline, c.time)
		wantPair(t, got, ok, c.want, true, "SpanAt", c.spline, c.time)
	}
}

// Promise 3: points, shares and slopes at times, to the last bit.
func TestSplineAtTimes(t *testing.T) {
	for _, c := range []struct {
		spline       impl.Spline
		time         float32
		point, slope string
		shares       string
	}{
		{twice(), 0, "00000000/00000000", "40d55555/41555555", "3f800000,00000000,00000000,00000000,00000000,00000000,00000000"},
		{twice(), 0.2, "3faaaaaa/3ee38e3d", "40d55555/c10e38e2", "3de38e39,3ee38e38,3ee38e38,00000000,00000000,00000000,00000000"},
		{twice(), 0.3, "40000000/bf800000", "4036db6e/40892492", "00000000,00000000,3f800000,00000000,00000000,00000000,00000000"},
		{twice(), 0.7, "403ae4ee/3f168f6e", "3fdf3a6c/4069ea26", "00000000,00000000,3e3c14e8,3f3661d7,3dd4c77a,00000000,00000000"},
		{twice(), 2.2, "408e7cbe/3ffe0595", "3f7b5870/c024129f", "00000000,00000000,00000000,3cdf6b0a,3efc46c0,3ef5c291,00000000"},
		{twice(), 3, "40c00000/3f800000", "40800000/40800000", "00000000,00000000,00000000,00000000,00000000,00000000,3f800000"},
		{cubic(), -1, "00000000/00000000", "402e8ba3/40ae8ba3", "3f800000,00000000,00000000,00000000,00000000,00000000,00000000"},
		{cubic(), 0.3, "4037047e/3ec3a34c", "3ff286bd/40420563", "00000000,3c11a2b2,3e187653,3f50df3e,3cd79439,00000000,00000000"},
		{cubic(), 0.5, "404d7944/3f9e50d8", "3fca1af3/40b0d795", "00000000,00000000,00000000,3f4a1af3,3e579437,00000000,00000000"},
		{cubic(), 1.7, "40acda9a/3f67e8b8", "3ffdd81e/bf878b95", "00000000,00000000,00000000,3bcef4a8,3dc80ea5,3ec49ba5,3f031270"},
		{cubic(), 2, "40c00000/3f800000", "40000000/40000000", "00000000,00000000,00000000,00000000,00000000,00000000,3f800000"},
	} {
		point, ok := impl.SplineAt(c.spline, c.time)
		wantPoint(t, point, ok, hexPoints(c.point)[0], "SplineAt", c.spline, c.time)
		slope, ok := impl.SplineSlope(c.spline, c.time)
		wantPoint(t, slope, ok, hexPoints(c.slope)[0], "SplineSlope", c.spline, c.time)
		shares, ok := impl.BasisAt(c.spline, c.time)
		wantNumbers(t, shares, ok, hexNumbers(c.shares), "BasisAt", c.spline, c.time)
	}
}

// Promise 3: splines of the degree 1 go from point to point.
func TestChains(t *testing.T) {
	for _, c := range []struct {
		time         float32
		point, slope complex64
		shares       []float32
	}{
		{0, 0, 1i, []float32{1, 0, 0, 0}}, {0.25, 0.25i, 1i, []float32{0.75, 0.25, 0, 0}},
		{1, 1i, 2, []float32{0, 1, 0, 0}}, {1.5, 1 + 1i, 2, []float32{0, 0.75, 0.25, 0}},
		{3, 4 + 1i, -1i, []float32{0, 0, 1, 0}}, {4, 4, -1i, []float32{0, 0, 0, 1}},
	} {
		point, ok := impl.SplineAt(chain(), c.time)
		wantPoint(t, point, ok, c.point, "SplineAt", c.time)
		slope, ok := impl.SplineSlope(chain(), c.time)
		wantTrue(t, ok && slope == c.slope, "SplineSlope", c.time, slope)
		shares, ok := impl.BasisAt(chain(), c.time)
		wantNumbers(t, shares, ok, c.shares, "BasisAt", c.time)
	}
}

func wantNothingAt(t *testing.T, s impl.Spline, time float32) {
	t.Helper()
	span, ok := impl.SpanAt(s, time)
	wantPair(t, span, ok, 0, false, "SpanAt", s, time)
	point, ok := impl.SplineAt(s, time)
	wantNoPoint(t, point, ok, "SplineAt", s, time)
	shares, ok := impl.BasisAt(s, time)
	wantNoList(t, shares, ok, "BasisAt", s, time)
	slope, ok := impl.SplineSlope(s, time)
	wantNoPoint(t, slope, ok, "SplineSlope", s, time)
	put, ok := impl.PutKnot(s, time)
	wantNoSpline(t, put, ok, "PutKnot", s, time)
}

// Promise 3: there is nothing outside, or of splines that are not valid.
func TestSplinesFail(t *testing.T) {
	for _, time := range []float32{-leastNumber, -1, 3.0000002, 4, mostNumber, -mostNumber, infinity, -infinity, notNum} {
		wantNothingAt(t, twice(), time)
	}
	wantNothingAt(t, chain(), -leastNumber)
	wantNothingAt(t, chain(), 4.0000005)
	for _, s := range notSplines() {
		wantNothingAt(t, s, 0.5)
		pieces, ok := impl.PiecesOf(s)
		wantNoList(t, pieces, ok, "PiecesOf", s)
		moved, ok := impl.MoveCorner(s, 0, 1)
		wantNoSpline(t, moved, ok, "MoveCorner", s)
	}
}

// Promise 3: what is told is finite, or nothing.
func TestSplinesFarAway(t *testing.T) {
	wide := withKnots(chain(), -mostNumber, -mostNumber, 0, 1, mostNumber, mostNumber)
	long := impl.Spline{Degree: 1, Knots: []float32{-mostNumber, -mostNumber, mostNumber, mostNumber}, Points: []complex64{1, 3}}
	point, ok := impl.SplineAt(wide, mostNumber)
	wantPoint(t, point, ok, 4, "SplineAt the end")
	// The way from one end to the other is too long for a number.
	point, ok = impl.SplineAt(long, mostNumber)
	wantNoPoint(t, point, ok, "SplineAt the end of a long way")
	point, ok = impl.SplineAt(long, 0)
	wantPoint(t, point, ok, 1, "SplineAt the middle of a long way")
	shares, ok := impl.BasisAt(long, -mostNumber)
	wantNoList(t, shares, ok, "BasisAt the begin of a long way")
	shares, ok = impl.BasisAt(long, 0)
	wantNumbers(t, shares, ok, []float32{0, 0}, "BasisAt the middle of a long way")
	slope, ok := impl.SplineSlope(long, 0)
	wantPoint(t, slope, ok, 0, "SplineSlope of a long way")
	steep := impl.Spline{Degree: 1, Knots: []float32{0, 0, leastNumber, leastNumber}, Points: []complex64{0, 1}}
	slope, ok = impl.SplineSlope(steep, 0)
	wantNoPoint(t, slope, ok, "SplineSlope of a short way")
	point, ok = impl.SplineAt(steep, leastNumber)
	wantPoint(t, point, ok, 1, "SplineAt the end of a short way")
}

// Promise 3: a spline is the sum of its points' shares, nearly, and its slope tells where it goes.
func TestSharesMakeSplines(t *testing.T) {
	s := newSource()
	for range 500 {
		spline := s.spline(impl.MaxCorners)
		time := s.timeOf(spline)
		wantTrue(t, impl.ValidSpline(spline), "ValidSpline", spline)
		shares, ok := impl.BasisAt(spline, time)
		wantTrue(t, ok && len(shares) == len(spline.Points), "BasisAt", spline, time)
		var sum complex64
		for i, share := range shares {
			sum += impl.ScaleComplex(spline.Points[i], share)
		}
		at, ok := impl.SplineAt(spline, time)
		wantTrue(t, ok, "SplineAt", spline, time)
		wantNear(t, sum, at, "BasisAt", spline, time)
	}
}
