package tests

import (
	"math"
	"slices"
	"testing"

	"loop.example/g01328/impl"
)

// Promise 3: a knot more, to the last bit.
func TestPutKnot(t *testing.T) {
	for _, c := range []struct {
		spline        impl.Spline
		time          float32
		knots, points string
	}{
		{twice(), 0.7, "00000000,00000000,00000000,3e99999a,3e99999a,3f333333,3f800000,40200000,40400000,40400000,40400000",
			"00000000/00000000,3f800000/40000000,40000000/bf800000,40249249/be124928,404ba2e9/3f91745d,40800000/40800000,40a00000/00000000,40c00000/3f800000"},
		{cubic(), 0.3, "bf800000,bf800000,bf800000,bf800000,3dcccccd,3e99999a,3f000000,3f000000,40000000,40000000,40000000,40000000",
			"00000000/00000000,3f800000/40000000,3feeeeee/bf199997,40377778/3e999997,4046bca2/3f5e50d8,40800000/40800000,40a00000/00000000,40c00000/3f800000"},
		{cubic(), 0.5, "bf800000,bf800000,bf800000,bf800000,3dcccccd,3f000000,3f000000,3f000000,40000000,40000000,40000000,40000000",
			"00000000/00000000,3f800000/40000000,40000000/bf800000,40400000/3f000000,404d7944/3f9e50d8,40800000/40800000,40a00000/00000000,40c00000/3f800000"},
	} {
		got, ok := impl.PutKnot(c.spline, c.time)
		want := impl.Spline{Degree: c.spline.Degree, Knots: hexNumbers(c.knots), Points: hexPoints(c.points)}
		wantSpline(t, got, ok, want, "PutKnot", c.spline, c.time)
	}
	got, ok := impl.PutKnot(chain(), 1.5)
	want := impl.Spline{Degree: 1, Knots: []float32{0, 0, 1, 1.5, 3, 4, 4}, Points: []complex64{0, 1i, 1 + 1i, 4 + 1i, 4}}
	wantSpline(t, got, ok, want, "PutKnot in a chain")
	got, ok = impl.PutKnot(withKnots(twice(), -1, -1, -1, 0, 0.3, 1, 2.5, 3, 3, 3), negZero)
	wantTrue(t, ok && sameBits(got.Knots[3], 0) && sameBits(got.Knots[4], negZero), "PutKnot at -0", got)
}

// Promise 3: a knot is there at most as often as the degree, and the ends get no more.
func TestPutKnotFails(t *testing.T) {
	for _, s := range []impl.Spline{twice(), cubic(), chain(), whole()} {
		for _, time := range []float32{s.Knots[0], s.Knots[len(s.Knots)-1], infinity, -infinity, notNum} {
			got, ok := impl.PutKnot(s, time)
			wantNoSpline(t, got, ok, "PutKnot", s, time)
		}
	}
	got, ok := impl.PutKnot(twice(), negZero)
	wantNoSpline(t, got, ok, "PutKnot at -0")
	got, ok = impl.PutKnot(twice(), 0.3)
	wantNoSpline(t, got, ok, "PutKnot for the third time")
	got, ok = impl.PutKnot(chain(), 3)
	wantNoSpline(t, got, ok, "PutKnot in a chain for the second time")
	for degree := int64(1); degree <= 5; degree++ {
		s, _ := impl.EvenSpline(make([]complex64, 8), degree)
		for times := int64(1); times < degree; times++ {
			s, ok = impl.PutKnot(s, 2)
			wantTrue(t, ok, "PutKnot of degree and times", degree, times)
		}
		more, ok := impl.PutKnot(s, 2)
		wantNoSpline(t, more, ok, "PutKnot once more", degree)
	}
	far := impl.Spline{Degree: 2, Knots: []float32{0, 0, 0, 1, 1, 1}, Points: []complex64{0, complex(0, mostNumber), 0}}
	got, ok = impl.PutKnot(far, 0.5)
	wantTrue(t, ok, "PutKnot far away", got)
	wide := impl.Spline{Degree: 1, Knots: []float32{-mostNumber, -mostNumber, mostNumber, mostNumber}, Points: []complex64{1, 3}}
	got, ok = impl.PutKnot(wide, 2e38)
	wantNoSpline(t, got, ok, "PutKnot on a long way")
}

// Promise 3: a spline has at most 24 points.
func TestPutKnotReachesTheLimit(t *testing.T) {
	for _, degree := range []int64{1, 3, 5} {
		s, ok := impl.EvenSpline(make([]complex64, 23), degree)
		wantTrue(t, ok, "EvenSpline", degree)
		s, ok = impl.PutKnot(s, 2.5)
		wantTrue(t, ok && len(s.Points) == impl.MaxCorners, "PutKnot to the limit", degree)
		more, ok := impl.PutKnot(s, 3.5)
		wantNoSpline(t, more, ok, "PutKnot beyond the limit", degree)
	}
}

// Promise 3: splines that get more knots are the same, nearly.
func TestSplinesWithMoreKnotsAreTheSame(t *testing.T) {
	s := newSource()
	puts := 0
	for range 500 {
		first := s.spline(impl.MaxCorners - 4)
		more := first
		for len(more.Points) < impl.MaxCorners {
			time := s.timeOf(first)
			put, ok := impl.PutKnot(more, time)
			if ok {
				puts++
				more = put
			}
			if !ok && s.below(8) == 0 {
				break
			}
			for _, time := range []float32{time, s.timeOf(first)} {
				at, _ := impl.SplineAt(more, time)
				want, _ := impl.SplineAt(first, time)
				wantNear(t, at, want, "PutKnot", first, more.Knots, time)
			}
		}
		wantTrue(t, impl.ValidSpline(more) && slices.IsSorted(more.Knots), "PutKnot", more)
	}
	wantTrue(t, puts > 2000, "PutKnot, times", puts)
}

// Promise 3: the curves of a spline, to the last bit.
func TestPiecesOf(t *testing.T) {
	pieces, ok := impl.PiecesOf(cubic())
	wantEqual(t, len(pieces), 3, "PiecesOf")
	for i, points := range []string{
		"00000000/00000000,3f800000/40000000,3fddddde/be4cccd0,401dddde/3ca3d710",
		"401dddde/3ca3d710,402eeeef/3dccccd0,40400000/3f000000,404d7944/3f9e50d8",
		"404d7944/3f9e50d8,40800000/40800000,40a00000/00000000,40c00000/3f800000",
	} {
		wantCurve(t, pieces[i], ok, plain(hexPoints(points)...), "PiecesOf", i)
	}
	pieces, ok = impl.PiecesOf(chain())
	wantEqual(t, len(pieces), 3, "PiecesOf a chain")
	for i, piece := range pieces {
		wantCurve(t, piece, ok, plain(chain().Points[i:i+2]...), "PiecesOf a chain", i)
	}
	pieces, ok = impl.PiecesOf(whole())
	wantEqual(t, len(pieces), 1, "PiecesOf a single span")
	wantCurve(t, pieces[0], ok, plain(whole().Points...), "PiecesOf a single span")
	full := impl.Spline{Degree: 3, Knots: []float32{0, 0, 0, 0, 1, 1, 1, 2, 2, 2, 2}, Points: sevenPoints()}
	pieces, ok = impl.PiecesOf(full)
	wantEqual(t, len(pieces), 2, "PiecesOf with full knots")
	wantCurve(t, pieces[0], ok, plain(full.Points[:4]...), "PiecesOf with full knots")
	wantCurve(t, pieces[1], ok, plain(full.Points[3:]...), "PiecesOf with full knots")
	// Both zeros are the same knot.
	zeros := withKnots(cubic(), -1, -1, -1, -1, negZero, 0, 0.5, 2, 2, 2, 2)
	pieces, ok = impl.PiecesOf(zeros)
	wantTrue(t, ok && len(pieces) == 3, "PiecesOf with both zeros", len(pieces))
}

// Promise 3: PutKnot is not done beyond the limit of points.
func TestPiecesOfReachesTheLimit(t *testing.T) {
	for _, c := range []struct {
		degree int64
		count  int
		pieces int
	}{
		{1, 24, 23}, {2, 13, 11}, {2, 14, 0}, {3, 9, 6}, {3, 10, 7}, {3, 11, 0}, {4, 8, 4}, {4, 9, 5}, {4, 10, 0}, {5, 8, 3}, {5, 9, 4}, {5, 10, 0},
	} {
		s, _ := impl.EvenSpline(make([]complex64, c.count), c.degree)
		pieces, ok := impl.PiecesOf(s)
		wantEqual(t, len(pieces), c.pieces, "PiecesOf", c.degree, c.count)
		wantEqual(t, ok, c.pieces > 0, "PiecesOf", c.degree, c.count)
	}
}

// Promise 3: the curves of a spline are the spline, nearly, one behind the other.
func TestPiecesAreTheSame(t *testing.T) {
	s := newSource()
	done := 0
	for range 2000 {
		spline := s.spline(12)
		pieces, ok := impl.PiecesOf(spline)
		if !ok {
			continue
		}
		done++
		spans := slices.Compact(slices.Clone(spline.Knots))
		wantEqual(t, len(pieces), len(spans)-1, "PiecesOf", spline)
		for i, piece := range pieces {
			wantTrue(t, impl.ValidCurve(piece) && len(piece.Points) == int(spline.Degree)+1, "PiecesOf", spline, i)
			wantNumbers(t, piece.Weights, ok, repeated[float32](1, len(piece.Points)), "weights of PiecesOf", spline, i)
			if i > 0 {
				wantComplex(t, piece.Points[0], pieces[i-1].Points[spline.Degree], "PiecesOf", spline, i)
			}
			share := s.time()
			at, _ := impl.CurveAt(piece, share)
			want, _ := impl.SplineAt(spline, min(spans[i]+(spans[i+1]-spans[i])*share, spans[i+1]))
			wantNear(t, at, want, "PiecesOf", spline, i, share)
		}
	}
	wantTrue(t, done > 500, "PiecesOf, times", done)
}

// Promise 3: a spline with another point.
func TestMoveCorner(t *testing.T) {
	for i := range int64(7) {
		want := cubic()
		want.Points[i] = complex(negZero, mostNumber)
		got, ok := impl.MoveCorner(cubic(), i, complex(negZero, mostNumber))
		wantSpline(t, got, ok, want, "MoveCorner", i)
	}
	for _, i := range []int64{-1, 7, 8, math.MaxInt64, math.MinInt64, 1 << 32} {
		got, ok := impl.MoveCorner(cubic(), i, 1)
		wantNoSpline(t, got, ok, "MoveCorner", i)
	}
	for _, to := range wildPoints() {
		got, ok := impl.MoveCorner(cubic(), 0, to)
		wantNoSpline(t, got, ok, "MoveCorner", to)
	}
}
