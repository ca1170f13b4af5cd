package tests

import (
	"slices"
	"testing"

	"loop.example/g01328/impl"
)

// hexPieces reads the points of pieces with the weights 1.
func hexPieces(list ...string) []impl.Curve {
	var pieces []impl.Curve
	for _, points := range list {
		pieces = append(pieces, plain(hexPoints(points)...))
	}
	return pieces
}

// tightPieces are pieces by the number that tells how tight they are.
type tightPieces struct {
	points []complex64
	tight  float32
	want   []impl.Curve
}

// Promise 6: loose pieces, to the last bit.
func TestLoosePieces(t *testing.T) {
	for _, c := range []tightPieces{
		{hook(), 0, []impl.Curve{plain(0, 0, 2, 2), plain(2, 2, 2+2i, 2+2i)}},
		{hook(), negZero, []impl.Curve{plain(0, 0, 2, 2), plain(2, 2, 2+2i, 2+2i)}},
		{hook(), 0.3, hexPieces("00000000/00000000,3dcccccd/00000000,3ff33333/bdcccccd,40000000/00000000", "40000000/00000000,40066666/3dcccccd,40000000/3ff33333,40000000/40000000")},
		{hook(), 1, hexPieces("00000000/00000000,3eaaaaab/00000000,3fd55555/beaaaaab,40000000/00000000", "40000000/00000000,40155555/3eaaaaab,40000000/3fd55555,40000000/40000000")},
		{hook(), 2, hexPieces("00000000/00000000,3f2aaaab/00000000,3faaaaaa/bf2aaaab,40000000/00000000", "40000000/00000000,402aaaab/3f2aaaab,40000000/3faaaaaa,40000000/40000000")},
		{[]complex64{0, 3}, 1, []impl.Curve{plain(0, 0.5, 2.5, 3)}},
		{[]complex64{1i, 3}, 0.75, hexPieces("00000000/3f800000,3ec00000/3f600000,40280000/3e000000,40400000/00000000")},
		{[]complex64{0, farPoint}, 2, hexPieces("00000000/00000000,7eaaaaaa/00000000,7f2aaaaa/00000000,7f7fffff/00000000")},
		{line(4), 1.5, []impl.Curve{plain(0, 0.25, 0.5, 1), plain(1, 1.5, 1.5, 2), plain(2, 2.5, 2.75, 3)}},
	} {
		got, ok := impl.LoosePieces(c.points, c.tight)
		wantPieces(t, got, ok, c.want, "LoosePieces", c.points, c.tight)
	}
	for _, tight := range []float32{-leastNumber, -1, above(2), 3, mostNumber, infinity, -infinity, notNum} {
		got, ok := impl.LoosePieces(hook(), tight)
		wantNoList(t, got, ok, "LoosePieces", tight)
	}
	for _, tight := range []float32{0, 1} {
		got, ok := impl.LoosePieces([]complex64{-farPoint, farPoint}, tight)
		wantNoList(t, got, ok, "LoosePieces, too far", tight)
	}
	got, ok := impl.LoosePieces([]complex64{0, complex(0, mostNumber), 1}, 2)
	wantTrue(t, ok && len(got) == 2, "LoosePieces, far", got)
}

// Promise 6: natural pieces, to the last bit.
func TestNaturalPieces(t *testing.T) {
	for _, c := range []struct {
		points []complex64
		want   []impl.Curve
	}{
		{[]complex64{0, 3}, []impl.Curve{plain(0, 1, 2, 3)}},
		{[]complex64{1i, 3 - 1i}, hexPieces("00000000/3f800000,3f800000/3eaaaaaa,40000000/beaaaaaa,40400000/bf800000")},
		{hook(), hexPieces("00000000/00000000,3f555555/be2aaaab,3fd55555/beaaaaab,40000000/00000000", "40000000/00000000,40155555/3eaaaaab,400aaaab/3f955556,40000000/40000000")},
		{bend(), hexPieces("00000000/00000000,3f9b6db7/be5b6db8,401b6db7/bedb6db8,40400000/00000000", "40400000/00000000,4070c30c/3f124925,40586186/40124926,40400000/40800000")},
		{[]complex64{0, farPoint}, hexPieces("00000000/00000000,7eaaaaaa/00000000,7f2aaaaa/00000000,7f7fffff/00000000")},
	} {
		got, ok := impl.NaturalPieces(c.points)
		wantPieces(t, got, ok, c.want, "NaturalPieces", c.points)
	}
	// The first leg is too short beside the second one: the parameters do not grow.
	for _, points := range [][]complex64{{0, complex(leastNumber, 0), 1e20}, {-farPoint, farPoint}, {0, farPoint, 0}} {
		got, ok := impl.NaturalPieces(points)
		wantNoList(t, got, ok, "NaturalPieces", points)
	}
}

// wantThrough is for pieces each of which leads from one point of a path to the next one.
func wantThrough(t *testing.T, pieces []impl.Curve, points []complex64, what string) {
	t.Helper()
	wantEqual(t, len(pieces), len(points)-1, what, points)
	for i, piece := range pieces {
		wantTrue(t, impl.ValidCurve(piece) && len(piece.Points) == 4, what, piece)
		wantComplex(t, piece.Points[0], points[i], what+", first point", points, i)
		wantComplex(t, piece.Points[3], points[i+1], what+", last point", points, i)
		for k, weight := range piece.Weights {
			wantNumber(t, weight, 1, what+", weight", points, i, k)
		}
	}
}

// Promise 6: pieces go through their paths, and are joined without a corner, nearly.
func TestPiecesGoThroughPaths(t *testing.T) {
	s := newSource()
	for range 200 {
		points, tight := s.points(2+s.below(impl.MaxPath-1)), 2*s.time()
		loose, ok := impl.LoosePieces(points, tight)
		wantTrue(t, ok, "LoosePieces", points, tight)
		wantThrough(t, loose, points, "LoosePieces")
		gap, turn, ok := impl.JoinMiss(loose)
		wantTrue(t, ok && gap == 0 && turn < 1e-5, "JoinMiss of LoosePieces", points, tight, gap, turn)
		natural, ok := impl.NaturalPieces(points)
		wantTrue(t, ok, "NaturalPieces", points)
		wantThrough(t, natural, points, "NaturalPieces")
		gap, _, ok = impl.JoinMiss(natural)
		wantTrue(t, ok && gap == 0, "JoinMiss of NaturalPieces", points, gap)
	}
	longest := sawtooth(impl.MaxPath)
	loose, _ := impl.LoosePieces(longest, 1)
	wantThrough(t, loose, longest, "LoosePieces of the longest path")
	natural, _ := impl.NaturalPieces(longest)
	wantThrough(t, natural, longest, "NaturalPieces of the longest path")
}

// Promise 6: natural pieces are the curves of their parts over the parameters, nearly.
func TestNaturalPiecesAreNatural(t *testing.T) {
	s := newSource()
	for range 100 {
		points := s.points(2 + s.below(12))
		pieces, _ := impl.NaturalPieces(points)
		params, _ := impl.ParamsOf(points, 1)
		var across, along []float32
		for _, point := range points {
			across, along = append(across, real(point)), append(along, imag(point))
		}
		bendsAcross, _ := impl.NaturalBends(params, across)
		bendsAlong, _ := impl.NaturalBends(params, along)
		for i, piece := range pieces {
			share := s.time()
			at := min(params[i]+float32(share*(params[i+1]-params[i])), params[i+1])
			re, okRe := impl.BentAt(params, across, bendsAcross, at)
			im, okIm := impl.BentAt(params, along, bendsAlong, at)
			got, ok := impl.CurveAt(piece, share)
			wantTrue(t, ok && okRe && okIm, "curves", points, i)
			wantNear(t, got, complex(re, im), "NaturalPieces and BentAt", points, i, share)
		}
	}
}

// Promise 6: how far pieces are from being joined.
func TestJoinMiss(t *testing.T) {
	first, second, third := plain(0, 1, 2, 3), plain(3+3i, 4+3i, 5, 6), plain(6, 7+4i, 8, 9)
	corner := plain(3, 3+1i, 3+2i, 3+3i)
	for _, c := range []struct {
		pieces    []impl.Curve
		gap, turn float32
	}{
		{[]impl.Curve{first}, 0, 0}, {[]impl.Curve{second}, 0, 0}, {[]impl.Curve{first, second, third}, 3, 4}, {[]impl.Curve{first, second}, 3, 0},
		{[]impl.Curve{second, third}, 0, 4}, {[]impl.Curve{first, corner}, 0, 0x1.6a09e6p0}, {repeated(plain(0, 3, 3, 0), impl.MaxPath), 0, 6},
		{[]impl.Curve{third, second, first, second}, 0x1.ad5336p2, 0},
	} {
		gap, turn, ok := impl.JoinMiss(c.pieces)
		wantTrue(t, ok, "JoinMiss", c.pieces)
		wantNumber(t, gap, c.gap, "gap of JoinMiss", c.pieces)
		wantNumber(t, turn, c.turn, "turn of JoinMiss", c.pieces)
	}
}

// Promise 6: only 1 to MaxPath cubic curves with the weights 1 are pieces.
func TestJoinMissFails(t *testing.T) {
	good := plain(0, 1, 2, 3)
	heavy := plain(0, 1, 2, 3)
	heavy.Weights[2] = above(1)
	lists := [][]impl.Curve{nil, {}, repeated(good, impl.MaxPath+1), repeated(good, 1000), {plain(0, 0, 0, -farPoint), plain(farPoint, 0, 0, 0)},
		// Ways that are too long: both are no numbers, and so is how they differ.
		{plain(0, 0, -farPoint, farPoint), plain(farPoint, 0, 0, 0)}, {plain(0, 0, -farPoint, farPoint), plain(-farPoint, farPoint, 0, 0)},
	}
	others := append(notCurves(), heavy, impl.Curve{Points: good.Points}, plain(0, 1), plain(0, 1, 2), plain(0, 1, 2, 3, 4), plain(0, 1, 2, 3, 4, 5, 6, 7))
	for _, other := range others {
		lists = append(lists, []impl.Curve{other}, []impl.Curve{other, good}, []impl.Curve{good, other}, []impl.Curve{good, other, good})
	}
	for _, list := range lists {
		gap, turn, ok := impl.JoinMiss(list)
		wantPair(t, gap, ok, 0, false, "gap of JoinMiss", list)
		wantPair(t, turn, ok, 0, false, "turn of JoinMiss", list)
	}
}

// cubicFit is a path with directions, the nearest curve, and by how much it misses.
type cubicFit struct {
	points     []complex64
	start, end complex64
	want       string
	miss       uint32
}

// arc4 and arc5 are paths along an arch.
func arc4() []complex64 { return []complex64{0, 1 + 1i, 2 + 1i, 3} }

func arc5() []complex64 { return []complex64{0, 1 + 2i, 3 + 3i, 5 + 2i, 6} }

// Promise 6: nearest curves, to the last bit.
func TestFitCubic(t *testing.T) {
	long := complex(mostNumber, mostNumber)
	for _, c := range []cubicFit{
		{[]complex64{0, 3}, 1, 1, "00000000/00000000,3f800000/00000000,40000000/00000000,40400000/00000000", 0},
		{[]complex64{0, 3}, 1i, -1i, "00000000/00000000,00000000/3f800000,40400000/3f800000,40400000/00000000", 0},
		{[]complex64{1, 1 + 3i}, 2, 5i, "3f800000/00000000,40000000/00000000,3f800000/40000000,3f800000/40400000", 0},
		{hook(), 2, 2i, "00000000/00000000,402aaaab/00000000,40000000/bf2aaaac,40000000/40000000", 0x33000000},
		// Away from the path, it would be less than 0.
		{hook(), -1, 2i, "00000000/00000000,bf715bef/00000000,40000000/3f875208,40000000/40000000", 0x3fc00000},
		{arc4(), 1 + 1i, 1 - 1i, "00000000/00000000,3faecb60/3faecb60,3fd134a2/3faecb5e,40400000/00000000", 0x3e39226a},
		{arc5(), 1 + 2i, 1 - 2i, "00000000/00000000,3fea229e/406a229e,40857758/406a229e,40c00000/00000000", 0x3ee949f5},
		// On a line, m is 0, though what is divided by it is greater than 0.
		{[]complex64{1, -1.5, -2}, -1, -1, "3f800000/00000000,00000000/00000000,bf800000/00000000,c0000000/00000000", 0x34000000},
		// The direction of what is longer than any number has no parts.
		{arc4(), long, 1 - 1i, "00000000/00000000,00000000/00000000,4012bec3/3f3504f3,40400000/00000000", 0x3f5b5c18},
		{arc4(), farPoint, complex(0, -mostNumber), "00000000/00000000,3d551885/00000000,40400000/402b76ff,40400000/00000000", 0x3ea01353},
		{arc4(), complex(leastNumber, leastNumber), complex(leastNumber, 0), "00000000/00000000,400f6700/400f6700,3f7e5844/00000000,40400000/00000000", 0x3ef63da4},
		{[]complex64{0, farPoint}, 1, 1, "00000000/00000000,7eaaaaaa/00000000,7f2aaaaa/00000000,7f7fffff/00000000", 0},
	} {
		got, miss, ok := impl.FitCubic(c.points, c.start, c.end)
		wantCurve(t, got, ok, plain(hexPoints(c.want)...), "FitCubic", c.points, c.start, c.end)
		wantBits(t, miss, c.miss, "miss of FitCubic", c.points, c.start, c.end)
	}
}

// Promise 6: there is no nearest curve without directions, or too far away.
func TestFitCubicFails(t *testing.T) {
	for _, way := range append(wildPoints(), 0, complex(negZero, 0), complex(0, negZero), complex(negZero, negZero)) {
		got, miss, ok := impl.FitCubic(arc4(), way, 1)
		wantNoCurve(t, got, ok, "FitCubic, start", way)
		wantNumber(t, miss, 0, "miss of FitCubic, start", way)
		got, miss, ok = impl.FitCubic(arc4(), 1, way)
		wantNoCurve(t, got, ok, "FitCubic, end", way)
		wantNumber(t, miss, 0, "miss of FitCubic, end", way)
	}
	for _, points := range [][]complex64{{-farPoint, farPoint}, {-farPoint, 0, farPoint}} {
		got, miss, ok := impl.FitCubic(points, 1, 1)
		wantNoCurve(t, got, ok, "FitCubic, too far", points)
		wantNumber(t, miss, 0, "miss of FitCubic, too far", points)
	}
	got, miss, ok := impl.FitCubic([]complex64{0, farPoint}, 1, -1)
	wantNoCurve(t, got, ok, "FitCubic, too far")
	wantNumber(t, miss, 0, "miss of FitCubic, too far")
}

// missesOf tells how far the points of a path are from a curve at their parameters, and the sum of the squares.
func missesOf(c impl.Curve, points []complex64) (most, sum float64) {
	params, _ := impl.ParamsOf(points, 1)
	for i, point := range points {
		at, _ := impl.CurveAt(c, params[i])
		far := float64(impl.LongOf(at - point))
		most, sum = max(most, far), sum+far*far
	}
	return most, sum
}

// Promise 6: nearest curves have the ends and directions that are told, miss as they tell, and no other such curve misses by less, nearly.
func TestFitCubicIsNearest(t *testing.T) {
	s := newSource()
	nearest := 0
	for range 400 {
		points := s.points(2 + s.below(8))
		start, end := points[1]-points[0], points[len(points)-1]-points[len(points)-2]
		got, miss, ok := impl.FitCubic(points, start, end)
		wantTrue(t, ok && len(got.Points) == 4, "FitCubic", points)
		first, last := got.Points[0], got.Points[3]
		wantComplex(t, first, points[0], "first point of FitCubic", points)
		wantComplex(t, last, points[len(points)-1], "last point of FitCubic", points)
		u, v := got.Points[1]-first, last-got.Points[2]
		wantAbout(t, impl.AngleOf(impl.MulComplex(u, impl.ConjugateOf(start))), 0, 1e-4, "start of FitCubic", points)
		wantAbout(t, impl.AngleOf(impl.MulComplex(v, impl.ConjugateOf(end))), 0, 1e-4, "end of FitCubic", points)
		most, least := missesOf(got, points)
		wantAbout(t, miss, float32(most), 1e-4, "miss of FitCubic", points)
		x, y, third := impl.LongOf(u), impl.LongOf(v), impl.LongOf(last-first)/3
		if x == y || max(x, y) > 8 || max(x-third, third-x) < 1e-4 {
			continue
		}
		nearest++
		for _, by := range [][2]float32{{0.9, 1}, {1.1, 1}, {1, 0.9}, {1, 1.1}, {0.95, 1.05}} {
			other := plain(first, first+impl.ScaleComplex(u, by[0]), last-impl.ScaleComplex(v, by[1]), last)
			_, sum := missesOf(other, points)
			wantTrue(t, least < sum+1e-3, "FitCubic and another curve", points, by, least, sum)
		}
	}
	wantTrue(t, nearest > 50, "curves that are not told by thirds", nearest)
}

// farAway has a nearest curve as a whole, but its former part has none.
func farAway() []complex64 {
	return hexPoints("7effffff/7c23d70a,7f733332/7d4ccccc,7f666666/00000000,7f7851eb/00000000,7effffff/7d4ccccc")
}

func backwards(points []complex64) []complex64 {
	back := slices.Clone(points)
	slices.Reverse(back)
	return back
}

// Promise 6: pieces near to a path, to the last bit.
func TestFitPieces(t *testing.T) {
	wave := []complex64{0, 1 + 1i, 2 - 1i, 3}
	whole := hexPieces("00000000/00000000,402b83d3/402b83d3,3ea3e168/c02b83d3,40400000/00000000")
	cut := hexPieces("00000000/00000000,3eaaaaab/3eaaaaab,3f2aaaaa/3f2aaaaa,3f800000/3f800000", "3f800000/3f800000,400d7e0e/bfb5f836,3fbc89c3/bfc3763d,40400000/00000000")
	const miss = float32(0x1.9d8bcep-2)
	for _, c := range []struct {
		points []complex64
		near   float32
		want   []impl.Curve
	}{
		{wave, 3, whole}, {wave, mostNumber, whole}, {wave, miss, whole}, {wave, below(miss), cut}, {wave, 0.1, cut},
		{[]complex64{0, 3}, 0, []impl.Curve{plain(0, 1, 2, 3)}}, {[]complex64{0, 3}, negZero, []impl.Curve{plain(0, 1, 2, 3)}},
		// Both points between are as far away: it is cut at the first one.
		{[]complex64{3i, 3 + 2i, 3 + 1i, 0}, 0.25, hexPieces("00000000/40400000,3f7fffff/402aaaab,40000000/40155555,40400000/40000000", "40400000/40000000,40400000/bd5d9000,40543d1c/3f8d7e13,00000000/00000000")},
	} {
		got, ok := impl.FitPieces(c.points, c.near)
		wantPieces(t, got, ok, c.want, "FitPieces", c.points, c.near)
	}
	for _, near := range append(wildNumbers(), -leastNumber, -1, -mostNumber) {
		for _, points := range [][]complex64{wave, {0, 3}} {
			got, ok := impl.FitPieces(points, near)
			wantNoList(t, got, ok, "FitPieces", points, near)
		}
	}
	for _, points := range [][]complex64{{-farPoint, farPoint}, {0, 1, farPoint, -farPoint}, farAway(), backwards(farAway())} {
		got, ok := impl.FitPieces(points, 0)
		wantNoList(t, got, ok, "FitPieces, too far", points)
	}
	got, ok := impl.FitPieces(farAway(), mostNumber)
	wantTrue(t, ok && len(got) == 1, "FitPieces, far away", got)
}

// Promise 6: pieces are near to their paths: each point is on a piece between two points of the path, or as near to it as is told.
func TestFitPiecesAreNear(t *testing.T) {
	s := newSource()
	for range 150 {
		points, near := s.points(2+s.below(impl.MaxPath-1)), s.time()/2
		pieces, ok := impl.FitPieces(points, near)
		wantTrue(t, ok && len(pieces) >= 1 && len(pieces) < len(points), "FitPieces", points, near)
		gap, _, ok := impl.JoinMiss(pieces)
		wantTrue(t, ok && gap == 0, "JoinMiss of FitPieces", points, near)
		from := 0
		for i, piece := range pieces {
			to := from + 1
			for to < len(points)-1 && !sameParts(points[to], piece.Points[3]) {
				to++
			}
			part := points[from : to+1]
			last := len(part) - 1
			want, miss, ok := impl.FitCubic(part, part[1]-part[0], part[last]-part[last-1])
			wantCurve(t, piece, ok, want, "piece of FitPieces", points, near, i)
			wantTrue(t, miss <= near || last == 1, "miss of FitPieces", points, near, i, miss)
			from = to
		}
		wantEqual(t, from, len(points)-1, "last piece of FitPieces", points, near)
	}
	for _, c := range []struct {
		points []complex64
		near   float32
		count  int
	}{{line(48), 1e-4, 1}, {line(48), 0, 18}, {sawtooth(48), 0, 29}, {sawtooth(48), 9, 1}} {
		pieces, ok := impl.FitPieces(c.points, c.near)
		wantTrue(t, ok, "FitPieces of the longest path", c.near)
		wantEqual(t, len(pieces), c.count, "FitPieces of the longest path", c.near)
	}
}
