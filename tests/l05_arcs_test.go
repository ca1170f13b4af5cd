package tests

import (
	"math"
	"math/cmplx"
	"testing"

	"loop.example/g01328/impl"
)

// halfTurn is the arc of the chapter's example.
func halfTurn() impl.Arc { return impl.Arc{Round: 1, Turn: 0.5} }

// Promise 6: arcs have a Round greater than 0, and finite numbers.
func TestValidArc(t *testing.T) {
	for _, a := range []impl.Arc{
		halfTurn(), {Round: 1}, {Round: leastNumber, Turn: negZero}, {Middle: complex(mostNumber, -mostNumber), Round: mostNumber, From: -mostNumber, Turn: mostNumber},
	} {
		wantTrue(t, impl.ValidArc(a), "ValidArc", a)
	}
	for _, a := range notArcs() {
		for _, share := range []float32{0, 0.5, 1} {
			wantNothing(t, ofArcs(a, share), "arc", a, share)
		}
	}
}

// arcThrough is an arc with the points through which it goes.
type arcThrough struct {
	a, b, c complex64
	want    impl.Arc
}

// Promise 6, and the chapter's example: arcs, to the last bit.
func TestArcThrough(t *testing.T) {
	const root = 0x1.6a09e6p-1
	for _, c := range []arcThrough{
		{1, 1i, -1, halfTurn()}, {1, -1i, -1, impl.Arc{Round: 1, Turn: -0.5}}, {-1, -1i, 1, impl.Arc{Round: 1, From: 0.5, Turn: 0.5}},
		{0, 1 + 1i, 2, impl.Arc{Middle: 1, Round: 1, From: 0.5, Turn: -0.5}}, {0, 1 - 1i, 2, impl.Arc{Middle: 1, Round: 1, From: 0.5, Turn: 0.5}},
		{2, 1 + 1i, 0, impl.Arc{Middle: 1, Round: 1, Turn: 0.5}}, {1i, 1, -1i, impl.Arc{Round: 1, From: 0.25, Turn: -0.5}}, {1i, -1, -1i, impl.Arc{Round: 1, From: 0.25, Turn: 0.5}},
		{1, -1i, 1i, impl.Arc{Round: 1, Turn: -0.75}}, {1, -1, 1i, impl.Arc{Round: 1, Turn: -0.75}}, {0, 1, 1i, impl.Arc{Middle: 0.5 + 0.5i, Round: root, From: -0.375, Turn: 0.75}},
		{0, 1, 1 + 1i, impl.Arc{Middle: 0.5 + 0.5i, Round: root, From: -0.375, Turn: 0.5}},
		// Twice the area that is looked at for points on a line is 1.
		{0, 1, 0.5i, impl.Arc{Middle: 0.5 + 0.25i, Round: 0x1.1e377ap-1, From: -0x1.b46fecp-2, Turn: 0x1.b46fecp-1}},
		{3 + 4i, 5, -5, impl.Arc{Round: 5, From: 0x1.2e4052p-3, Turn: -0x1.4b9014p-1}},
	} {
		got, ok := impl.ArcThrough(c.a, c.b, c.c)
		wantPair(t, got, ok, c.want, true, "ArcThrough", c.a, c.b, c.c)
	}
}

// Promise 6: arcs whose ends are at the same angle, as far as numbers tell, turn once, to the left or to the right.
func TestArcThroughTurnsOnce(t *testing.T) {
	for _, c := range []struct {
		points string
		turn   float32
	}{
		{"3f68a853/3ef03f39,3f0d0039/3e445891,3f68a854/3ef03f39", 1}, {"39d03680/3f5c6bf2,3e6d7cf6/3e1b42e5,39d03681/3f5c6bf2", 1},
		{"3f2be19f/3d8322ea,3f421b61/3f17524d,3f2be1a0/3d8322ea", -1}, {"39d03680/bf5c6bf2,3e6d7cf6/be1b42e5,39d03681/bf5c6bf2", -1},
	} {
		points := hexPoints(c.points)
		got, ok := impl.ArcThrough(points[0], points[1], points[2])
		wantTrue(t, ok, "ArcThrough", c)
		wantNumber(t, got.Turn, c.turn, "turn of ArcThrough", c)
	}
}

// Promise 6: there is no arc through points on a line, or through those that are the same, not finite, too near, or too far away.
func TestArcThroughFails(t *testing.T) {
	const tiny, far = 1e-22, 1e20
	for _, c := range [][3]complex64{
		{0, 1, 2}, {0, 2, 1}, {1 + 1i, 2 + 2i, -3 - 3i}, {0, 1, 0}, {0, 0, 1}, {1i, 1, 1}, {2, 2, 2}, {0, complex(leastNumber, 0), complex(0, leastNumber)},
		// The middle cannot be told from the points, but there is no arc with the Round 0.
		{0, tiny, tiny * 1i}, {0, far, far * 1i}, {-farPoint, farPoint, 1i}, {0, farPoint, complex(0, mostNumber)},
	} {
		got, ok := impl.ArcThrough(c[0], c[1], c[2])
		wantNoArc(t, got, ok, "ArcThrough", c)
	}
	for _, point := range wildPoints() {
		for i := range 3 {
			c := [3]complex64{1, 1i, -1}
			c[i] = point
			got, ok := impl.ArcThrough(c[0], c[1], c[2])
			wantNoArc(t, got, ok, "ArcThrough", c)
		}
	}
}

// Promise 6: arcs go through their points, nearly, and through the second one between both ends.
func TestArcsGoThroughPoints(t *testing.T) {
	s := newSource()
	for range 1000 {
		a, b, c := s.point(), s.point(), s.point()
		arc, ok := impl.ArcThrough(a, b, c)
		wantTrue(t, ok && impl.ValidArc(arc), "ArcThrough", a, b, c)
		// Of a circle that is much greater than the points are apart, single precision tells less.
		if arc.Round > 20 {
			continue
		}
		by := 1e-3 * float64(1+arc.Round)
		for share, want := range []complex64{a, c} {
			got, ok := impl.ArcAt(arc, float32(share))
			wantTrue(t, ok && cmplx.Abs(complex128(got-want)) < by, "ArcAt an end", a, b, c, share, got)
		}
		turn := impl.AngleOf(b-arc.Middle) - arc.From
		for turn*arc.Turn < 0 || max(turn, -turn) > 1 {
			turn += float32(math.Copysign(1, float64(arc.Turn)))
		}
		got, ok := impl.ArcAt(arc, turn/arc.Turn)
		wantTrue(t, ok && turn/arc.Turn < 1.01 && cmplx.Abs(complex128(got-b)) < by, "ArcAt between", a, b, c, turn/arc.Turn, got)
		wantTrue(t, max(arc.Turn, -arc.Turn) <= 1, "turn of ArcThrough", a, b, c)
	}
}

// onArc is a share of an arc, and where the arc is there.
type onArc struct {
	arc   impl.Arc
	share float32
	want  complex64
}

// Promise 6: points of arcs, before, on and behind them.
func TestArcAt(t *testing.T) {
	standing := impl.Arc{Round: 2}
	back := impl.Arc{Middle: 1 + 2i, Round: 3, From: 0.125, Turn: -0.25}
	for _, c := range []onArc{
		{halfTurn(), 0, 1}, {halfTurn(), negZero, 1}, {halfTurn(), 0.5, 1i}, {halfTurn(), 1, -1}, {halfTurn(), 1.5, -1i}, {halfTurn(), 2, 1}, {halfTurn(), -0.5, -1i},
		// Arcs that turn by nothing are a point.
		{standing, 0, 2}, {standing, 0.5, 2}, {standing, 1, 2}, {standing, -9, 2}, {standing, mostNumber, 2}, {impl.Arc{Round: 2, Turn: negZero}, 7, 2},
		{impl.Arc{Round: 1, From: 0.3}, 0.7, hexPoints("be9e377c/3f737870")[0]}, {back, 0.5, 4 + 2i}, {back, 1.75, hexPoints("be179a80/bf458a18")[0]},
		{impl.Arc{Round: 1, From: -0.25, Turn: 1}, 0.1, hexPoints("3f167918/bf4f1bbd")[0]},
		{impl.Arc{Round: 1, Turn: mostNumber}, 1, 1}, {impl.Arc{Round: 1, From: mostNumber, Turn: -mostNumber}, 1, 1}, {impl.Arc{Middle: farPoint, Round: mostNumber, From: 0.5}, 0, 0},
	} {
		got, ok := impl.ArcAt(c.arc, c.share)
		wantPoint(t, got, ok, c.want, "ArcAt", c.arc, c.share)
	}
	for _, share := range wildNumbers() {
		got, ok := impl.ArcAt(halfTurn(), share)
		wantNoPoint(t, got, ok, "ArcAt", share)
	}
	for _, a := range []impl.Arc{
		{Round: 1, From: mostNumber, Turn: mostNumber}, {Round: 1, Turn: 2, From: mostNumber}, {Middle: farPoint, Round: mostNumber},
	} {
		got, ok := impl.ArcAt(a, mostNumber)
		wantNoPoint(t, got, ok, "ArcAt, too far", a)
	}
}

// Promise 6: how long arcs are.
func TestLongOfArc(t *testing.T) {
	for _, c := range []struct {
		arc  impl.Arc
		want uint32
	}{
		{halfTurn(), 0x40490fdb}, {impl.Arc{Round: 1, Turn: -0.5}, 0x40490fdb}, {impl.Arc{Round: 2, Turn: 1}, 0x41490fdb}, {impl.Arc{Round: 0.5, From: 9, Turn: -3}, 0x4116cbe4},
		{impl.Arc{Middle: 3, Round: 2, From: 7}, 0}, {impl.Arc{Round: 2, Turn: negZero}, 0}, {impl.Arc{Round: leastNumber, Turn: leastNumber}, 0},
	} {
		got, ok := impl.LongOfArc(c.arc)
		wantTrue(t, ok, "LongOfArc", c.arc)
		wantBits(t, got, c.want, "LongOfArc", c.arc)
	}
	// Products go from left to right, so the circle must not be too long either.
	for _, a := range []impl.Arc{{Round: mostNumber}, {Round: mostNumber, Turn: 0.1}, {Round: 1e38, Turn: 1}, {Round: 1, Turn: mostNumber}} {
		got, ok := impl.LongOfArc(a)
		wantPair(t, got, ok, 0, false, "LongOfArc, too long", a)
	}
}

// Promise 6: circles near to points, to the last bit.
func TestRoundFit(t *testing.T) {
	for _, c := range []struct {
		points []complex64
		middle string
		radius uint32
	}{
		{[]complex64{1, 1i, -1, -1i}, "00000000/00000000", 0x3f800000}, {hook(), "3f800000/3f7fffff", 0x3fb504f3}, {[]complex64{0, 1, 2 + 1i}, "3efffffc/3fc00001", 0x3fca62c3},
		{[]complex64{0.5, 0.5i, -0.5, 0.5, -0.5i, -0.5}, "00000000/00000000", 0x3f000000},
		{[]complex64{0, 3, 3 + 4i, 1 + 5i}, "3fa5a920/400d8429", 0x402a17cb}, {[]complex64{0, 1e-6, 1e-6i}, "350637bd/350637bd", 0x353dd003},
	} {
		middle, radius, ok := impl.RoundFit(c.points)
		wantPoint(t, middle, ok, hexPoints(c.middle)[0], "middle of RoundFit", c.points)
		wantBits(t, radius, c.radius, "radius of RoundFit", c.points)
	}
	for _, points := range [][]complex64{
		{0, 1}, {0, 1, 2}, {0, 1, 0}, {0, 1, 0, 1}, {0, 1i, 2i}, {0, 1e-12, 1e-12i}, {0, 1e13, 1e13i}, {0, farPoint, complex(0, mostNumber)}, line(impl.MaxPath),
	} {
		middle, radius, ok := impl.RoundFit(points)
		wantNoPoint(t, middle, ok, "middle of RoundFit", points)
		wantNumber(t, radius, 0, "radius of RoundFit", points)
	}
}

// Promise 6: points of a circle tell which one it is, nearly.
func TestRoundFitOfCircles(t *testing.T) {
	s := newSource()
	for range 200 {
		middle, radius, count := s.point(), 0.25+s.time(), 3+s.below(impl.MaxPath-2)
		points := make([]complex64, count)
		for i := range points {
			points[i] = middle + impl.ScaleComplex(impl.PhasorOf(float64(i)/float64(count)), radius)
		}
		got, far, ok := impl.RoundFit(points)
		wantTrue(t, ok, "RoundFit", points)
		wantNear(t, got, middle, "middle of RoundFit", points)
		wantAbout(t, far, radius, 1e-4, "radius of RoundFit", points)
	}
}

// lineNear is a path with the line near to it.
type lineNear struct {
	points []complex64
	want   string
	far    uint32
}

// Promise 6: lines near to points, to the last bit.
func TestLineFit(t *testing.T) {
	for _, c := range []lineNear{
		{line(3), "3f800000/00000000,3f800000/00000000", 0}, {[]complex64{0, 1i, 2i}, "00000000/3f800000,00000000/3f800000", 0},
		{[]complex64{0, 1 + 1i}, "3f000000/3f000000,3f3504f3/3f3504f3", 0}, {[]complex64{0, 1 - 1i}, "3f000000/bf000000,3f3504f3/bf3504f3", 0}, {[]complex64{0, -1}, "bf000000/00000000,3f800000/00000000", 0},
		{hook(), "3faaaaab/3f2aaaab,3f3504f4/3f3504f3", 0x3f715bef}, {[]complex64{0, 3, 3 + 4i, 1 + 5i}, "3fe00000/40100000,3db4b6ee/3f7f005d", 0x3fc5b698},
		// A square is as near to any line.
		{[]complex64{0, 1i, 1 + 1i, 1}, "3f000000/3f000000,3f800000/00000000", 0x3f000000}, {[]complex64{0, 1e19}, "5e8ac723/00000000,3f800000/00000000", 0},
	} {
		point, way, far, ok := impl.LineFit(c.points)
		wantPoints(t, []complex64{point, way}, ok, hexPoints(c.want), "LineFit", c.points)
		wantBits(t, far, c.far, "distance of LineFit", c.points)
	}
	for _, points := range [][]complex64{{-farPoint, farPoint}, {0, farPoint}, {0, 1e20}, {farPoint, -farPoint, complex(-mostNumber, 1)}} {
		point, way, far, ok := impl.LineFit(points)
		wantNoPoint(t, point, ok, "point of LineFit", points)
		wantNoPoint(t, way, ok, "direction of LineFit", points)
		wantNumber(t, far, 0, "distance of LineFit", points)
	}
}

// squaresBeside is the sum of the squares of the distances of points from a line.
func squaresBeside(points []complex64, at complex64, turns float64) float64 {
	sum := 0.0
	for _, point := range points {
		from := complex128(point - at)
		sum += math.Pow(imag(from*cmplx.Rect(1, -2*math.Pi*turns)), 2)
	}
	return sum
}

// Promise 6: no other line is nearer to the points, nearly, and none of them is farther away than is told.
func TestLineFitIsNearest(t *testing.T) {
	s := newSource()
	for range 300 {
		points := s.points(2 + s.below(impl.MaxPath-1))
		at, way, far, ok := impl.LineFit(points)
		wantTrue(t, ok, "LineFit", points)
		wantAbout(t, impl.LongOf(way), 1, 1e-6, "direction of LineFit", points)
		turns := float64(impl.AngleOf(way))
		most := 0.0
		for _, point := range points {
			from := complex128(point-at) * cmplx.Conj(complex128(way))
			most = max(most, math.Abs(imag(from)))
		}
		wantAbout(t, far, float32(most), 1e-5, "distance of LineFit", points)
		least := squaresBeside(points, at, turns)
		for _, other := range []float64{turns + 0.01, turns - 0.01, turns + 0.25, turns + 0.1} {
			wantTrue(t, least < squaresBeside(points, at, other)+1e-4, "LineFit and another direction", points, other)
		}
		beside := at + impl.ScaleComplex(way, 0.5) + impl.ScaleComplex(complex(-imag(way), real(way)), 0.05)
		wantTrue(t, least < squaresBeside(points, beside, turns)+1e-4, "LineFit and another point", points)
	}
}

// spiral has what makes a spiral, its points and its last turn, by their bits.
type spiral struct {
	start, change, long float32
	steps               int64
	points              string
	turn                uint32
}

// Promise 6: spirals, to the last bit.
func TestSpiralPoints(t *testing.T) {
	for _, c := range []spiral{
		{0, 0, 2, 2, "00000000/00000000,3f800000/00000000,40000000/00000000", 0}, {1, 0, 1, 1, "00000000/00000000,3f60a940/3ef57743", 0x3e22f983},
		{1, 2, 3, 3, "00000000/00000000,3f3b4ff6/3f2e7fe1,bdb601c0/3de17050,bf5ea5b3/3f3c1bfa", 0x3ff47645},
		{-2, 0.5, 1, 2, "00000000/00000000,3ee28d24/be6e6a60,3f0c22ee/bf38c0f8", 0xbe8e9a53},
		{0, 0, mostNumber, 1, "00000000/00000000,7f7fffff/00000000", 0}, {0, 0, leastNumber, 3, "00000000/00000000,00000000/00000000,00000000/00000000,00000000/00000000", 0},
		{mostNumber, 0, 1, 1, "00000000/00000000,3f800000/00000000", 0x7e22f982},
	} {
		points, turn, ok := impl.SpiralPoints(c.start, c.change, c.long, c.steps)
		wantPoints(t, points, ok, hexPoints(c.points), "SpiralPoints", c)
		wantBits(t, turn, c.turn, "turn of SpiralPoints", c)
	}
	for _, c := range []spiral{
		{long: 0, steps: 1}, {long: negZero, steps: 1}, {long: -leastNumber, steps: 1}, {long: -1, steps: 1}, {long: infinity, steps: 1}, {long: -infinity, steps: 1}, {long: notNum, steps: 1},
		{long: 1, steps: 0}, {long: 1, steps: 257}, {long: 1, steps: -1}, {long: 1, steps: 1<<32 + 1}, {long: 1, steps: math.MaxInt64}, {long: 1, steps: math.MinInt64},
		{start: infinity, long: 1, steps: 1}, {start: notNum, long: 1, steps: 1}, {change: -infinity, long: 1, steps: 1}, {change: notNum, long: 1, steps: 1},
		{start: mostNumber, long: 2, steps: 1}, {change: mostNumber, long: 4, steps: 1}, {start: mostNumber, change: -mostNumber, long: 8, steps: 256},
	} {
		points, turn, ok := impl.SpiralPoints(c.start, c.change, c.long, c.steps)
		wantNoList(t, points, ok, "SpiralPoints", c)
		wantNumber(t, turn, 0, "turn of SpiralPoints", c)
	}
}

// Promise 6: a spiral that always bends alike is a circle, nearly, and each step of a spiral is as long as the others.
func TestSpirals(t *testing.T) {
	const round = 2 * math.Pi
	points, turn, ok := impl.SpiralPoints(0.5, 0, 2*round, impl.MaxSteps)
	wantTrue(t, ok && len(points) == 257, "SpiralPoints", len(points))
	wantAbout(t, turn, 1, 1e-6, "turn of SpiralPoints")
	for i, point := range points {
		wantAbout(t, impl.LongOf(point-2i), 2, 1e-3, "SpiralPoints around a middle", i)
	}
	wantNear(t, points[256], 0, "last point of SpiralPoints")
	s := newSource()
	for range 100 {
		start, change, long, steps := place(s.word()), place(s.word()), s.time()+0.125, int64(1+s.below(impl.MaxSteps))
		points, turn, ok := impl.SpiralPoints(start, change, long, steps)
		wantTrue(t, ok && len(points) == int(steps)+1, "SpiralPoints", start, change, long, steps)
		wantComplex(t, points[0], 0, "first point of SpiralPoints", start, change, long, steps)
		wantAbout(t, turn, float32((float64(start)*float64(long)+float64(change)*float64(long)*float64(long)/2)/round), 1e-5, "turn of SpiralPoints", start, change, long)
		for i := range steps {
			wantAbout(t, impl.LongOf(points[i+1]-points[i]), long/float32(steps), 1e-5, "step of SpiralPoints", start, change, long, steps, i)
		}
	}
}
