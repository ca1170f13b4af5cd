package tests

import (
	"testing"

	"loop.example/g01328/impl"
)

// Promise 4: corners of boxes around the points of curves.
func TestFrameBox(t *testing.T) {
	for _, c := range []struct {
		curve     impl.Curve
		low, high complex64
	}{
		{plain(1, 3i, -2), -2, 1 + 3i}, {plain(2, 2), 2, 2}, {bowl(), 0, 2 + 2i}, {heavy(), -1i, 4 + 2i},
		{plain(-1-5i, 4+7i), -1 - 5i, 4 + 7i}, {plain(4+7i, -1-5i), -1 - 5i, 4 + 7i}, {plain(-1+7i, 4-5i), -1 - 5i, 4 + 7i},
		{tooWide(), -farPoint, farPoint}, {tooFar(), farPoint, farPoint},
		// Of two zeros, the first one.
		{plain(complex(0, negZero), complex(negZero, 0)), complex(0, negZero), complex(0, negZero)},
		{plain(complex(negZero, 0), complex(0, negZero)), complex(negZero, 0), complex(negZero, 0)},
	} {
		low, high, ok := impl.FrameBox(c.curve)
		wantPoint(t, low, ok, c.low, "least parts of FrameBox", c.curve)
		wantPoint(t, high, ok, c.high, "greatest parts of FrameBox", c.curve)
	}
	for _, c := range notCurves() {
		low, high, ok := impl.FrameBox(c)
		wantNoPoint(t, low, ok, "FrameBox", c)
		wantNoPoint(t, high, ok, "FrameBox", c)
	}
}

// Promise 4: curves are in their boxes, nearly.
func TestCurvesAreInBoxes(t *testing.T) {
	s := newSource()
	for range 300 {
		c, time := s.curve(1, 7), s.time()
		low, high, ok := impl.FrameBox(c)
		at, _ := impl.CurveAt(c, time)
		wantTrue(t, ok && real(at) > real(low)-1e-5 && real(at) < real(high)+1e-5, "across", c, time)
		wantTrue(t, imag(at) > imag(low)-1e-5 && imag(at) < imag(high)+1e-5, "along", c, time)
	}
}

// Promise 4: directions, to the last bit.
func TestWayAt(t *testing.T) {
	line, weighted, quarter := someCurves()
	for _, c := range []atTime{
		{plain(0, 2), 0.5, 1}, {plain(2, 0), 0.5, -1}, {plain(0, 3i), 0, 1i}, {line, 1, hexPoints("3f64f92e/bee4f92e")[0]},
		{weighted, 0.5, 1}, {arch(), 0, hexPoints("3f3504f3/3f3504f3")[0]}, {arch(), 0.5, 1}, {arch(), negZero, hexPoints("3f3504f3/3f3504f3")[0]},
		{heavy(), 0.3, hexPoints("3f7c500d/3e2d2c39")[0]}, {quarter, 1, hexPoints("bf800000/33800001")[0]},
		{plain(0, complex(leastNumber, 0)), 0.5, 1}, {plain(0, farPoint), 0.5, 1},
	} {
		got, ok := impl.WayAt(c.curve, c.time)
		wantPoint(t, got, ok, c.want, "WayAt", c.curve, c.time)
	}
}

// Promise 4: places beside curves, on the left for numbers greater than 0.
func TestBesideAt(t *testing.T) {
	for _, c := range []struct {
		curve    impl.Curve
		time, by float32
		want     complex64
	}{
		{plain(0, 2), 0.5, 1, 1 + 1i}, {plain(0, 2), 0.5, -2, 1 - 2i}, {plain(0, 2), 0, 0, 0}, {plain(0, 2i), 0.5, 3, -3 + 1i},
		{arch(), 0.5, 2, 1 + 2.5i}, {arch(), 0, 2, hexPoints("bfb504f3/3fb504f3")[0]}, {heavy(), 0.3, -1.5, hexPoints("3fa89aa9/be69f7b0")[0]},
		{plain(0, 2), 0.5, mostNumber, complex(1, mostNumber)},
		// The opposite of a part that is +0 is -0, and both zeros of a sum stay only if both are -0.
		{plain(complex(negZero, 5), complex(2, 5)), 0, 0, complex(0, 5)},
	} {
		got, ok := impl.BesideAt(c.curve, c.time, c.by)
		wantPoint(t, got, ok, c.want, "BesideAt", c.curve, c.time, c.by)
	}
	for _, by := range wildNumbers() {
		got, ok := impl.BesideAt(plain(0, 2), 0.5, by)
		wantNoPoint(t, got, ok, "BesideAt", by)
	}
	far := plain(complex(0, mostNumber), complex(1, mostNumber))
	got, ok := impl.BesideAt(far, 0, mostNumber)
	wantNoPoint(t, got, ok, "BesideAt far away")
}

// Promise 4: no directions at other times, of curves that are not valid, and of curves that stand still.
func TestDirectionsFail(t *testing.T) {
	for _, time := range notTimes() {
		wantNothing(t, ofDirections(bowl(), time), "directions at", time)
		wantNothing(t, ofBends(bowl(), time, 0), "bends at", time)
		wantNothing(t, ofBends(wave(), time, 0), "bends at", time)
	}
	for _, c := range append(notCurves(), standing()) {
		wantNothing(t, ofDirections(c, 0.5), "directions of", c)
	}
	// Both start slowly, and the one goes back.
	wantNothing(t, ofDirections(plain(1, 1, 2i), 0), "directions")
	wantNothing(t, ofDirections(thereAndBack(), 0.5), "directions")
	wantNothing(t, ofDirections(plain(-farPoint, farPoint), 0.5), "steep directions")
	at, ok := impl.BesideAt(tooFar(), 0, 0)
	wantNoPoint(t, at, ok, "BesideAt a point that there is not")
}

// bendAt is how much a curve bends at a time, by its bits.
type bendAt struct {
	curve impl.Curve
	time  float32
	want  uint32
}

// Promise 4: bends, to the last bit.
func TestBendOf(t *testing.T) {
	for _, c := range []bendAt{
		{bowl(), 0.5, 0xc0000000}, {bowl(), 0, 0xbe372dbf}, {bowl(), negZero, 0xbe372dbf}, {bowl(), 1, 0xbe372dbf}, {plain(2, 1+2i, 0), 0.5, 0x40000000},
		{wave(), 0, 0xbeb72dbf}, {wave(), 0.25, 0xbfe9bf4d}, {wave(), 0.5, 0}, {wave(), 1, 0x3eb72dbf},
		{plain(0, 1, 2), 0.5, 0}, {plain(0, 0.5, 1), 0.5, 0}, {plain(0, 1, 2, 3, 4, 5, 6, 7), 0.25, 0},
	} {
		got, ok := impl.BendOf(c.curve, c.time)
		wantTrue(t, ok, "BendOf", c.curve, c.time)
		wantBits(t, got, c.want, "BendOf", c.curve, c.time)
	}
}

// notBent are curves of which no bends are told.
func notBent() []impl.Curve {
	line, weighted, quarter := someCurves()
	list := append(notCurves(), line, weighted, quarter, heavy())
	for i := range 3 {
		c := bowl()
		c.Weights[i] = above(1)
		list = append(list, c)
	}
	return list
}

// Promise 4: bends are those of plain curves of a degree of at least 2 that do not stand still.
func TestBendsFail(t *testing.T) {
	for _, c := range notBent() {
		wantNothing(t, ofBends(c, 0.5, 3), "bends of", c)
	}
	for _, c := range []impl.Curve{
		standing(), thereAndBack(), plain(0, 1e30, 1e30+1e30i), plain(0, 1e-30, 1e-30+1e-30i), plain(0, farPoint, 0), plain(farPoint, -farPoint, 0, 1i),
	} {
		got, ok := impl.BendOf(c, 0.5)
		wantPair(t, got, ok, 0, false, "BendOf", c)
	}
	// The slopes of this curve are numbers, but not those of its slopes.
	steep := plain(0, 0x1p125, -0x1p125, 0x1p125)
	got, ok := impl.BendOf(steep, 0.25)
	wantPair(t, got, ok, 0, false, "BendOf of a steep curve")
	edges, ok := impl.EdgesOfCurve(steep, 3)
	wantTrue(t, ok && len(edges) == 2, "EdgesOfCurve of a steep curve", edges)
}

// Promise 4: bends of arcs are the quotient of 1 and their radius, nearly.
func TestBendsOfArcs(t *testing.T) {
	for _, radius := range []float32{0.5, 1, 4} {
		// Cubic curves with this number are quarters of circles, nearly.
		side := complex(radius*0.5522848, 0)
		begin, end := complex(radius, 0), complex(0, radius)
		left := plain(begin, begin+side*1i, end+side, end)
		for _, time := range []float32{0, 0.3, 0.5, 0.8, 1} {
			got, ok := impl.BendOf(left, time)
			wantTrue(t, ok, "BendOf", radius, time)
			wantAbout(t, got*radius, 1, 0.03, "BendOf", radius, time)
			back, _ := impl.BackCurve(left)
			got, _ = impl.BendOf(back, time)
			wantAbout(t, got*radius, -1, 0.03, "BendOf to the right", radius, time)
		}
	}
}

// changes are times at which something changes its sign.
type changes struct {
	curve  impl.Curve
	pieces int64
	want   string
}

// manyBends bends from one side to the other again and again.
func manyBends() impl.Curve { return plain(0, 1+20i, 2-60i, 3+100i, 4-100i, 5+60i, 6-20i, 7) }

// mirror has the same curve on the other side.
func mirror(c impl.Curve) impl.Curve {
	for i, point := range c.Points {
		c.Points[i] = complex(real(point), -imag(point))
	}
	return c
}

func wantChanges(t *testing.T, got []float32, ok bool, c changes, what string) {
	t.Helper()
	var want []float32
	if c.want != "" {
		want = hexNumbers(c.want)
	}
	wantNumbers(t, got, ok, want, what, c.curve, c.pieces)
}

// Promise 4: times of flexes, to the last bit.
func TestFlexesOf(t *testing.T) {
	for _, c := range []changes{
		{bowl(), 64, ""}, {plain(0, 1, 2), 5, ""}, {wave(), 1, "3f000000"}, {wave(), 3, "3f000000"},
		{mirror(wave()), 1, "3effffe0"}, {mirror(wave()), 3, "3efffff6"},
		// A time of pieces at which the curve does not bend at all parts no two sides.
		{wave(), 2, ""}, {wave(), 4, ""}, {mirror(wave()), 2, ""},
		{manyBends(), 1, "3f63c550"}, {manyBends(), 2, ""}, {manyBends(), 4, "3de1d540,3f63c554"},
		{manyBends(), 8, "3de1d540,3e971608,3f3474fa,3f63c556"}, {manyBends(), 64, "3de1d542,3e971608,3f3474fb,3f63c557"},
	} {
		got, ok := impl.FlexesOf(c.curve, c.pieces)
		wantChanges(t, got, ok, c, "FlexesOf")
	}
	// Curves that stand still at a time of pieces, and half way between two of them.
	for _, c := range []impl.Curve{standing(), plain(1, 1, 2, 3i), plain(3i, 2, 1, 1)} {
		got, ok := impl.FlexesOf(c, 3)
		wantNoList(t, got, ok, "FlexesOf", c)
		energy, ok := impl.BentEnergy(plain(c.Points[0], c.Points[0], c.Points[0]), 3)
		wantPair(t, energy, ok, 0, false, "BentEnergy", c)
	}
	cusp := plain(0, 1+1i, 1i, 1)
	got, ok := impl.FlexesOf(cusp, 2)
	wantNoList(t, got, ok, "FlexesOf of a cusp")
	// This curve goes along a bow and the same way back: it bends to both sides, and stands still half way between the times of 1 and of 3 pieces.
	back := plain(3+1i, -1i, -1+1i, -1i, 3+1i)
	for _, pieces := range []int64{1, 3} {
		got, ok := impl.FlexesOf(back, pieces)
		wantNoList(t, got, ok, "FlexesOf of a curve that goes back", pieces)
	}
	energy, ok := impl.BentEnergy(cusp, 1)
	wantPair(t, energy, ok, 0, false, "BentEnergy of a cusp")
}

// Promise 4: times of edges, to the last bit, those of the real parts first.
func TestEdgesOfCurve(t *testing.T) {
	loop := plain(0, 3+1i, -1+2i, 2-3i)
	for _, c := range []changes{
		{bowl(), 1, "3effffe0"}, {bowl(), 3, "3efffff6"}, {bowl(), 2, ""}, {mirror(bowl()), 1, "3f000000"}, {standing(), 4, ""},
		{thereAndBack(), 1, "3effffe0"}, {plain(0, -2, 0), 1, "3f000000"}, {plain(0, 1, 2), 8, ""},
		{loop, 1, "3ed105e0"}, {loop, 2, "3e9f3db0,3f306120,3ed105e0"}, {loop, 16, "3e9f3db6,3f306124,3ed105ea"},
		{manyBends(), 8, "3d58b9e0,3e6096d8,3ec79034,3f1c37e4,3f47da48,3f727460"},
	} {
		got, ok := impl.EdgesOfCurve(c.curve, c.pieces)
		wantChanges(t, got, ok, c, "EdgesOfCurve")
	}
	steep := plain(0, farPoint, 0)
	got, ok := impl.EdgesOfCurve(steep, 3)
	wantNoList(t, got, ok, "EdgesOfCurve of a steep curve")
}

// Promise 4: curves turn back at their edges, and go straight on at their flexes, nearly.
func TestEdgesAndFlexes(t *testing.T) {
	s := newSource()
	for range 200 {
		c := plain(s.curve(2, 7).Points...)
		slopes, _ := impl.SlopeCurve(c)
		edges, ok := impl.EdgesOfCurve(c, 32)
		wantTrue(t, ok, "EdgesOfCurve", c)
		for _, edge := range edges {
			slope, _ := impl.CurveAt(slopes, edge)
			wantTrue(t, min(real(slope)*real(slope), imag(slope)*imag(slope)) < 1e-6, "slope at an edge", c, edge, slope)
		}
		flexes, ok := impl.FlexesOf(c, 32)
		wantTrue(t, ok, "FlexesOf", c)
		for _, flex := range flexes {
			before, _ := impl.BendOf(c, max(flex-1e-4, 0))
			behind, _ := impl.BendOf(c, min(flex+1e-4, 1))
			wantTrue(t, before > 0 != (behind > 0), "bends around a flex", c, flex, before, behind)
		}
	}
}

// Promise 4: energies, to the last bit.
func TestBentEnergy(t *testing.T) {
	for _, c := range []inPieces{
		{plain(0, 1, 2), 2, 0}, {bowl(), 1, 0x41000000}, {bowl(), 2, 0x3fb504f4}, {bowl(), 64, 0x4027ea52}, {wave(), 64, 0x40b7a9b7},
	} {
		got, ok := impl.BentEnergy(c.curve, c.pieces)
		wantTrue(t, ok, "BentEnergy", c.curve, c.pieces)
		wantBits(t, got, c.want, "BentEnergy", c.curve, c.pieces)
	}
	sharp, ok := impl.BentEnergy(plain(0, 1e-20, 1e-20+1e-20i), 1)
	wantPair(t, sharp, ok, 0, false, "BentEnergy of a small curve")
}

// Promise 4: areas, to the last bit.
func TestAreaUnder(t *testing.T) {
	_, _, quarter := someCurves()
	for _, c := range []inPieces{
		{plain(0, 2), 4, 0}, {plain(1, 1i), 1, 0x3f000000}, {plain(1, 1i), 2, 0x3f000000}, {plain(1i, 1), 2, 0xbf000000}, {standing(), 3, 0},
		{arch(), 1, 0}, {arch(), 2, 0xbf000000}, {arch(), 64, 0xbf2aa000}, {quarter, 64, 0x3f490aa5}, {heavy(), 5, 0xbff601f7},
	} {
		got, ok := impl.AreaUnder(c.curve, c.pieces)
		wantTrue(t, ok, "AreaUnder", c.curve, c.pieces)
		wantBits(t, got, c.want, "AreaUnder", c.curve, c.pieces)
	}
	got, ok := impl.AreaUnder(plain(1e30, 1e30i), 1)
	wantPair(t, got, ok, 0, false, "AreaUnder of a great curve")
}

// Promise 4: greatest distances, to the last bit.
func TestFarBetween(t *testing.T) {
	for _, c := range []struct {
		a, b   impl.Curve
		pieces int64
		want   uint32
	}{
		{plain(0, 2), plain(3i, 2+3i), 2, 0x40400000}, {bowl(), bowl(), 5, 0}, {bowl(), arch(), 1, 0}, {bowl(), arch(), 2, 0x3f000000},
		{bowl(), arch(), 3, 0x3ee38e38}, {arch(), heavy(), 4, 0x400f1bbd}, {heavy(), arch(), 4, 0x400f1bbd},
		{plain(0, 2), plain(5i, 2), 3, 0x40a00000}, {plain(0, farPoint), plain(0, 0), 1, bitsOf(mostNumber)},
	} {
		got, ok := impl.FarBetween(c.a, c.b, c.pieces)
		wantTrue(t, ok, "FarBetween", c.a, c.b, c.pieces)
		wantBits(t, got, c.want, "FarBetween", c.a, c.b, c.pieces)
	}
	got, ok := impl.FarBetween(plain(0, farPoint), plain(0, -farPoint), 1)
	wantPair(t, got, ok, 0, false, "FarBetween of curves too far away")
}
