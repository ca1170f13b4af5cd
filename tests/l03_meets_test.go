package tests

import (
	"testing"

	"loop.example/g01328/impl"
)

// lineCase is when a curve is on the line through a and b.
type lineCase struct {
	curve impl.Curve
	a, b  complex64
	near  float32
	want  []float32
}

// Promise 4, and the chapter's example: meets with lines.
func TestLineMeets(t *testing.T) {
	for _, c := range []lineCase{
		{bowl(), 0.5i, 1 + 0.5i, leastNear, []float32{0.145996094, 0.854003906}}, {bowl(), 0.5i, 1 + 0.5i, 0.0078125, []float32{0.14453125, 0.85546875}},
		{bowl(), 1 + 0.5i, 0.5i, 0.01, []float32{0.14453125, 0.85546875}}, {bowl(), 0.5i, 1 + 0.5i, 0.25, []float32{0.125, 0.875}},
		{bowl(), 0.5i, 1 + 0.5i, 0.5, []float32{0.25}}, {bowl(), 0.5i, 1 + 0.5i, 1, []float32{0.5}},
		{bowl(), 0.5i, 1 + 0.5i, mostNumber, []float32{0.5}}, {bowl(), 0.5i, 1 + 0.5i, below(1), []float32{0.25}},
		// The line touches the curve, and is just above it.
		{bowl(), 1i, 1 + 1i, leastNear, []float32{0.499511719}}, {bowl(), complex(0, above(1)), complex(1, above(1)), leastNear, nil},
		{bowl(), 0, 1, leastNear, []float32{0.00048828125, 0.999511719}}, {bowl(), complex(0, -leastNumber), complex(1, -leastNumber), leastNear, nil},
		// A curve that is on the line all the time has a meet as often as they differ by more than twice near.
		{plain(0, 2), 0, 1, 0.25, []float32{0.125, 0.875}}, {plain(0, 2), 0, 1, 0.2, []float32{0.0625, 0.5625}},
		{plain(0, 2), 0, 1, 0.125, []float32{0.0625, 0.4375, 0.8125}}, {standing(), 3i, 1 + 3i, 0.25, []float32{0.125, 0.875}},
		{standing(), 0, 1, leastNear, nil}, {standing(), 0, complex(negZero, leastNumber), 0.25, []float32{0.125, 0.875}},
		{plain(0, 2), 0.5, 0.5 + 1i, leastNear, []float32{0.249511719}}, {plain(0, 2), 0.5 + 1i, 0.5, leastNear, []float32{0.249511719}},
		{manyBends(), 0.1i, 1 + 0.1i, leastNear, []float32{0.00048828125, 0.167480469, 0.284667969, 0.492675781, 0.732910156, 0.820800781}},
		{tooLight(), 1i, 1 + 1i, 0.5, nil}, {tooLight(), 0, 1i, 1, []float32{0.5}},
	} {
		got, ok := impl.LineMeets(c.curve, c.a, c.b, c.near)
		wantNumbers(t, got, ok, c.want, "LineMeets", c.curve, c.a, c.b, c.near)
	}
}

// Promise 4: no meets with points, with what is not finite, or nearer than is told.
func TestLineMeetsFails(t *testing.T) {
	for _, near := range notNear() {
		wantNothing(t, ofMeets(bowl(), near), "meets nearer than", near)
	}
	for _, c := range notCurves() {
		wantNothing(t, ofMeets(c, 0.25), "meets of", c)
		wantNothing(t, ofMeets(c, 1), "meets of", c)
		apart := plain(-5, -6)
		var o outcome
		o.addMeets(impl.MeetsOf(c, apart, 1))
		o.addMeets(impl.MeetsOf(apart, c, 1))
		wantNothing(t, o, "meets with a curve far away", c)
	}
	for _, ends := range [][2]complex64{{1, 1}, {0, 0}, {0, complex(negZero, negZero)}, {farPoint, -farPoint}, {-farPoint, farPoint}} {
		got, ok := impl.LineMeets(bowl(), ends[0], ends[1], 0.25)
		wantNoList(t, got, ok, "LineMeets", ends)
	}
	for _, end := range wildPoints() {
		got, ok := impl.LineMeets(bowl(), end, 1, 0.25)
		wantNoList(t, got, ok, "LineMeets from", end)
		got, ok = impl.LineMeets(bowl(), 1, end, 0.25)
		wantNoList(t, got, ok, "LineMeets to", end)
	}
	// One side is not a number, whatever the others are.
	for _, c := range []impl.Curve{plain(1i, 2i, 1e30i), plain(-1i, 1e30i, 0), plain(complex(0, 1e30), 1i, 1i)} {
		got, ok := impl.LineMeets(c, 0, 1e30, 0.25)
		wantNoList(t, got, ok, "LineMeets of", c)
	}
	got, ok := impl.LineMeets(tooLight(), 0, 1i, 0.5)
	wantNoList(t, got, ok, "LineMeets of a curve that cannot be cut")
}

// Promise 4: the line is so short that its sides are 0 as long as the curve is at most 2 to the power of -10 away.
func TestManyLineMeets(t *testing.T) {
	for _, c := range []struct {
		slow  float32
		count int
	}{{685, 23}, {715, 24}, {725, 0}, {755, 0}} {
		curve := plain(0, complex(0, 1.25/c.slow))
		got, ok := impl.LineMeets(curve, 0, 0x1p-140, 0.0078125)
		if c.count == 0 {
			wantNoList(t, got, ok, "LineMeets", c.slow)
			continue
		}
		wantTrue(t, ok && len(got) == c.count, "LineMeets", c.slow, got)
		for i, meet := range got {
			wantNumber(t, meet, (float32(3*i)+0.5)/128, "LineMeets", c.slow, i)
		}
	}
	for _, near := range []float32{leastNear, 0.0078125, 0.01} {
		got, ok := impl.LineMeets(plain(0, 2), 0, 1, near)
		wantNoList(t, got, ok, "LineMeets", near)
	}
}

// Promise 4: curves are on lines when they meet, nearly.
func TestLineMeetsAreOnLines(t *testing.T) {
	s := newSource()
	count := 0
	for range 500 {
		c, a, b := plain(s.curve(1, 7).Points...), s.point(), s.point()
		meets, ok := impl.LineMeets(c, a, b, leastNear)
		wantTrue(t, ok, "LineMeets", c, a, b)
		for _, meet := range meets {
			at, _ := impl.CurveAt(c, meet)
			way := b - a
			far := imag(impl.MulComplex(impl.ConjugateOf(way), at-a)) / impl.LongOf(way)
			wantAbout(t, far, 0, 0.02, "distance from the line", c, a, b, meet)
		}
		count += len(meets)
		// Where the ends are on different sides, there is a meet in between.
		sides := [2]float32{}
		for i, end := range []complex64{c.Points[0], c.Points[len(c.Points)-1]} {
			sides[i] = imag(impl.MulComplex(impl.ConjugateOf(b-a), end-a))
		}
		wantTrue(t, len(meets) > 0 || sides[0]*sides[1] >= 0, "a meet between both sides", c, a, b)
	}
	wantTrue(t, count > 200, "number of meets", count)
}

// pairCase is where two curves meet.
type pairCase struct {
	a, b impl.Curve
	near float32
	want []impl.Meet
}

// Promise 4: meets of curves.
func TestMeetsOf(t *testing.T) {
	line, up := plain(0, 2), plain(1-1i, 1+2i)
	for _, c := range []pairCase{
		{line, up, leastNear, []impl.Meet{{S: 0.499511719, T: 0.333496094}}}, {up, line, leastNear, []impl.Meet{{S: 0.333496094, T: 0.499511719}}},
		{line, up, 0.0078125, []impl.Meet{{S: 0.49609375, T: 0.33203125}}}, {line, up, 0.01, []impl.Meet{{S: 0.49609375, T: 0.33203125}}},
		{line, up, 0.25, []impl.Meet{{S: 0.375, T: 0.375}}}, {line, up, 0.5, []impl.Meet{{S: 0.25, T: 0.25}}},
		{line, up, below(1), []impl.Meet{{S: 0.25, T: 0.25}}}, {line, up, 1, []impl.Meet{{S: 0.5, T: 0.5}}}, {line, up, mostNumber, []impl.Meet{{S: 0.5, T: 0.5}}},
		{bowl(), plain(1i, 2+0.5i), leastNear, []impl.Meet{{S: 0.304199219, T: 0.305175781}, {S: 0.819824219, T: 0.818847656}}},
		{bowl(), arch(), leastNear, []impl.Meet{{S: 0.00048828125, T: 0.00048828125}, {S: 0.998535156, T: 0.997558594}}},
		{bowl(), arch(), 0.25, []impl.Meet{{S: 0.125, T: 0.125}}},
		// Boxes that touch at a point, and those that just do not, on each side.
		{line, plain(2, 3+1i), leastNear, []impl.Meet{{S: 0.999511719, T: 0.00048828125}}}, {line, plain(2, 3+1i), 1, []impl.Meet{{S: 0.5, T: 0.5}}},
		{line, plain(complex(above(2), 0), 3), leastNear, nil}, {plain(complex(above(2), 0), 3), line, 1, nil},
		{line, plain(-1-1i, 0), 1, []impl.Meet{{S: 0.5, T: 0.5}}}, {line, plain(-1, complex(-leastNumber, 0)), 1, nil},
		{line, plain(0, 2i), 1, []impl.Meet{{S: 0.5, T: 0.5}}}, {line, plain(complex(0, leastNumber), 2i), 1, nil}, {plain(complex(0, leastNumber), 2i), line, 1, nil},
		{line, plain(0, -2i), 1, []impl.Meet{{S: 0.5, T: 0.5}}}, {line, plain(complex(1, -leastNumber), 1-2i), 1, nil},
		{tooLight(), plain(1i, 2i), leastNear, nil}, {tooLight(), tooLight(), 1, []impl.Meet{{S: 0.5, T: 0.5}}},
		{tooFar(), plain(farPoint, 0), 1, []impl.Meet{{S: 0.5, T: 0.5}}},
	} {
		got, ok := impl.MeetsOf(c.a, c.b, c.near)
		wantMeets(t, got, ok, c.want, "MeetsOf", c.a, c.b, c.near)
	}
	for _, c := range []pairCase{{tooLight(), tooLight(), 0.5, nil}, {plain(0, 2), tooLight(), 0.25, nil}, {tooLight(), plain(0, 2), 0.5, nil}} {
		got, ok := impl.MeetsOf(c.a, c.b, c.near)
		wantNoList(t, got, ok, "MeetsOf", c.a, c.b, c.near)
	}
}

// Promise 4: curves that stand still at one place meet as often as both times, or one, differ by more than 4 times near.
func TestMeetsThatStandStill(t *testing.T) {
	for _, c := range []struct {
		near   float32
		places []float32
	}{
		{0.0625, []float32{0.03125, 0.34375, 0.65625, 0.96875}}, {0.125, []float32{0.0625, 0.6875}}, {0.25, []float32{0.125}},
	} {
		got, ok := impl.MeetsOf(standing(), plain(3i, 3i), c.near)
		wantTrue(t, ok && len(got) == len(c.places)*len(c.places), "MeetsOf", c.near, got)
		seen := map[impl.Meet]bool{}
		for _, meet := range got {
			seen[meet] = true
		}
		for _, s := range c.places {
			for _, other := range c.places {
				wantTrue(t, seen[impl.Meet{S: s, T: other}], "MeetsOf", c.near, s, other)
			}
		}
	}
	first, _ := impl.MeetsOf(standing(), standing(), 0.125)
	wantMeets(t, first, true, []impl.Meet{{S: 0.0625, T: 0.0625}, {S: 0.0625, T: 0.6875}, {S: 0.6875, T: 0.0625}, {S: 0.6875, T: 0.6875}}, "order of MeetsOf")
	got, ok := impl.MeetsOf(standing(), standing(), 0.03125)
	wantNoList(t, got, ok, "MeetsOf with 49 meets")
}

// Promise 4: at most 24 meets.
func TestManyMeets(t *testing.T) {
	for _, c := range []struct {
		by    float32
		count int
	}{{161, 24}, {169, 24}, {153, 0}, {129, 0}} {
		got, ok := impl.MeetsOf(plain(0, 1024), plain(complex(c.by, 0), complex(1024+c.by, 0)), 0.0078125)
		if c.count == 0 {
			wantNoList(t, got, ok, "MeetsOf", c.by)
			continue
		}
		wantTrue(t, ok && len(got) == c.count, "MeetsOf", c.by, got)
	}
}

// waves are two curves near to each other that go to and fro, so that many of their parts touch.
func waves(a, b, beside, weightsA, weightsB []float32) (impl.Curve, impl.Curve) {
	var first, second impl.Curve
	for i := range a {
		first.Points = append(first.Points, complex(a[i], a[i]))
		first.Weights = append(first.Weights, weightsA[i]/16)
		second.Points = append(second.Points, complex(b[i], b[i]+beside[i]/256))
		second.Weights = append(second.Weights, weightsB[i]/16)
	}
	return first, second
}

// Promise 4: at most 20000 pairs are looked at: 19999 here, and then 20001, as each cut brings two more.
func TestManyPairs(t *testing.T) {
	heavyA, heavyB := []float32{26, 15, 16, 16, 16, 16, 17, 23}, []float32{12, 16, 16, 16, 16, 16, 16, 14}
	first, second := waves(
		[]float32{-5, 57, -186, 340, -348, 201, -53, 6}, []float32{-4, 55, -199, 349, -347, 196, -54, 5},
		[]float32{146, -20, 179, -64, 54, 142, 2, 123}, heavyA, heavyB)
	got, ok := impl.MeetsOf(first, second, leastNear)
	wantTrue(t, ok && len(got) == 20, "MeetsOf with 19999 pairs", got)
	heavyA[0] = 25
	first, second = waves(
		[]float32{-5, 57, -186, 339, -346, 201, -54, 6}, []float32{-4, 55, -199, 349, -347, 196, -55, 5},
		[]float32{138, 10, 159, -31, 67, 123, -14, 121}, heavyA, heavyB)
	got, ok = impl.MeetsOf(first, second, leastNear)
	wantNoList(t, got, ok, "MeetsOf with 20001 pairs")
}

// Promise 4: meets lie on both curves, nearly, and are apart from each other.
func TestMeetsLieOnCurves(t *testing.T) {
	s := newSource()
	count := 0
	for range 300 {
		a, b := plain(s.curve(1, 7).Points...), plain(s.curve(1, 7).Points...)
		meets, ok := impl.MeetsOf(a, b, leastNear)
		wantTrue(t, ok, "MeetsOf", a, b)
		for i, meet := range meets {
			first, _ := impl.CurveAt(a, meet.S)
			second, _ := impl.CurveAt(b, meet.T)
			wantNumber(t, max(impl.LongOf(first-second), 0.05), 0.05, "distance at a meet", a, b, meet)
			for _, other := range meets[:i] {
				apart := max(meet.S-other.S, other.S-meet.S, meet.T-other.T, other.T-meet.T)
				wantTrue(t, apart > 4*leastNear, "meets apart from each other", a, b, meet, other)
			}
		}
		count += len(meets)
	}
	wantTrue(t, count > 100, "number of meets", count)
}

// Promise 4: meets of a curve with itself.
func TestSelfMeets(t *testing.T) {
	loop := plain(0, 4+4i, -2+4i, 2)
	for _, c := range []struct {
		curve impl.Curve
		near  float32
		want  []impl.Meet
	}{
		{loop, leastNear, []impl.Meet{{S: 0.112548828, T: 0.886962891}}}, {loop, 0.0078125, []impl.Meet{{S: 0.111328125, T: 0.884765625}}},
		{loop, 0.0625, nil}, {loop, 1, nil}, {plain(0, 1), leastNear, nil}, {plain(0, 1), 0.0078125, nil}, {bowl(), 0.0078125, nil},
		// Just as far from where the curve was cut as is told, by one of both times.
		{plain(-3i, -4, -4+2i, -4-1i, -1i), 0.0134277344, []impl.Meet{{S: 0.396484375, T: 0.607421875}}},
		{plain(-3i, -4, -4+2i, -4-1i, -1i), 0.0134277344 + 0x1p-26, nil},
		{plain(-4-2i, 3+1i, -1-3i, -1+2i), 0.0148925781, []impl.Meet{{S: 0.380859375, T: 0.560546875}}},
		{plain(-4-2i, 3+1i, -1-3i, -1+2i), 0.0148925781 + 0x1p-26, nil},
	} {
		got, ok := impl.SelfMeets(c.curve, c.near)
		wantMeets(t, got, ok, c.want, "SelfMeets", c.curve, c.near)
	}
	// This curve goes back the same way, and meets itself too often.
	got, ok := impl.SelfMeets(thereAndBack(), leastNear)
	wantNoList(t, got, ok, "SelfMeets of a curve that goes back")
	got, ok = impl.SelfMeets(tooLight(), 0.25)
	wantNoList(t, got, ok, "SelfMeets of a curve that cannot be cut")
}

// Promise 4: a curve is at the same place, nearly, at both times of a meet.
func TestSelfMeetsLieOnCurves(t *testing.T) {
	s := newSource()
	count := 0
	for range 500 {
		c := plain(s.curve(3, 7).Points...)
		meets, ok := impl.SelfMeets(c, leastNear)
		wantTrue(t, ok, "SelfMeets", c)
		for _, meet := range meets {
			first, _ := impl.CurveAt(c, meet.S)
			second, _ := impl.CurveAt(c, meet.T)
			wantTrue(t, meet.S < 0.5 && meet.T > 0.5, "times of a meet", c, meet)
			wantNumber(t, max(impl.LongOf(first-second), 0.05), 0.05, "distance at a meet", c, meet)
		}
		count += len(meets)
	}
	wantTrue(t, count > 20, "number of meets", count)
}
