package tests

import (
	"math"
	"math/cmplx"
	"slices"
	"testing"

	"loop.example/g01328/impl"
)

// dashed is a path with a pattern, and its dashes.
type dashed struct {
	points  []complex64
	pattern []float32
	start   float32
	want    [][]complex64
}

// ruler has as many dashes and gaps of the length 1 as told, from 0 on, and its dashes.
func ruler(lengths int) (points []complex64, dashes [][]complex64) {
	for i := 0; i < lengths; i += 2 {
		dashes = append(dashes, []complex64{complex(float32(i), 0), complex(float32(i+1), 0)})
	}
	return []complex64{0, complex(float32(lengths), 0)}, dashes
}

// Promise 8, and the chapter's example: dashes and gaps in turn, to the last bit.
func TestDashPath(t *testing.T) {
	long := []complex64{0, 3}
	for _, c := range []dashed{
		{long, []float32{1, 1}, 0, [][]complex64{{0, 1}, {2, 3}}}, {long, []float32{1, 1}, negZero, [][]complex64{{0, 1}, {2, 3}}}, {long, []float32{4, 1}, 0, [][]complex64{{0, 3}}},
		{long, []float32{3, 1}, 0, [][]complex64{{0, 3}}}, {long, []float32{2, 1}, 0, [][]complex64{{0, 2}}}, {long, []float32{1, 0.5}, 0, [][]complex64{{0, 1}, {1.5, 2.5}}},
		{long, []float32{0.25, 2.5}, 0, [][]complex64{{0, 0.25}, {2.75, 3}}}, {long, []float32{mostNumber, 1}, 0, [][]complex64{{0, 3}}}, {long, []float32{1, mostNumber}, 0, [][]complex64{{0, 1}}},
		// With an odd number of lengths, those that were dashes are gaps the next time.
		{long, []float32{1}, 0, [][]complex64{{0, 1}, {2, 3}}}, {long, []float32{2}, 0, [][]complex64{{0, 2}}}, {long, []float32{0.5}, 0, [][]complex64{{0, 0.5}, {1, 1.5}, {2, 2.5}}},
		{[]complex64{0, 14}, []float32{1, 2, 3}, 0, [][]complex64{{0, 1}, {3, 6}, {7, 9}, {12, 13}}},
		// A start inside a dash, inside a gap, at the ends of both, and behind several lengths.
		{long, []float32{1, 1}, 0.5, [][]complex64{{0, 0.5}, {1.5, 2.5}}}, {long, []float32{1, 1}, 1, [][]complex64{{1, 2}}}, {long, []float32{1, 1}, 1.5, [][]complex64{{0.5, 1.5}, {2.5, 3}}},
		{long, []float32{1, 1}, 2, [][]complex64{{0, 1}, {2, 3}}}, {long, []float32{1, 1}, 7.5, [][]complex64{{0.5, 1.5}, {2.5, 3}}}, {long, []float32{1, 3}, 1, nil}, {long, []float32{1, 5}, 2, nil},
		{long, []float32{1}, 1, [][]complex64{{1, 2}}}, {long, []float32{1, 2, 3}, 3, [][]complex64{{0, 3}}}, {long, []float32{1, 2, 3}, 6, [][]complex64{{1, 3}}}, {long, []float32{1, 2, 3}, 20, [][]complex64{{0, 1}}},
		// Corners belong to dashes.
		{hook(), []float32{3, 1}, 0, [][]complex64{{0, 2, 2 + 1i}}}, {hook(), []float32{1.5, 1}, 0, [][]complex64{{0, 1.5}, {2 + 0.5i, 2 + 2i}}}, {hook(), []float32{9}, 0, [][]complex64{hook()}},
		{[]complex64{0, 1, 1 + 1i, 1i, 0}, []float32{2.5, 0.5}, 0, [][]complex64{{0, 1, 1 + 1i, 0.5 + 1i}, {1i, 0}}}, {[]complex64{0, 1, 0}, []float32{1.5, 0.25}, 0, [][]complex64{{0, 1, 0.5}, {0.25, 0}}},
		// A dash that ends at a corner ends where the next piece begins, and so has this point twice; one that begins there has it once.
		{line(4), []float32{1, 1}, 0, [][]complex64{{0, 1, 1}, {2, 3}}}, {line(4), []float32{2, 1}, 0, [][]complex64{{0, 1, 2, 2}}}, {line(3), []float32{1, 1}, 1, [][]complex64{{1, 2}}},
		{bend(), []float32{0.7, 1.9}, 0.3, [][]complex64{
			hexPoints("00000000/00000000,3ecccccc/00000000"), hexPoints("40133333/00000000,40400000/00000000"), hexPoints("40400000/3ff33333,40400000/40266666"),
		}},
	} {
		got, ok := impl.DashPath(c.points, c.pattern, c.start)
		wantDashes(t, got, ok, c.want, "DashPath", c.points, c.pattern, c.start)
	}
}

// Promise 8: a pattern has 1 to 16 numbers, a start goes at most 1000 of them, and there are at most MaxDashes dashes.
func TestDashesAtTheLimits(t *testing.T) {
	for _, count := range []int{94, 95, 96} {
		points, want := ruler(count)
		for _, pattern := range [][]float32{{1}, {1, 1}, {1, 1, 1}, repeated[float32](1, 16)} {
			got, ok := impl.DashPath(points, pattern, 0)
			wantTrue(t, ok && len(got) == len(want), "DashPath of many dashes", count, pattern, len(got))
			for i, dash := range got {
				wantNear(t, dash[0], want[i][0], "begin of a dash", count, pattern, i)
				wantNear(t, dash[1], want[i][1], "end of a dash", count, pattern, i)
			}
		}
	}
	for _, end := range []float32{above(96), 97, 200, 1e6, mostNumber} {
		got, ok := impl.DashPath([]complex64{0, complex(end, 0)}, []float32{1, 1}, 0)
		wantNoList(t, got, ok, "DashPath of too many dashes", end)
		got, ok = impl.DashPath([]complex64{complex(0, end), 0}, []float32{1}, 0)
		wantNoList(t, got, ok, "DashPath of too many dashes", end)
	}
	got, ok := impl.DashPath([]complex64{0, 97}, []float32{1}, 1)
	wantTrue(t, ok && len(got) == 48, "DashPath that begins with a gap", len(got))
	got, ok = impl.DashPath([]complex64{0, 3}, []float32{0.001, 0.001}, 0)
	wantNoList(t, got, ok, "DashPath of short lengths", got)
	got, ok = impl.DashPath(sawtooth(impl.MaxPath), []float32{1, 0.5}, 0)
	wantTrue(t, ok && len(got) == 45, "DashPath of the longest path", len(got))

	for _, c := range []dashed{
		{[]complex64{0, 1}, []float32{1}, 1000, [][]complex64{{0, 1}}}, {[]complex64{0, 1}, []float32{1}, 999, nil}, {[]complex64{0, 1}, []float32{1}, 1000.5, [][]complex64{{0, 0.5}}},
		{[]complex64{0, 1}, []float32{1}, below(1001), [][]complex64{{0, complex(1001-below(1001), 0)}}},
		{[]complex64{0, 2}, []float32{1, 2, 3}, 1999, [][]complex64{{0, 2}}}, {[]complex64{0, 2}, []float32{1, 2, 3}, 2000, [][]complex64{{0, 1}}},
	} {
		got, ok := impl.DashPath(c.points, c.pattern, c.start)
		wantDashes(t, got, ok, c.want, "DashPath with a far start", c.pattern, c.start)
	}
	for _, start := range []float32{1001, 1002, 1e6, 1e30, mostNumber} {
		got, ok := impl.DashPath([]complex64{0, 1}, []float32{1}, start)
		wantNoList(t, got, ok, "DashPath with too far a start", start)
	}
	got, ok = impl.DashPath([]complex64{0, 2}, []float32{1, 2, 3}, 2001)
	wantNoList(t, got, ok, "DashPath with too far a start", got)
	got, ok = impl.DashPath([]complex64{0, 1}, []float32{mostNumber}, mostNumber)
	wantDashes(t, got, ok, nil, "DashPath behind the longest dash")
}

// Promise 8: paths, patterns and starts that there cannot be, and places that are too far.
func TestDashPathFails(t *testing.T) {
	for _, points := range notPaths() {
		got, ok := impl.DashPath(points, []float32{1, 1}, 0)
		wantNoList(t, got, ok, "DashPath", points)
	}
	for _, pattern := range [][]float32{nil, {}, repeated[float32](1, 17), repeated[float32](1, 1000)} {
		got, ok := impl.DashPath([]complex64{0, 3}, pattern, 0)
		wantNoList(t, got, ok, "DashPath", pattern)
	}
	for _, x := range notPositive() {
		for _, pattern := range [][]float32{{x}, {1, x}, {9, 9, x}, append(repeated[float32](9, 15), x)} {
			got, ok := impl.DashPath([]complex64{0, 3}, pattern, 0)
			wantNoList(t, got, ok, "DashPath", pattern)
		}
		if x != 0 {
			got, ok := impl.DashPath([]complex64{0, 3}, []float32{1, 1}, x)
			wantNoList(t, got, ok, "DashPath, start", x)
		}
	}
	for _, points := range [][]complex64{{-farPoint, farPoint}, {0, complex(mostNumber, mostNumber)}, {0, 1, complex(mostNumber, -mostNumber)}} {
		got, ok := impl.DashPath(points, []float32{mostNumber}, 0)
		wantNoList(t, got, ok, "DashPath, too far", points)
	}
}

func longOfPath(points []complex64) float32 {
	sum := float32(0)
	for i := 1; i < len(points); i++ {
		sum += impl.LongOf(points[i] - points[i-1])
	}
	return sum
}

// Promise 8: dashes have their lengths, nearly, lie on the path, nearly, and so do gaps between them.
func TestDashesHaveTheirLengths(t *testing.T) {
	s := newSource()
	for range 300 {
		points, pattern := s.points(2+s.below(20)), s.pattern()
		pattern = pattern[:min(len(pattern), 16)]
		start := float32(s.below(40)) / 4
		dashes, ok := impl.DashPath(points, pattern, start)
		if !ok {
			continue
		}
		total, at, index := longOfPath(points), -start, 0
		for ; at+pattern[index%len(pattern)] <= 0; index++ {
			at += pattern[index%len(pattern)]
		}
		var want []float32
		for ; at < total-1e-3; index++ {
			from := at
			at += pattern[index%len(pattern)]
			if index%2 == 0 {
				want = append(want, min(at, total)-max(from, 0))
			}
		}
		// The last dash may be so short that it is there or not.
		if len(want) != len(dashes) {
			want = append(want, 0)[:len(dashes)]
		}
		for i, dash := range dashes {
			wantAbout(t, longOfPath(dash), want[i], 2e-3, "length of a dash", points, pattern, start, i)
			wantTrue(t, len(dash) >= 2, "points of a dash", points, pattern, start, i)
			for _, z := range dash {
				wantTrue(t, farFromPath(points, z) < 1e-4, "dash beside the path", points, pattern, start, i)
			}
			for _, z := range dash[1 : len(dash)-1] {
				wantTrue(t, slices.Contains(points, z), "corner of a dash", points, pattern, start, i)
			}
		}
	}
}

// Promise 8: arcs that round corners, to the last bit.
func TestRoundCorner(t *testing.T) {
	for _, c := range []struct {
		a, b, c complex64
		radius  float32
		want    string
	}{
		{4, 0, 4i, 1, "3f7ffffe,3f7ffffe,3f7ffffe,be7fffff,be800002"}, {4i, 0, 4, 1, "3f7ffffe,3f7ffffe,3f7ffffe,3effffff,3e800002"}, {4, 0, 4i, 2, "3ffffffe,3ffffffe,3ffffffe,be7fffff,be800002"},
		{1, 0, 1 + 1i, 0.5, "3f9a827a,3f000000,3f000000,be800000,bec00000"}, {1, 0, -1 + 1i, 0.5, "3e5413d0,3f000003,3f000003,be800001,bdfffff8"},
		{3 + 1i, 1 + 1i, 2 + 5i, 0.25, "3fa8fc1f,3fa00000,3e800000,be800003,be93f66c"}, {1, 0, -1 + 0.001i, 1, "39fa0004,3f742408,3f742408,be800000,b926e000"},
		{100, 0, 100 + 1i, 1, "43480147,3f800000,3f800000,be800000,beff2f80"}, {5, 5 + 5i, -5, 3, "3ffffffe,3e15662e,40400001,32747644,3ea5c80a"},
		{1 + 1i, -1 - 1i, 3 - 1i, 0.5, "3e5413d0,bf000000,3f000001,3ec00000,3ec00000"}, {3 - 1i, -1 - 1i, 1 + 1i, 0.5, "3e5413d0,bf000000,3f000000,be800000,bec00000"},
		// How long both sides are does not matter, even if the arc does not touch them.
		{40, 0, 400i, 1, "3f7ffffe,3f7ffffe,3f7ffffe,be7fffff,be800002"}, {0.5, 0, 0.25i, 1, "3f7ffffe,3f7ffffe,3f7ffffe,be7fffff,be800002"},
	} {
		got, ok := impl.RoundCorner(c.a, c.b, c.c, c.radius)
		n := hexNumbers(c.want)
		wantPair(t, got, ok, impl.Arc{Middle: complex(n[0], n[1]), Round: n[2], From: n[3], Turn: n[4]}, true, "RoundCorner", c.a, c.b, c.c, c.radius)
	}
}

// Promise 8: corners that there are not, and radii that there cannot be.
func TestRoundCornerFails(t *testing.T) {
	tiny := complex(leastNumber, 0)
	for _, c := range [][3]complex64{
		{1, 0, 2}, {1, 0, 1}, {1, 0, -1}, {1 + 1i, 0, -3 - 3i}, {0, 0, 1i}, {1, 0, 0}, {1, 1, 1}, {0, complex(negZero, negZero), 1i}, {0, tiny, 0}, {2i, 1i, 5i},
		{farPoint, -farPoint, 1i}, {1i, -farPoint, farPoint}, {complex(mostNumber, mostNumber), 0, 1},
	} {
		got, ok := impl.RoundCorner(c[0], c[1], c[2], 1)
		wantNoArc(t, got, ok, "RoundCorner", c)
	}
	for _, radius := range append(notPositive(), mostNumber, 1e30, leastNumber) {
		got, ok := impl.RoundCorner(4, 0, 4i, radius)
		wantNoArc(t, got, ok, "RoundCorner", radius)
	}
	for _, z := range wildPoints() {
		for _, c := range [][3]complex64{{z, 0, 4i}, {4, z, 4i}, {4, 0, z}} {
			got, ok := impl.RoundCorner(c[0], c[1], c[2], 1)
			wantNoArc(t, got, ok, "RoundCorner", c)
		}
	}
}

// Promise 8: an arc touches both sides of its corner, nearly, from the first one to the second one.
func TestRoundCornersTouch(t *testing.T) {
	s := newSource()
	rounded := 0
	for range 400 {
		a, b, c, radius := s.point(), s.point(), s.point(), s.time()+0.125
		u, v := complex128(a-b), complex128(c-b)
		if cmplx.Abs(u) < 0.1 || cmplx.Abs(v) < 0.1 || math.Abs(cmplx.Phase(v/u)) < 0.5 || math.Abs(cmplx.Phase(v/u)) > 3 {
			continue
		}
		rounded++
		arc, ok := impl.RoundCorner(a, b, c, radius)
		wantTrue(t, ok, "RoundCorner", a, b, c, radius)
		wantAbout(t, arc.Round, radius, 1e-3, "radius of RoundCorner", a, b, c, radius)
		touch := float64(radius) / math.Tan(math.Abs(cmplx.Phase(v/u))/2)
		first, _ := impl.ArcAt(arc, 0)
		last, _ := impl.ArcAt(arc, 1)
		wantTrue(t, cmplx.Abs(complex128(first-b)-u*complex(touch/cmplx.Abs(u), 0)) < 1e-3, "RoundCorner begins", a, b, c, radius)
		wantTrue(t, cmplx.Abs(complex128(last-b)-v*complex(touch/cmplx.Abs(v), 0)) < 1e-3, "RoundCorner ends", a, b, c, radius)
		wantAbout(t, float32(math.Abs(float64(arc.Turn))), float32(0.5-math.Abs(cmplx.Phase(v/u))/(2*math.Pi)), 2e-3, "turn of RoundCorner", a, b, c, radius)
	}
	wantTrue(t, rounded > 200, "corners", rounded)
}
