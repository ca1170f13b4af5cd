package tests

import (
	"slices"
	"testing"

	"loop.example/g01328/impl"
)

// Promise 4, and the chapter's example: turns of loops, to the last bit.
func TestTurnsOfLoop(t *testing.T) {
	for _, c := range []struct {
		loop []complex64
		want uint32
	}{
		{square(), 0x3f800000}, {[]complex64{0, 2i, 2 + 2i, 2}, 0xbf800000}, {[]complex64{0, 2 + 2i, 2, 2i}, 0},
		{[]complex64{0, 3 + 1i, 1 + 4i}, 0x3f800000}, {star(), 0x3fffffff}, {[]complex64{0, 2, 1}, 0x3f800000},
		{[]complex64{0, complex(leastNumber, 0), complex(0, leastNumber)}, 0},
	} {
		got, ok := impl.TurnsOfLoop(c.loop)
		wantTrue(t, ok, "TurnsOfLoop", c.loop)
		wantBits(t, got, c.want, "TurnsOfLoop", c.loop)
	}
	// Two points that are equal, one behind the other: at the begin, inside, at the end, and the last one and the first one.
	for _, loop := range [][]complex64{
		{0, 0, 1}, {0, 1, 1}, {0, 1, 2i, 2i}, {1i, 1, 2, 1i}, {0, 1, complex(negZero, 0)}, {0, complex(0, negZero), 1}, {1, 1, 1},
		{farPoint, -farPoint, 0}, {1e30, 1e30i, -1e30},
	} {
		got, ok := impl.TurnsOfLoop(loop)
		wantPair(t, got, ok, 0, false, "TurnsOfLoop", loop)
	}
}

// Promise 4, and the chapter's example: how often loops go around points.
func TestWindingAt(t *testing.T) {
	for _, c := range []struct {
		loop []complex64
		z    complex64
		want int64
	}{
		{square(), 1 + 1i, 1}, {[]complex64{0, 2i, 2 + 2i, 2}, 1 + 1i, -1}, {square(), 3 + 1i, 0}, {square(), -1 + 1i, 0},
		{square(), 1 + 3i, 0}, {square(), 1 - 1i, 0}, {star(), 0, 2}, {star(), 2i, 1}, {star(), 5, 0},
		{[]complex64{0, 2 + 2i, 2, 2i}, 1 + 0.5i, 0}, {[]complex64{0, 2 + 2i, 2, 2i}, 1.75 + 1i, -1}, {[]complex64{0, 2 + 2i, 2, 2i}, 0.25 + 1i, 1},
		// On the sides, in the corners, and as high as a corner.
		{square(), 1, 1}, {square(), 2 + 1i, 0}, {square(), 1 + 2i, 0}, {square(), 1i, 1}, {square(), 0, 1}, {square(), 2, 0}, {square(), 2 + 2i, 0}, {square(), 2i, 0},
		{square(), complex(below(2), 0), 1}, {square(), complex(leastNumber, 1), 1}, {square(), complex(1, negZero), 1},
		{[]complex64{-1i, 1, 1i, -1}, 0, 1}, {[]complex64{-1i, 1, 1i, -1}, 2, 0}, {[]complex64{-1i, 1, 1i, -1}, -2, 0},
		{[]complex64{-1, 1i, 1, -1i}, 0, -1}, {[]complex64{-1, 1i, 1, -1i}, -2, 0},
		// All points are equal, or in one line.
		{[]complex64{1, 1, 1}, 1, 0}, {[]complex64{0, 1i, 2i}, 1i, 0}, {[]complex64{0, 1i, 2i}, -1 + 1i, 0},
		// What is greater than all numbers is greater than 0.
		{[]complex64{complex(mostNumber, -1), complex(mostNumber, 2), -1}, 0, 1},
	} {
		got, ok := impl.WindingAt(c.loop, c.z)
		wantPair(t, got, ok, c.want, true, "WindingAt", c.loop, c.z)
	}
	for _, z := range wildPoints() {
		got, ok := impl.WindingAt(square(), z)
		wantPair(t, got, ok, 0, false, "WindingAt", z)
	}
}

// Promise 4, and the chapter's example: areas of loops, to the last bit.
func TestAreaOfLoop(t *testing.T) {
	for _, c := range []struct {
		loop []complex64
		want float32
	}{
		{square(), 4}, {[]complex64{0, 2i, 2 + 2i, 2}, -4}, {[]complex64{0, 2 + 2i, 2, 2i}, 0}, {star(), 16},
		{[]complex64{0, 1, 1i}, 0.5}, {[]complex64{5 + 5i, 6 + 5i, 5 + 6i}, 0.5}, {[]complex64{1, 1, 1}, 0}, {[]complex64{0, 1, 2}, 0},
	} {
		got, ok := impl.AreaOfLoop(c.loop)
		wantOne(t, got, ok, c.want, "AreaOfLoop", c.loop)
	}
	got, ok := impl.AreaOfLoop([]complex64{0, 1e30, 1e30i})
	wantPair(t, got, ok, 0, false, "AreaOfLoop of a great loop")
}

// Promise 4: loops have 3 to 64 points with finite parts.
func TestLoopsThatThereAreNot(t *testing.T) {
	round := make([]complex64, 66)
	for i := range round {
		round[i] = impl.ScaleComplex(impl.PhasorOf(float64(i)/66), 3)
	}
	for count := range round {
		list := round[:count]
		if count < 3 || count > 64 {
			wantNothing(t, ofLoops(list, 1), "loop of", count)
			continue
		}
		turns, turnsOK := impl.TurnsOfLoop(list)
		_, windingOK := impl.WindingAt(list, 1)
		_, areaOK := impl.AreaOfLoop(list)
		wantTrue(t, turnsOK && windingOK && areaOK, "loop of", count)
		wantAbout(t, turns, 1, 1e-5, "turns of", count)
	}
	for i := range 4 {
		for _, point := range wildPoints() {
			list := square()
			list[i] = point
			wantNothing(t, ofLoops(list, 1), "loop", list)
		}
	}
}

// Promise 4: a loop the other way round turns, winds and has an area the other way round, nearly.
func TestLoopsBack(t *testing.T) {
	s := newSource()
	for range 300 {
		loop, z := s.points(3+s.below(8)), s.point()
		back := slices.Clone(loop)
		slices.Reverse(back)
		turns, ok := impl.TurnsOfLoop(loop)
		other, _ := impl.TurnsOfLoop(back)
		wantTrue(t, ok, "TurnsOfLoop", loop)
		wantAbout(t, other, -turns, 1e-4, "turns the other way round", loop)
		wantAbout(t, turns, float32(int(turns+100.5)-100), 1e-4, "whole turns", loop)
		winding, ok := impl.WindingAt(loop, z)
		times, _ := impl.WindingAt(back, z)
		wantTrue(t, ok && winding == -times, "WindingAt the other way round", loop, z)
		area, ok := impl.AreaOfLoop(loop)
		opposite, _ := impl.AreaOfLoop(back)
		wantTrue(t, ok, "AreaOfLoop", loop)
		wantAbout(t, opposite, -area, 1e-4, "area the other way round", loop)
	}
}
