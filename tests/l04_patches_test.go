package tests

import (
	"math"
	"testing"

	"loop.example/g01328/impl"
)

// corner is a patch of the degree 1, hill one of the degree 2, and heap one of the degree 3.
func corner() []impl.Spot { return spots(0, 0, 0, 1, 0, 0, 0, 1, 0) }

func hill() []impl.Spot {
	return spots(0, 0, 0, 2, 0, 4, 4, 0, 0, 0, 2, 8, 2, 2, 16, 0, 4, 0)
}

func heap() []impl.Spot {
	return spots(0, 0, 0, 3, 0, 0, 6, 0, 0, 9, 0, 0, 0, 3, 0, 3, 3, 64, 6, 3, 0, 0, 6, 0, 3, 6, 0, 0, 9, 0)
}

// Promise 5, and the chapter's example: spots of patches.
func TestPatchAt(t *testing.T) {
	for _, c := range []struct {
		list   []impl.Spot
		degree int64
		a, b   float32
		want   impl.Spot
	}{
		{corner(), 1, 0, 0, spot(0, 0, 0)}, {corner(), 1, 1, 0, spot(1, 0, 0)}, {corner(), 1, 0, 1, spot(0, 1, 0)},
		{corner(), 1, 0.25, 0.5, spot(0.25, 0.5, 0)}, {corner(), 1, negZero, negZero, spot(0, 0, 0)},
		{hill(), 2, 0, 0, spot(0, 0, 0)}, {hill(), 2, 1, 0, spot(4, 0, 0)}, {hill(), 2, 0, 1, spot(0, 4, 0)},
		{hill(), 2, 0.5, 0, spot(2, 0, 2)}, {hill(), 2, 0, 0.5, spot(0, 2, 4)}, {hill(), 2, 0.5, 0.5, spot(2, 2, 8)},
		{hill(), 2, 0.25, 0.5, spot(1, 2, 4*2*0.25*0.25+8*2*0.25*0.5+16*2*0.25*0.5)},
		{heap(), 3, 0, 0, spot(0, 0, 0)}, {heap(), 3, 1, 0, spot(9, 0, 0)}, {heap(), 3, 0, 1, spot(0, 9, 0)},
		{heap(), 3, 0.25, 0.5, spot(2.25, 4.5, 64*6*0.25*0.25*0.5)}, {heap(), 3, 0.5, 0.25, spot(4.5, 2.25, 64*6*0.25*0.25*0.5)},
		// A sum of three parts has no +0 in front: negative zeros stay one.
		{repeated(spot(negZero, 1, 2), 3), 1, 0.25, 0.5, spot(negZero, 1, 2)},
		{repeated(spot(1, negZero, 0), 10), 3, 0, 0, spot(1, negZero, 0)},
		{spots(mostNumber, 0, 0, 1, 0, 0, 2, 0, 0), 1, 0, 0, spot(mostNumber, 0, 0)},
	} {
		got, ok := impl.PatchAt(c.list, c.degree, c.a, c.b)
		wantSpot(t, got, ok, c.want, "PatchAt", c.list, c.a, c.b)
	}
}

// Promise 5: there is nothing beside patches.
func TestSharesThatThereAreNot(t *testing.T) {
	for _, shares := range [][2]float32{
		{-leastNumber, 0}, {0, -leastNumber}, {1, leastNormal * 0x1p110}, {0.5, above(0.5)}, {above(0.5), 0.5}, {above(1), 0}, {0, above(1)}, {1, 1},
		{2, -1}, {-1, 2}, {-1, -1}, {infinity, 0}, {0, infinity}, {-infinity, 0}, {0, -infinity}, {infinity, -infinity}, {notNum, 0}, {0, notNum},
	} {
		for degree, list := range [][]impl.Spot{1: corner(), 2: hill(), 3: heap()} {
			got, ok := impl.PatchAt(list, int64(degree), shares[0], shares[1])
			wantNoSpot(t, got, ok, "PatchAt", shares, degree)
		}
	}
	// What is taken away from 1 is rounded, and so is no less than 0.
	got, ok := impl.PatchAt(corner(), 1, 1, leastNumber)
	wantNoSpot(t, got, ok, "PatchAt", 1, leastNumber)
	got, ok = impl.PatchAt(corner(), 1, leastNumber, 1)
	wantSpot(t, got, ok, spot(leastNumber, 1, 0), "PatchAt", leastNumber, 1)
}

// Promise 5: patches of a higher degree.
func TestRaisePatch(t *testing.T) {
	for _, c := range []struct {
		list   []impl.Spot
		degree int64
		want   []impl.Spot
	}{
		{corner(), 1, spots(0, 0, 0, 0.5, 0, 0, 1, 0, 0, 0, 0.5, 0, 0.5, 0.5, 0, 0, 1, 0)},
		{spots(2, 4, 8, 4, 8, 16, 8, 16, 32), 1, spots(2, 4, 8, 3, 6, 12, 4, 8, 16, 5, 10, 20, 6, 12, 24, 8, 16, 32)},
		// A sum of what there is begins with +0.
		{repeated(spot(negZero, 1, negZero), 3), 1, repeated(spot(0, 1, 0), 6)},
		{spots(0, 0, 0, 3, 0, 0, 6, 0, 0, 0, 3, 0, 3, 3, 12, 0, 6, 0), 2, spots(
			0, 0, 0, 2, 0, 0, 4, 0, 0, 6, 0, 0,
			0, 2, 0, 2, 2, 4, 4, 2, 8,
			0, 4, 0, 2, 4, 8, 0, 6, 0)},
	} {
		got, ok := impl.RaisePatch(c.list, c.degree)
		wantTrue(t, ok && len(got) == len(c.want), "RaisePatch", c.list)
		for i := range got {
			wantNearSpot(t, got[i], c.want[i], "RaisePatch", c.list, i)
			wantEqual(t, math.Signbit(float64(got[i].X)), false, "RaisePatch, sign", c.list, i)
		}
	}
	got, ok := impl.RaisePatch(corner(), 1)
	wantSpots(t, got, ok, spots(0, 0, 0, 0.5, 0, 0, 1, 0, 0, 0, 0.5, 0, 0.5, 0.5, 0, 0, 1, 0), "RaisePatch, to the last bit")
	got, ok = impl.RaisePatch(heap(), 3)
	wantNoList(t, got, ok, "RaisePatch of the degree 3")
}

// Promise 5: raised patches are the same, nearly.
func TestRaisedPatchesAreTheSame(t *testing.T) {
	s := newSource()
	for range 500 {
		list, degree := s.spots(3), int64(1)
		if s.below(2) == 0 {
			list, degree = s.spots(6), 2
		}
		a, b := s.time()/2, s.time()/2
		want, ok := impl.PatchAt(list, degree, a, b)
		wantTrue(t, ok, "PatchAt", list, a, b)
		for ; degree < 3; degree++ {
			raised, ok := impl.RaisePatch(list, degree)
			wantTrue(t, ok, "RaisePatch", list)
			got, ok := impl.PatchAt(raised, degree+1, a, b)
			wantTrue(t, ok, "PatchAt of RaisePatch", list, a, b)
			wantNearSpot(t, got, want, "RaisePatch", list, a, b)
			list = raised
		}
	}
}

// Promise 5: patches have a degree from 1 to 3, as many spots as rows of it have, and finite ones.
func TestPatchesThatThereAreNot(t *testing.T) {
	counts := map[int64]int{1: 3, 2: 6, 3: 10}
	for _, degree := range []int64{-3, -2, -1, 0, 1, 2, 3, 4, 5, 1 << 32, 1<<32 - 1, math.MinInt64, math.MaxInt64, math.MaxInt64 - 1} {
		for count := range 22 {
			got, ok := impl.PatchAt(make([]impl.Spot, count), degree, 0.25, 0.25)
			wantEqual(t, ok, counts[degree] == count && count > 0, "PatchAt", degree, count)
			wantTrue(t, sameSpot(got, impl.Spot{}), "PatchAt", degree, count)
			raised, ok := impl.RaisePatch(make([]impl.Spot, count), degree)
			wantEqual(t, ok, counts[degree] == count && count > 0 && degree < 3, "RaisePatch", degree, count)
			if ok {
				wantEqual(t, len(raised), counts[degree+1], "RaisePatch", degree, count)
			} else {
				wantNoList(t, raised, ok, "RaisePatch", degree, count)
			}
		}
	}
	for _, p := range notSpots() {
		for degree, list := range [][]impl.Spot{1: corner(), 2: hill(), 3: heap()} {
			for i := range list {
				old := list[i]
				list[i] = p
				wantNothing(t, ofPatches(list, int64(degree), 0, 0), "patch", list)
				list[i] = old
			}
		}
	}
}

// Promise 5: patches have no spots that are not finite.
func TestPatchesTooGreat(t *testing.T) {
	list := repeated(spot(0, 0, mostNumber), 3)
	failed := 0
	s := newSource()
	for range 3000 {
		a, b := s.time()/2, s.time()/2
		c := 1 - a - b
		sum := float32(mostNumber*c) + float32(mostNumber*a) + float32(mostNumber*b)
		got, ok := impl.PatchAt(list, 1, a, b)
		if sum == infinity {
			failed++
			wantNoSpot(t, got, ok, "PatchAt, too great", a, b)
		} else {
			wantSpot(t, got, ok, spot(0, 0, sum), "PatchAt, great", a, b)
		}
	}
	wantTrue(t, failed > 0, "shares that are rounded up")
}
