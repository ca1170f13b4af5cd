package tests

import (
	"slices"
	"testing"

	"loop.example/g01328/impl"
)

// Promise 5: a spot has finite parts.
func TestIsSpot(t *testing.T) {
	for _, p := range []impl.Spot{{}, spot(negZero, 1, -2), spot(mostNumber, -mostNumber, leastNumber)} {
		wantTrue(t, impl.IsSpot(p), "IsSpot", p)
	}
	for _, p := range notSpots() {
		wantTrue(t, !impl.IsSpot(p), "not IsSpot", p)
	}
	wantEqual(t, impl.MaxAcross, 6, "MaxAcross")
	wantEqual(t, impl.MaxTiles, 12, "MaxTiles")
}

// Promise 5: spots are the same if all of their parts are, finite or not.
func TestSameSpot(t *testing.T) {
	for _, x := range specialNumbers() {
		for _, y := range specialNumbers() {
			want := sameBits(x, y)
			wantEqual(t, impl.SameSpot(spot(x, 1, 2), spot(y, 1, 2)), want, "SameSpot, X", x, y)
			wantEqual(t, impl.SameSpot(spot(1, x, 2), spot(1, y, 2)), want, "SameSpot, Y", x, y)
			wantEqual(t, impl.SameSpot(spot(1, 2, x), spot(1, 2, y)), want, "SameSpot, Z", x, y)
		}
	}
	wantTrue(t, !impl.SameSpot(spot(1, 2, 3), spot(2, 1, 3)), "SameSpot of exchanged parts")
	wantTrue(t, !impl.SameSpot(spot(1, 2, 3), spot(1, 3, 2)), "SameSpot of exchanged parts")
}

// Promise 5: cross products.
func TestCrossSpots(t *testing.T) {
	for _, c := range []struct{ a, b, want impl.Spot }{
		{spot(1, 0, 0), spot(0, 1, 0), spot(0, 0, 1)}, {spot(0, 1, 0), spot(0, 0, 1), spot(1, 0, 0)},
		{spot(0, 0, 1), spot(1, 0, 0), spot(0, 1, 0)}, {spot(0, 1, 0), spot(1, 0, 0), spot(0, 0, -1)},
		{spot(2, 3, 5), spot(7, 11, 13), spot(3*13-5*11, 5*7-2*13, 2*11-3*7)},
		{spot(2, 3, 5), spot(4, 6, 10), spot(0, 0, 0)}, {spot(0, 0, 0), spot(1, 2, 3), spot(0, 0, 0)},
		// Each product is rounded on its own: 1 + 2 to the power of -22, and not a bit more, is taken from itself.
		{spot(0, 0x1.000002p0, 1), spot(0, 0x1.000004p0, 0x1.000002p0), spot(0, 0, 0)},
		{spot(0, 0, negZero), spot(0, 1, 0), spot(0, negZero, 0)}, {spot(0, negZero, 0), spot(0, 0, 1), spot(negZero, 0, 0)},
	} {
		got, ok := impl.CrossSpots(c.a, c.b)
		wantSpot(t, got, ok, c.want, "CrossSpots", c.a, c.b)
	}
	for _, p := range notSpots() {
		for _, q := range []impl.Spot{{}, spot(1, 2, 3), p} {
			got, ok := impl.CrossSpots(p, q)
			wantNoSpot(t, got, ok, "CrossSpots", p, q)
			got, ok = impl.CrossSpots(q, p)
			wantNoSpot(t, got, ok, "CrossSpots", q, p)
		}
	}
	for _, c := range [][2]impl.Spot{
		{spot(0, 1e20, 0), spot(0, 0, 1e20)}, {spot(0, 0, 1e20), spot(1e20, 0, 0)}, {spot(1e20, 0, 0), spot(0, 1e20, 0)},
		{spot(0, 1e20, 1e20), spot(0, 1e20, 1e20)},
	} {
		got, ok := impl.CrossSpots(c[0], c[1])
		wantNoSpot(t, got, ok, "CrossSpots of great spots", c)
	}
}

// Promise 5: how long spots are, as far as the power of that is a number.
func TestLongOfSpot(t *testing.T) {
	for _, c := range []struct {
		of   impl.Spot
		want float32
	}{
		{spot(2, 3, 6), 7}, {spot(-2, 6, -3), 7}, {spot(0, 0, 0), 0}, {spot(negZero, negZero, negZero), 0},
		{spot(0, 0, -5), 5}, {spot(0, 5, 0), 5}, {spot(1, 1, 1), 0x1.bb67aep0},
		// The power is a 32-bit number, so that little parts are lost.
		{spot(1, 0x1p-12, 0x1p-12), 1}, {spot(1e-23, 0, 0), 0}, {spot(0x1.8p-75, 0, 0), 0x1.6a09e6p-75},
		{spot(0x1.fffffep63, 0, 0), 0x1.fffffep63},
	} {
		got, ok := impl.LongOfSpot(c.of)
		wantOne(t, got, ok, c.want, "LongOfSpot", c.of)
	}
	tooLong := []impl.Spot{spot(0x1p64, 0, 0), spot(0, 0x1p64, 0), spot(0, 0, -0x1p64), spot(0x1.8p63, 0x1.8p63, 0)}
	for _, p := range append(tooLong, notSpots()...) {
		got, ok := impl.LongOfSpot(p)
		wantPair(t, got, ok, 0, false, "LongOfSpot", p)
	}
}

// Promise 5: boxes have the first one of equal parts.
func TestBoxOfSpots(t *testing.T) {
	for _, c := range []struct {
		list      []impl.Spot
		low, high impl.Spot
	}{
		{spots(1, 2, 3), spot(1, 2, 3), spot(1, 2, 3)},
		{spots(1, 2, 0, 0, 5, 3), spot(0, 2, 0), spot(1, 5, 3)},
		{spots(1, -2, 3, -4, 5, -6, 7, 8, 9), spot(-4, -2, -6), spot(7, 8, 9)},
		{spots(0, negZero, 0, negZero, 0, negZero), spot(0, negZero, 0), spot(0, negZero, 0)},
		{spots(negZero, 0, negZero, 0, negZero, 0), spot(negZero, 0, negZero), spot(negZero, 0, negZero)},
		{spots(-mostNumber, mostNumber, 0, mostNumber, -mostNumber, leastNumber), spot(-mostNumber, -mostNumber, 0), spot(mostNumber, mostNumber, leastNumber)},
	} {
		low, high, ok := impl.BoxOfSpots(c.list)
		wantSpot(t, low, ok, c.low, "BoxOfSpots, least", c.list)
		wantSpot(t, high, ok, c.high, "BoxOfSpots, greatest", c.list)
	}
	full := make([]impl.Spot, 256)
	full[255] = spot(1, -1, 2)
	low, high, ok := impl.BoxOfSpots(full)
	wantSpot(t, low, ok, spot(0, -1, 0), "BoxOfSpots of 256")
	wantSpot(t, high, ok, spot(1, 0, 2), "BoxOfSpots of 256")
}

// Promise 5: the nearest spot is the first one of those that are as near.
func TestNearestTile(t *testing.T) {
	for _, c := range []struct {
		list []impl.Spot
		to   impl.Spot
		want int64
		far  float32
	}{
		{spots(1, 2, 3), spot(1, 2, 3), 0, 0}, {spots(0, 0, 0), spot(2, 3, 6), 0, 7},
		{floor().Spots, spot(4, 1, 0), 1, 1}, {floor().Spots, spot(2, 1, 2), 0, 3}, {floor().Spots, spot(3, 3, 1), 3, 0x1.bb67aep0},
		{spots(5, 0, 0, 3, 0, 0, 0, 3, 0, 0, 0, -3, 4, 0, 0), spot(0, 0, 0), 1, 3},
		{spots(0x1.fffffep63, 0, 0, 0, 0x1.fffffcp63, 0), spot(0, 0, 0), 1, 0x1.fffffcp63},
		// Powers that are lost make all of these as near.
		{spots(1e-30, 0, 0, 0, 0, 0), spot(0, 0, 0), 0, 0},
	} {
		index, far, ok := impl.NearestTile(c.list, c.to)
		wantEqual(t, index, c.want, "NearestTile", c.list, c.to)
		wantOne(t, far, ok, c.far, "NearestTile, how far", c.list, c.to)
	}
	full := make([]impl.Spot, 256)
	full[255] = spot(1, 0, 0)
	index, far, ok := impl.NearestTile(full, spot(1, 0, 0.25))
	wantEqual(t, index, 255, "NearestTile of 256")
	wantOne(t, far, ok, 0.25, "NearestTile of 256")
}

// Promise 5: other lists have no box, and no nearest spot; nor is there one where a distance is not finite.
func TestListsThatThereAreNot(t *testing.T) {
	for _, list := range [][]impl.Spot{nil, {}, make([]impl.Spot, 257)} {
		wantNothing(t, ofSpots(list, impl.Spot{}), "spots", len(list))
	}
	for i := range 3 {
		for _, p := range notSpots() {
			list := make([]impl.Spot, 3)
			list[i] = p
			wantNothing(t, ofSpots(list, impl.Spot{}), "spots", list)
		}
		list := make([]impl.Spot, 3)
		list[i] = spot(0, 0x1p64, 0)
		index, far, ok := impl.NearestTile(list, impl.Spot{})
		wantPair(t, index, ok, 0, false, "NearestTile", list)
		wantNumber(t, far, 0, "NearestTile", list)
	}
	for _, to := range append(notSpots(), spot(mostNumber, 0, 0)) {
		for _, list := range [][]impl.Spot{{{}}, spots(-mostNumber, 1, 2)} {
			index, far, ok := impl.NearestTile(list, to)
			wantPair(t, index, ok, 0, false, "NearestTile", list, to)
			wantNumber(t, far, 0, "NearestTile", list, to)
		}
	}
}

// Promise 5: all spots are in their box, and its sides are those of spots.
func TestBoxesHoldSpots(t *testing.T) {
	s := newSource()
	for range 200 {
		list := s.spots(1 + s.below(256))
		low, high, ok := impl.BoxOfSpots(list)
		wantTrue(t, ok, "BoxOfSpots", list)
		for _, part := range []func(impl.Spot) float32{
			func(p impl.Spot) float32 { return p.X }, func(p impl.Spot) float32 { return p.Y }, func(p impl.Spot) float32 { return p.Z },
		} {
			var parts []float32
			for _, p := range list {
				parts = append(parts, part(p))
			}
			wantNumber(t, part(low), slices.Min(parts), "BoxOfSpots, least", list)
			wantNumber(t, part(high), slices.Max(parts), "BoxOfSpots, greatest", list)
		}
	}
}
