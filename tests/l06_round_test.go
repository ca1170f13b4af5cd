package tests

import (
	"strings"
	"testing"

	"loop.example/g01328/impl"
)

// hexSpots reads spots, such as 3f800000/00000000/40000000, one after another.
func hexSpots(list ...string) []impl.Spot {
	var all []impl.Spot
	for _, parts := range list {
		all = append(all, spots(hexNumbers(strings.ReplaceAll(parts, "/", ","))...)...)
	}
	return all
}

// alike has the same facets as a net, and all spots at one place.
func alike(n impl.Net, p impl.Spot) impl.Net {
	return impl.Net{Spots: repeated(p, len(n.Spots)), Facets: n.Facets}
}

// Promise 7: rounder nets, to the last bit.
func TestRoundNet(t *testing.T) {
	const x, y, z = 0x1.1c71c8p0, 0x1.555556p1, 0x1.555556p0
	for _, c := range []struct{ n, want impl.Net }{
		// All corners have two borders: the rule of lines holds around the facet.
		{gridOf(1, 1), net(spots(0.125, 0.125, 0, 0.875, 0.125, 0, 0.125, 0.875, 0, 0.875, 0.875, 0, 0.5, 0.5, 0, 0.5, 0, 0, 1, 0.5, 0, 0.5, 1, 0, 0, 0.5, 0),
			[]int64{0, 5, 4, 8}, []int64{1, 6, 4, 5}, []int64{3, 7, 4, 6}, []int64{2, 8, 4, 7})},
		// No corner has a border, and each has three facets.
		{tip(), net(spots(x, x, x, y, x, x, x, y, x, x, x, y, 2, 2, 0, 2, 0, 2, 2, 2, 2, 0, 2, 2, 0.5, 2.5, 0.5, 2.5, 2.5, 0.5, 2.5, 0.5, 0.5, 2.5, 0.5, 2.5, 0.5, 0.5, 2.5, 0.5, 2.5, 2.5),
			[]int64{0, 8, 4, 10}, []int64{2, 9, 4, 8}, []int64{1, 10, 4, 9}, []int64{0, 10, 5, 12}, []int64{1, 11, 5, 10}, []int64{3, 12, 5, 11},
			[]int64{1, 9, 6, 11}, []int64{2, 13, 6, 9}, []int64{3, 11, 6, 13}, []int64{2, 8, 7, 13}, []int64{0, 12, 7, 8}, []int64{3, 13, 7, 12})},
		// Each has two facets only, so that it goes away from its old place.
		{coin(), net(spots(1.25, 1.25, 0, 0.5, 1.25, 0, 1.25, 0.5, 0, 1, 1, 0, 1, 1, 0, 1.25, 0.5, 0, 1.25, 1.25, 0, 0.5, 1.25, 0),
			[]int64{0, 5, 3, 7}, []int64{1, 6, 3, 5}, []int64{2, 7, 3, 6}, []int64{2, 6, 4, 7}, []int64{1, 5, 4, 6}, []int64{0, 7, 4, 5})},
		// The corner 2 has four borders, and stays.
		{bow(), net(spots(0.25, 0.75, 0.125, 0.25, 3.25, 0.125, 2, 2, 1, 3.75, 0.75, 0.125, 3.75, 3.25, 0.125, 2.0/3, 2, 1.0/3, 10.0/3, 2, 1.0/3, 1, 1, 0.5, 1, 3, 0.5, 0, 2, 0, 4, 2, 0, 3, 3, 0.5, 3, 1, 0.5),
			[]int64{0, 7, 5, 9}, []int64{2, 8, 5, 7}, []int64{1, 9, 5, 8}, []int64{3, 10, 6, 12}, []int64{4, 11, 6, 10}, []int64{2, 12, 6, 11})},
	} {
		got, ok := impl.RoundNet(c.n)
		wantNet(t, got, ok, c.want, "RoundNet", c.n)
	}
	got, ok := impl.RoundNet(brick())
	wantTrue(t, ok && len(got.Spots) == 26 && len(got.Facets) == 24, "RoundNet of a box", got)
	wantSpots(t, got.Spots[:8], ok, hexSpots("3e638e39/3ee38e39/3f2aaaab", "3f471c71/3ee38e39/3f2aaaab", "3e638e39/3fc71c71/3f2aaaab", "3f471c71/3fc71c71/3f2aaaab",
		"3e638e39/3ee38e39/40155555", "3f471c71/3ee38e39/40155555", "3e638e39/3fc71c71/40155555", "3f471c71/3fc71c71/40155555"), "corners of a rounded box")
	wantSpots(t, got.Spots[8:14], ok, spots(0.5, 1, 0, 0.5, 1, 3, 0.5, 0, 1.5, 0.5, 2, 1.5, 0, 1, 1.5, 1, 1, 1.5), "middles of a rounded box")
	wantIndices(t, got.Facets[23].Corners, ok, []int64{5, 22, 13, 19}, "last facet of a rounded box")
	got, ok = impl.RoundNet(tent())
	wantSpots(t, got.Spots[:5], ok, spots(0.5, 0.5, 0, 3.5, 0.5, 0, 3.5, 3.5, 0, 0.5, 3.5, 0, 2, 2, 0x1.2aaaacp2), "corners of a rounded tent")
	wantSpots(t, got.Spots[9:11], ok, hexSpots("40000000/00000000/00000000", "40355555/3f955556/40555556"), "edges of a rounded tent")
	// Six facets touch in the corner 0, three on each side of it.
	got, ok = impl.RoundNet(hourglass())
	wantSpots(t, got.Spots[:3], ok, spots(0, 0, 0, y, x, x, x, y, x), "corners of a rounded hourglass")
	got, ok = impl.RoundNet(alike(tip(), spot(z, 1, -z)))
	wantTrue(t, ok, "RoundNet of a single place")
	for i, p := range got.Spots {
		wantNearSpot(t, p, spot(z, 1, -z), "RoundNet of a single place", i)
	}
}

// Promise 7: sums begin with +0, but what is added without a sum keeps the sign of a zero.
func TestRoundNetOfNegativeZeros(t *testing.T) {
	zero, minus := impl.Spot{}, spot(negZero, negZero, negZero)
	for _, c := range []struct {
		n impl.Net
		// The corners and the edges of these stay negative, and all others become +0.
		corners, edges []int
	}{
		{tip(), nil, nil}, {coin(), nil, nil}, {bow(), []int{2}, []int{0, 1, 2, 3, 4, 5}}, {tent(), nil, []int{0, 3, 5, 7}}, {gridOf(1, 1), nil, []int{0, 1, 2, 3}},
	} {
		n := alike(c.n, minus)
		got, ok := impl.RoundNet(n)
		want := repeated(zero, len(got.Spots))
		for _, i := range c.corners {
			want[i] = minus
		}
		for _, e := range c.edges {
			want[len(n.Spots)+len(n.Facets)+e] = minus
		}
		wantSpots(t, got.Spots, ok, want, "RoundNet of negative zeros", c.n)
	}
}

// Promise 7: two of the least numbers are added before they are halved, so that nothing is lost.
func TestRoundNetOfLeastNumbers(t *testing.T) {
	least := spot(leastNumber, -leastNumber, 0)
	for _, n := range []impl.Net{tip(), coin(), brick(), gridOf(1, 1)} {
		got, ok := impl.RoundNet(alike(n, least))
		wantTrue(t, ok && len(got.Spots) > len(n.Spots), "RoundNet of least numbers", n)
		wantSpots(t, got.Spots, ok, repeated(least, len(got.Spots)), "RoundNet of least numbers", n)
	}
}

// wheelWith is a wheel, of which the first tile has other corners.
func wheelWith(corners ...int64) impl.Net {
	n := wheel()
	n.Facets[0].Corners = corners
	return n
}

// pinched puts corners of a net at the place of others.
func pinched(n impl.Net, places map[int64]int64) impl.Net {
	n = copyNet(n)
	for _, f := range n.Facets {
		for k, corner := range f.Corners {
			if place, ok := places[corner]; ok {
				f.Corners[k] = place
			}
		}
	}
	n.Spots = n.Spots[:usedOnly(n.Facets)]
	return n
}

// Promise 7: rounder nets have at most 256 spots and 256 facets, too.
func TestRoundNetLimits(t *testing.T) {
	got, ok := impl.RoundNet(wheel())
	wantTrue(t, ok && len(got.Spots) == 256 && len(got.Facets) == 256, "RoundNet, up to both limits", len(got.Spots), len(got.Facets))
	got, ok = impl.RoundNet(gridOf(8, 7))
	wantTrue(t, ok && len(got.Spots) == 255 && len(got.Facets) == 224, "RoundNet of 56 tiles", len(got.Spots), len(got.Facets))
	apart := map[int64]int64{38: 2, 48: 20}
	got, ok = impl.RoundNet(pinched(wheel(), apart))
	wantTrue(t, ok && len(got.Spots) == 254 && len(got.Facets) == 256, "RoundNet, up to one limit", len(got.Spots), len(got.Facets))
	for _, n := range []impl.Net{
		// 257 spots, but 255 facets; and then 256 spots, but 257 facets.
		wheelWith(0, 1, 9), pinched(wheelWith(0, 1, 9, 8, 36), apart),
		gridOf(8, 8), halves(16, 8), gridOf(15, 15), fan(254),
	} {
		euler, ok := impl.EulerOf(n)
		wantTrue(t, ok, "EulerOf", n, euler)
		got, ok := impl.RoundNet(n)
		wantNoNet(t, got, ok, "RoundNet, too large", n)
	}
	twice, ok := impl.RoundNet(tip())
	wantTrue(t, ok, "RoundNet, once")
	twice, ok = impl.RoundNet(twice)
	wantTrue(t, ok && len(twice.Spots) == 50 && len(twice.Facets) == 48, "RoundNet, twice", len(twice.Spots), len(twice.Facets))
	twice, ok = impl.RoundNet(twice)
	wantTrue(t, ok && len(twice.Spots) == 194 && len(twice.Facets) == 192, "RoundNet, three times", len(twice.Spots), len(twice.Facets))
	twice, ok = impl.RoundNet(twice)
	wantNoNet(t, twice, ok, "RoundNet, four times")
}

// Promise 7: no net is made round where a spot would be too far.
func TestRoundNetTooFar(t *testing.T) {
	const m = mostNumber
	for _, n := range []impl.Net{
		// The middle of the facet, one of an edge, and both neighbours of the first corner together.
		net(spots(m, 0, 0, m, 0, 0, m, 0, 0), []int64{0, 1, 2}), net(spots(-m, 0, 0, m, 0, 0, m, 0, 0), []int64{0, 1, 2}),
		net(spots(0, -m, 0, 0, m/2, 0, 0, m, 0), []int64{0, 1, 2}), alike(tip(), spot(m, 0, 0)), alike(tip(), spot(0, 0, -m)), alike(bow(), spot(0, m, 0)),
	} {
		got, ok := impl.RoundNet(n)
		wantNoNet(t, got, ok, "RoundNet, too far", n)
	}
	for _, n := range []impl.Net{alike(tip(), spot(m/8, 0, -m/8)), alike(bow(), spot(0, m/4, 0))} {
		_, ok := impl.RoundNet(n)
		wantTrue(t, ok, "RoundNet, far", n)
	}
}

func borderCount(t *testing.T, n impl.Net) int {
	t.Helper()
	borders, ok := impl.BordersOfNet(n)
	wantTrue(t, ok, "BordersOfNet", n)
	return len(borders) / 2
}

func eulerOf(t *testing.T, n impl.Net) int64 {
	t.Helper()
	euler, ok := impl.EulerOf(n)
	wantTrue(t, ok, "EulerOf", n)
	return euler
}

// Promise 7: nets that are made round, smooth or turned round keep their Euler number.
func TestEulerNumbersStay(t *testing.T) {
	s := newSource()
	nets := someNets()
	for range 300 {
		if n := s.net(); len(n.Facets) > 0 {
			nets = append(nets, n)
		}
	}
	rounded := 0
	for _, n := range nets {
		eased, ok := impl.EaseNet(n, 0.5)
		wantTrue(t, ok && sameFacets(eased.Facets, n.Facets), "EaseNet", n)
		back, ok := impl.BackNet(n)
		wantTrue(t, ok, "BackNet", n)
		wantEqual(t, eulerOf(t, back), eulerOf(t, n), "EulerOf BackNet", n)
		wantEqual(t, borderCount(t, back), borderCount(t, n), "borders of BackNet", n)
		round, ok := impl.RoundNet(n)
		if !ok {
			continue
		}
		rounded++
		wantEqual(t, eulerOf(t, round), eulerOf(t, n), "EulerOf RoundNet", n)
		// Each border becomes two, and facets have four corners.
		wantEqual(t, borderCount(t, round), 2*borderCount(t, n), "borders of RoundNet", n)
		for _, f := range round.Facets {
			wantEqual(t, len(f.Corners), 4, "corners of RoundNet", n)
		}
		if again, ok := impl.RoundNet(round); ok {
			wantEqual(t, eulerOf(t, again), eulerOf(t, n), "EulerOf RoundNet, twice", n)
		}
	}
	wantTrue(t, rounded > 250, "rounded nets", rounded)
}

// Promise 7: flat nets stay flat, and a rounder net stays in the box around its spots, nearly.
func TestFlatNetsStayFlat(t *testing.T) {
	s := newSource()
	for range 300 {
		n := s.net()
		if len(n.Facets) == 0 {
			continue
		}
		for i := range n.Spots {
			n.Spots[i].Z = 0
		}
		round, _ := impl.RoundNet(n)
		eased, ok := impl.EaseNet(n, s.time())
		wantTrue(t, ok, "EaseNet", n)
		low, high, _ := impl.BoxOfSpots(n.Spots)
		for i, p := range round.Spots {
			wantTrue(t, p.Z == 0, "flat RoundNet", n, i)
			// Only corners with two facets go away from their places.
			if facets, _ := impl.FacetsAt(n, int64(min(i, len(n.Spots)-1))); len(facets) > 2 || i >= len(n.Spots) {
				wantTrue(t, p.X > low.X-1e-4 && p.X < high.X+1e-4 && p.Y > low.Y-1e-4 && p.Y < high.Y+1e-4, "RoundNet out of its box", n, i, p)
			}
		}
		for i, p := range eased.Spots {
			wantTrue(t, p.Z == 0, "flat EaseNet", n, i)
			wantTrue(t, p.X > low.X-1e-4 && p.X < high.X+1e-4 && p.Y > low.Y-1e-4 && p.Y < high.Y+1e-4, "EaseNet out of its box", n, i, p)
		}
	}
}

// Promise 7: smoother nets, to the last bit; borders stay where they are.
func TestEaseNet(t *testing.T) {
	for _, c := range []struct {
		n     impl.Net
		share float32
		want  []impl.Spot
	}{
		{tip(), 0, tip().Spots}, {tip(), negZero, tip().Spots}, {tip(), 1, spots(2, 2, 2, 0, 2, 2, 2, 0, 2, 2, 2, 0)}, {tip(), 0.5, spots(1, 1, 1, 3, 1, 1, 1, 3, 1, 1, 1, 3)},
		{tip(), 0.3, hexSpots("3f19999a/3f19999a/3f19999a", "40866666/3f19999a/3f19999a", "3f19999a/40866666/3f19999a", "3f19999a/3f19999a/40866666")},
		{coin(), 0.5, spots(0.75, 0.75, 0, 1.5, 0.75, 0, 0.75, 1.5, 0)}, {coin(), 1, spots(1.5, 1.5, 0, 0, 1.5, 0, 1.5, 0, 0)},
		{brick(), 0.3, hexSpots("3dccccce/3e4cccce/3e99999a", "3f666666/3e4cccce/3e99999a", "3dccccce/3fe66666/3e99999a", "3f666666/3fe66666/3e99999a",
			"3dccccce/3e4cccce/402ccccd", "3f666666/3e4cccce/402ccccd", "3dccccce/3fe66666/402ccccd", "3f666666/3fe66666/402ccccd")},
		// The top alone has no border.
		{tent(), 0.5, spots(0, 0, 0, 4, 0, 0, 4, 4, 0, 0, 4, 0, 2, 2, 4)}, {tent(), 1, spots(0, 0, 0, 4, 0, 0, 4, 4, 0, 0, 4, 0, 2, 2, 0)}, {tent(), 0.3, append(tent().Spots[:4], hexSpots("40000000/40000000/40b33333")...)},
		{bow(), 1, bow().Spots}, {gridOf(1, 1), 0.5, gridOf(1, 1).Spots}, {polygon(8), 1, polygon(8).Spots},
		{moved(gridOf(2, 2), 4, spot(9, 9, 9)), 0.25, append(append(gridOf(2, 2).Spots[:4], spot(7, 7, 6.75)), gridOf(2, 2).Spots[5:]...)},
		// Sums begin with +0, and +0 added to -0 is +0.
		{alike(tip(), spot(negZero, negZero, negZero)), 0, make([]impl.Spot, 4)}, {alike(bow(), spot(negZero, negZero, negZero)), 0, repeated(spot(negZero, negZero, negZero), 5)},
		{impl.Net{Spots: spots(negZero, negZero, negZero, -1, -1, -1, -1, -1, -1, -1, -1, -1), Facets: tip().Facets}, 0, spots(negZero, negZero, negZero, -1, -1, -1, -1, -1, -1, -1, -1, -1)},
		// What has a border is not too far, with any neighbours.
		{alike(bow(), spot(mostNumber, -mostNumber, 0)), 0.5, repeated(spot(mostNumber, -mostNumber, 0), 5)},
	} {
		got, ok := impl.EaseNet(c.n, c.share)
		wantNet(t, got, ok, impl.Net{Spots: c.want, Facets: c.n.Facets}, "EaseNet", c.n, c.share)
	}
	for _, share := range notTimes() {
		for _, n := range []impl.Net{tip(), bow()} {
			got, ok := impl.EaseNet(n, share)
			wantNoNet(t, got, ok, "EaseNet", n, share)
		}
	}
	for _, share := range []float32{0, 0.5, 1} {
		for _, p := range []impl.Spot{spot(mostNumber, 0, 0), spot(0, mostNumber, 0), spot(0, 0, -mostNumber)} {
			got, ok := impl.EaseNet(alike(tip(), p), share)
			wantNoNet(t, got, ok, "EaseNet, too far", p, share)
		}
	}
}

// Promise 7: all facets turned round, and once more.
func TestBackNet(t *testing.T) {
	for _, c := range []struct {
		n    impl.Net
		want []impl.Facet
	}{
		{brick(), facets([]int64{1, 3, 2, 0}, []int64{6, 7, 5, 4}, []int64{4, 5, 1, 0}, []int64{3, 7, 6, 2}, []int64{2, 6, 4, 0}, []int64{5, 7, 3, 1})},
		{bow(), facets([]int64{1, 2, 0}, []int64{2, 4, 3})}, {polygon(8), facets([]int64{7, 6, 5, 4, 3, 2, 1, 0})},
	} {
		got, ok := impl.BackNet(c.n)
		wantNet(t, got, ok, impl.Net{Spots: c.n.Spots, Facets: c.want}, "BackNet", c.n)
	}
	s := newSource()
	for range 100 {
		n := s.net()
		back, ok := impl.BackNet(n)
		again, isNet := impl.BackNet(back)
		wantEqual(t, ok, len(n.Facets) > 0, "BackNet", n)
		if ok {
			wantNet(t, again, isNet, n, "BackNet, twice")
		}
	}
}
