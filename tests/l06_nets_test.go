package tests

import (
	"math"
	"slices"
	"testing"

	"loop.example/g01328/impl"
)

// halves has a grid's tiles, each of them in two triangles.
func halves(m, n int64) impl.Net {
	grid := gridOf(m, n)
	var list []impl.Facet
	for _, f := range grid.Facets {
		c := f.Corners
		list = append(list, facets([]int64{c[0], c[1], c[2]}, []int64{c[2], c[3], c[0]})...)
	}
	return impl.Net{Spots: grid.Spots, Facets: list}
}

// Promise 7: nets have 3 to 256 spots, 1 to 256 facets of 3 to 8 corners, and no side twice.
func TestValidNet(t *testing.T) {
	for count := 3; count <= 8; count++ {
		wantTrue(t, impl.ValidNet(polygon(count)), "ValidNet of one facet", count)
	}
	for _, n := range append(someNets(),
		gridOf(15, 15), fan(254), ladder(254), halves(16, 8), gridOf(1, 127), gridOf(127, 1),
		// All spots may be the same, and as far away as numbers are.
		net(repeated(spot(negZero, 0, mostNumber), 3), []int64{2, 0, 1}), net(somewhere(4), []int64{0, 1, 2, 3}, []int64{0, 3, 2, 1}),
	) {
		wantTrue(t, impl.ValidNet(n), "ValidNet", n)
	}
	wantEqual(t, [...]int{len(fan(254).Spots), len(gridOf(15, 15).Spots), len(halves(16, 8).Facets)}, [...]int{256, 256, 256}, "sizes of nets")
	for _, n := range notNets() {
		wantEqual(t, impl.ValidNet(n), false, "ValidNet", n)
	}
	// One facet more, at a border, than there may be.
	more := halves(16, 8)
	more.Facets = append(more.Facets, impl.Facet{Corners: []int64{1, 0, int64(len(more.Spots))}})
	more.Spots = append(more.Spots, spot(0, -1, 0))
	wantEqual(t, impl.ValidNet(more), false, "ValidNet of 257 facets")
	more.Facets = more.Facets[1:]
	wantTrue(t, impl.ValidNet(more), "ValidNet of 256 facets")
}

// Promise 7: there is nothing of nets that are not valid.
func TestNothingOfOtherNets(t *testing.T) {
	for _, n := range notNets() {
		for i := range int64(3) {
			wantNothing(t, ofNets(n, 0, i), "net that is not valid", n, i)
			wantNothing(t, ofNets(n, 0.5, i), "net that is not valid", n, i)
		}
	}
}

// Promise 7: nets are the same if all of their spots and corners are, valid or not.
func TestSameNet(t *testing.T) {
	all := append(someNets(), notNets()...)
	all = append(all, moved(tip(), 2, spot(0, 6, negZero)), moved(tip(), 3, spot(0, 0, 7)), net(tip().Spots, []int64{0, 1, 2}), impl.Net{Spots: tip().Spots}, impl.Net{Facets: tip().Facets},
		net(tip().Spots, []int64{0, 2, 1}, []int64{0, 1, 3}, []int64{1, 2, 3}, []int64{0, 3, 2}),
		net(tip().Spots, []int64{0, 1, 3}, []int64{0, 2, 1}, []int64{1, 2, 3}, []int64{2, 0, 3}), net(nil, []int64{0}), net(nil, []int64{}), net(nil, []int64{}, []int64{}))
	for _, a := range all {
		for _, b := range all {
			wantEqual(t, impl.SameNet(a, copyNet(b)), sameNets(a, b), "SameNet", a, b)
		}
	}
	wantTrue(t, impl.SameNet(impl.Net{}, impl.Net{Spots: []impl.Spot{}, Facets: []impl.Facet{}}), "SameNet of nothing")
	wantTrue(t, impl.SameNet(net(nil, nil), net(nil, []int64{})), "SameNet without corners")
}

// Promise 7, and the chapter's example: boxes, to the last bit.
func TestBoxNet(t *testing.T) {
	for _, c := range [][3]float32{{1, 2, 3}, {0, 0, 0}, {negZero, -1, leastNumber}, {mostNumber, -mostNumber, 7}} {
		x, y, z := c[0], c[1], c[2]
		want := impl.Net{Facets: brick().Facets, Spots: spots(0, 0, 0, x, 0, 0, 0, y, 0, x, y, 0, 0, 0, z, x, 0, z, 0, y, z, x, y, z)}
		got, ok := impl.BoxNet(x, y, z)
		wantNet(t, got, ok, want, "BoxNet", c)
	}
	for _, x := range wildNumbers() {
		for _, c := range [][3]float32{{x, 1, 1}, {1, x, 1}, {1, 1, x}} {
			got, ok := impl.BoxNet(c[0], c[1], c[2])
			wantNoNet(t, got, ok, "BoxNet", c)
		}
	}
}

// Promise 7: grids have 1 to 8 tiles in both directions.
func TestGridNet(t *testing.T) {
	got, ok := impl.GridNet(2, 1)
	wantNet(t, got, ok, net(spots(0, 0, 0, 1, 0, 0, 2, 0, 0, 0, 1, 0, 1, 1, 0, 2, 1, 0), []int64{0, 1, 4, 3}, []int64{1, 2, 5, 4}), "GridNet", 2, 1)
	got, ok = impl.GridNet(1, 2)
	wantNet(t, got, ok, net(spots(0, 0, 0, 1, 0, 0, 0, 1, 0, 1, 1, 0, 0, 2, 0, 1, 2, 0), []int64{0, 1, 3, 2}, []int64{2, 3, 5, 4}), "GridNet", 1, 2)
	for m := int64(1); m <= 8; m++ {
		for n := int64(1); n <= 8; n++ {
			got, ok := impl.GridNet(m, n)
			wantNet(t, got, ok, gridOf(m, n), "GridNet", m, n)
		}
	}
	for _, size := range []int64{0, 9, -1, 1 << 32, 1<<32 + 1, math.MinInt64, math.MaxInt64} {
		for _, other := range []int64{1, 8, size} {
			got, ok := impl.GridNet(size, other)
			wantNoNet(t, got, ok, "GridNet", size, other)
			got, ok = impl.GridNet(other, size)
			wantNoNet(t, got, ok, "GridNet", other, size)
		}
	}
}

// Promise 7, and the chapter's examples: edges, those with just one side, and Euler numbers.
func TestEdgesOfNet(t *testing.T) {
	for _, c := range []struct {
		n              impl.Net
		edges, borders []int64
		euler          int64
	}{
		{brick(), []int64{0, 2, 2, 3, 3, 1, 1, 0, 4, 5, 5, 7, 7, 6, 6, 4, 1, 5, 4, 0, 2, 6, 7, 3}, nil, 2},
		{tip(), []int64{0, 2, 2, 1, 1, 0, 1, 3, 3, 0, 2, 3}, nil, 2}, {coin(), []int64{0, 1, 1, 2, 2, 0}, nil, 2},
		{tent(), []int64{0, 1, 1, 4, 4, 0, 1, 2, 2, 4, 2, 3, 3, 4, 3, 0}, []int64{0, 1, 1, 2, 2, 3, 3, 0}, 1},
		{bow(), []int64{0, 2, 2, 1, 1, 0, 3, 4, 4, 2, 2, 3}, []int64{0, 2, 2, 1, 1, 0, 3, 4, 4, 2, 2, 3}, 1},
		{hourglass(), []int64{0, 2, 2, 1, 1, 0, 1, 3, 3, 0, 2, 3, 0, 4, 4, 5, 5, 0, 0, 6, 6, 4, 6, 5}, nil, 3},
		{gridOf(1, 1), []int64{0, 1, 1, 3, 3, 2, 2, 0}, []int64{0, 1, 1, 3, 3, 2, 2, 0}, 1},
		{gridOf(2, 1), []int64{0, 1, 1, 4, 4, 3, 3, 0, 1, 2, 2, 5, 5, 4}, []int64{0, 1, 4, 3, 3, 0, 1, 2, 2, 5, 5, 4}, 1},
		{polygon(3), []int64{0, 1, 1, 2, 2, 0}, []int64{0, 1, 1, 2, 2, 0}, 1},
		// Two triangles that touch nowhere, and a coin of which one side is cut.
		{net(somewhere(6), []int64{5, 4, 3}, []int64{0, 1, 2}), []int64{5, 4, 4, 3, 3, 5, 0, 1, 1, 2, 2, 0}, []int64{5, 4, 4, 3, 3, 5, 0, 1, 1, 2, 2, 0}, 2},
		{net(somewhere(4), []int64{0, 1, 2}, []int64{2, 1, 3}, []int64{3, 1, 0}), []int64{0, 1, 1, 2, 2, 0, 1, 3, 3, 2, 0, 3}, []int64{2, 0, 3, 2, 0, 3}, 1},
	} {
		got, ok := impl.EdgesOfNet(c.n)
		wantIndices(t, got, ok, c.edges, "EdgesOfNet", c.n)
		got, ok = impl.BordersOfNet(c.n)
		wantIndices(t, got, ok, c.borders, "BordersOfNet", c.n)
		euler, ok := impl.EulerOf(c.n)
		wantPair(t, euler, ok, c.euler, true, "EulerOf", c.n)
	}
	for i, want := range []int64{2, 2, 1, 2, 1, 3, 1, 1, 1, 0, 1, 1, 1, 1} {
		euler, ok := impl.EulerOf(someNets()[i])
		wantPair(t, euler, ok, want, true, "EulerOf", i)
	}
}

// Promise 7: each side belongs to one edge, and borders have no opposite side.
func TestSidesOfNets(t *testing.T) {
	s := newSource()
	for range 500 {
		n := s.net()
		edges, ok := impl.EdgesOfNet(n)
		borders, hasBorders := impl.BordersOfNet(n)
		wantEqual(t, ok, len(n.Facets) > 0, "EdgesOfNet", n)
		wantEqual(t, hasBorders, ok, "BordersOfNet", n)
		there := map[[2]int64]bool{}
		for _, f := range n.Facets {
			for _, side := range sidesOf(f) {
				there[side] = true
			}
		}
		wantEqual(t, len(there), len(edges)-len(borders)/2, "sides", n)
		var rims []int64
		for edge := range slices.Chunk(edges, 2) {
			wantTrue(t, there[[2]int64(edge)], "side of an edge", n, edge)
			delete(there, [2]int64(edge))
			back := [2]int64{edge[1], edge[0]}
			if !there[back] {
				rims = append(rims, edge...)
			}
			delete(there, back)
		}
		wantEqual(t, len(there), 0, "sides without edges", n)
		wantTrue(t, slices.Equal(rims, borders), "BordersOfNet", n, borders, rims)
	}
}

// Promise 7: the facets of each corner, in order.
func TestFacetsAt(t *testing.T) {
	for _, c := range []struct {
		n    impl.Net
		want [][]int64
	}{
		{brick(), [][]int64{{0, 2, 4}, {0, 2, 5}, {0, 3, 4}, {0, 3, 5}, {1, 2, 4}, {1, 2, 5}, {1, 3, 4}, {1, 3, 5}}},
		{tent(), [][]int64{{0, 3}, {0, 1}, {1, 2}, {2, 3}, {0, 1, 2, 3}}}, {coin(), [][]int64{{0, 1}, {0, 1}, {0, 1}}},
		{bow(), [][]int64{{0}, {0}, {0, 1}, {1}, {1}}}, {hourglass(), [][]int64{{0, 1, 3, 4, 5, 7}, {0, 1, 2}, {0, 2, 3}, {1, 2, 3}, {4, 5, 6}, {4, 6, 7}, {5, 6, 7}}},
	} {
		for i, want := range c.want {
			got, ok := impl.FacetsAt(c.n, int64(i))
			wantIndices(t, got, ok, want, "FacetsAt", c.n, i)
		}
		for _, i := range []int64{-1, int64(len(c.n.Spots)), 1 << 32, math.MinInt64, math.MaxInt64} {
			got, ok := impl.FacetsAt(c.n, i)
			wantNoList(t, got, ok, "FacetsAt", c.n, i)
		}
	}
	got, ok := impl.FacetsAt(fan(254), 0)
	wantTrue(t, ok && len(got) == 254 && slices.IsSorted(got), "FacetsAt the middle of a fan", got)
}

// Promise 7: middles of facets, to the last bit.
func TestFacetPoint(t *testing.T) {
	for _, c := range []struct {
		n    impl.Net
		want []impl.Spot
	}{
		{brick(), spots(0.5, 1, 0, 0.5, 1, 3, 0.5, 0, 1.5, 0.5, 2, 1.5, 0, 1, 1.5, 1, 1, 1.5)}, {tip(), spots(2, 2, 0, 2, 0, 2, 2, 2, 2, 0, 2, 2)},
		{tent(), spots(2, 2.0/3, 8.0/3, 10.0/3, 2, 8.0/3, 2, 10.0/3, 8.0/3, 2.0/3, 2, 8.0/3)}, {polygon(8), spots(3.5, 17.5, 0)},
		// Sums begin with +0.
		{net(repeated(spot(negZero, negZero, negZero), 3), []int64{0, 1, 2}), spots(0, 0, 0)},
		// They go in the order of corners: none of these becomes too great on the way.
		{net(spots(-mostNumber, 0, 0, mostNumber, 0, 0, mostNumber, 0, 0), []int64{0, 1, 2}), spots(mostNumber/3, 0, 0)},
		{net(spots(-mostNumber, 0, 0, mostNumber, 0, 0, mostNumber, 0, 0), []int64{1, 0, 2}), spots(mostNumber/3, 0, 0)},
	} {
		for f, want := range c.want {
			got, ok := impl.FacetPoint(c.n, int64(f))
			wantSpot(t, got, ok, want, "FacetPoint", c.n, f)
		}
		for _, f := range []int64{-1, int64(len(c.n.Facets)), 1 << 32, math.MinInt64, math.MaxInt64} {
			got, ok := impl.FacetPoint(c.n, f)
			wantNoSpot(t, got, ok, "FacetPoint", c.n, f)
		}
	}
	far := net(spots(0, -mostNumber, 0, 0, mostNumber, 0, 0, mostNumber, 0), []int64{1, 2, 0})
	got, ok := impl.FacetPoint(far, 0)
	wantNoSpot(t, got, ok, "FacetPoint, too far", far)
	// A facet that is too far does not matter to another one.
	two := net(spots(0, 0, 0, 1, 0, 0, 0, 3, 0, mostNumber, 0, 0, mostNumber, 0, 0), []int64{0, 1, 2}, []int64{0, 3, 4})
	got, ok = impl.FacetPoint(two, 1)
	wantNoSpot(t, got, ok, "FacetPoint, too far", two)
	got, ok = impl.FacetPoint(two, 0)
	wantSpot(t, got, ok, spot(1.0/3, 1, 0), "FacetPoint", two)
}
