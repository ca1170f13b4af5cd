package tests

import (
	"math"
	"slices"
	"testing"

	"loop.example/g01328/impl"
)

// angle is the ring of the chapter's example.
func angle() []complex64 { return []complex64{0, 4, 4 + 4i} }

func facets(corners ...[]int64) []impl.Facet {
	var list []impl.Facet
	for _, ring := range corners {
		list = append(list, impl.Facet{Corners: ring})
	}
	return list
}

func net(list []impl.Spot, corners ...[]int64) impl.Net {
	return impl.Net{Spots: list, Facets: facets(corners...)}
}

// somewhere has as many spots as told, no three of which are on a line.
func somewhere(count int) []impl.Spot {
	list := make([]impl.Spot, count)
	for i := range list {
		x := float32(i)
		list[i] = spot(x, x*x, 0)
	}
	return list
}

// brick is a box with sides that are 1, 2 and 3 long.
func brick() impl.Net {
	return net(spots(0, 0, 0, 1, 0, 0, 0, 2, 0, 1, 2, 0, 0, 0, 3, 1, 0, 3, 0, 2, 3, 1, 2, 3),
		[]int64{0, 2, 3, 1}, []int64{4, 5, 7, 6}, []int64{0, 1, 5, 4}, []int64{2, 6, 7, 3}, []int64{0, 4, 6, 2}, []int64{1, 3, 7, 5})
}

// tip has 4 triangles, and no border.
func tip() impl.Net {
	return net(spots(0, 0, 0, 6, 0, 0, 0, 6, 0, 0, 0, 6), []int64{0, 2, 1}, []int64{0, 1, 3}, []int64{1, 2, 3}, []int64{2, 0, 3})
}

// tent has a border around its foot, and none at its top, the spot 4.
func tent() impl.Net {
	return net(spots(0, 0, 0, 4, 0, 0, 4, 4, 0, 0, 4, 0, 2, 2, 8), []int64{0, 1, 4}, []int64{1, 2, 4}, []int64{2, 3, 4}, []int64{3, 0, 4})
}

// coin has two sides, and no border.
func coin() impl.Net {
	return net(spots(0, 0, 0, 3, 0, 0, 0, 3, 0), []int64{0, 1, 2}, []int64{2, 1, 0})
}

// bow has two triangles that touch in the spot 2, at which there are 4 borders.
func bow() impl.Net {
	return net(spots(0, 0, 0, 0, 4, 0, 2, 2, 1, 4, 0, 0, 4, 4, 0), []int64{0, 2, 1}, []int64{3, 4, 2})
}

// hourglass has two tips that touch in the spot 0, which has no border.
func hourglass() impl.Net {
	n := tip()
	for _, p := range n.Spots[1:] {
		n.Spots = append(n.Spots, spot(-p.X, -p.Y, -p.Z))
	}
	n.Facets = append(n.Facets, facets([]int64{0, 4, 5}, []int64{0, 6, 4}, []int64{4, 6, 5}, []int64{5, 6, 0})...)
	return n
}

// gridOf has tiles, as a grid has, but any number of them.
func gridOf(m, n int64) impl.Net {
	var grid impl.Net
	for j := range n + 1 {
		for i := range m + 1 {
			grid.Spots = append(grid.Spots, spot(float32(i), float32(j), 0))
		}
	}
	for j := range n {
		for i := range m {
			p := j*(m+1) + i
			grid.Facets = append(grid.Facets, impl.Facet{Corners: []int64{p, p + 1, p + m + 2, p + m + 1}})
		}
	}
	return grid
}

// wheel has 8 times 8 tiles, the last ones beside the first ones: 64 spots, 64 facets, 128 edges, and no border.
func wheel() impl.Net {
	n := impl.Net{Spots: somewhere(64)}
	for j := range int64(8) {
		for i := range int64(8) {
			right, up := (i+1)%8, (j+1)%8
			n.Facets = append(n.Facets, impl.Facet{Corners: []int64{8*j + i, 8*j + right, 8*up + right, 8*up + i}})
		}
	}
	return n
}

// fan has count triangles around the spot 0.
func fan(count int) impl.Net {
	n := impl.Net{Spots: somewhere(count + 2)}
	for i := range int64(count) {
		n.Facets = append(n.Facets, impl.Facet{Corners: []int64{0, i + 1, i + 2}})
	}
	return n
}

// ladder has count triangles, each of which has a side in common with the next one.
func ladder(count int) impl.Net {
	n := impl.Net{Spots: somewhere(count + 2)}
	for i := range int64(count) {
		corners := []int64{i, i + 1, i + 2}
		if i%2 == 1 {
			slices.Reverse(corners)
		}
		n.Facets = append(n.Facets, impl.Facet{Corners: corners})
	}
	return n
}

// polygon has a single facet.
func polygon(count int) impl.Net {
	n := impl.Net{Spots: somewhere(count), Facets: make([]impl.Facet, 1)}
	for i := range int64(count) {
		n.Facets[0].Corners = append(n.Facets[0].Corners, i)
	}
	return n
}

// someNets are valid, with and without borders.
func someNets() []impl.Net {
	return []impl.Net{brick(), tip(), tent(), coin(), bow(), hourglass(), gridOf(1, 1), gridOf(3, 2), gridOf(8, 7), wheel(), fan(5), ladder(6), polygon(3), polygon(8)}
}

// moved puts another spot into a net.
func moved(n impl.Net, i int, to impl.Spot) impl.Net {
	n = copyNet(n)
	n.Spots[i] = to
	return n
}

func copyFacets(list []impl.Facet) []impl.Facet {
	copies := slices.Clone(list)
	for i, f := range copies {
		copies[i].Corners = slices.Clone(f.Corners)
	}
	return copies
}

func copyNet(n impl.Net) impl.Net {
	return impl.Net{Spots: slices.Clone(n.Spots), Facets: copyFacets(n.Facets)}
}

func sameFacets(a, b []impl.Facet) bool {
	return slices.EqualFunc(a, b, func(f, g impl.Facet) bool { return slices.Equal(f.Corners, g.Corners) })
}

func sameNets(a, b impl.Net) bool {
	return sameSpots(a.Spots, b.Spots) && sameFacets(a.Facets, b.Facets)
}

func wantNet(t *testing.T, got impl.Net, ok bool, want impl.Net, what string, args ...any) {
	t.Helper()
	if !ok || !sameNets(got, want) {
		t.Errorf("%s%v: got %v %v, want %v", what, args, got, ok, want)
	}
}

func wantNoNet(t *testing.T, got impl.Net, ok bool, what string, args ...any) {
	t.Helper()
	if ok || len(got.Spots) != 0 || len(got.Facets) != 0 {
		t.Errorf("%s%v: got %v %v, want none", what, args, got, ok)
	}
}

func wantIndices(t *testing.T, got []int64, ok bool, want []int64, what string, args ...any) {
	t.Helper()
	if !ok || !slices.Equal(got, want) {
		t.Errorf("%s%v: got %v %v, want %v", what, args, got, ok, want)
	}
}

// notRings are too short, too long, or not finite.
func notRings() [][]complex64 {
	list := [][]complex64{nil, {}, {1}, line(impl.MaxRing + 1), line(1000)}
	for _, point := range wildPoints() {
		list = append(list, []complex64{point, 1}, []complex64{0, point}, []complex64{0, point, 1})
		last := line(impl.MaxRing)
		last[impl.MaxRing-1] = point
		list = append(list, last)
	}
	return list
}

// notMasks have another length, a sum that is too far from 1, or numbers that are not finite.
func notMasks() [][]float32 {
	list := [][]float32{
		nil, {}, {0.5, 0.5}, {1, 0}, {0.25, 0.25, 0.25, 0.25}, {1, 0, 0, 0}, repeated[float32](1.0/6, 6), {1, 0, 0, 0, 0, 0, 0}, append([]float32{1}, make([]float32, 256)...),
		{0}, {negZero}, {2}, {-1}, {0.99}, {1.01}, {mostNumber}, {0, 0, 0}, {0.5, 0.25, 0.125}, {0.5, 0.5, 0.5}, {1, 1, 1, -1, 0},
		{1, mostNumber, mostNumber}, {mostNumber, mostNumber, -mostNumber}, {mostNumber, -mostNumber, 0}, {1, mostNumber, -mostNumber},
	}
	for _, x := range wildNumbers() {
		list = append(list, []float32{x}, []float32{x, 1, 0}, []float32{0, 1, x}, []float32{0, 0, 1, x, 0}, []float32{x, -x, 1})
	}
	return list
}

// withCorners has a single facet, and as many spots as told.
func withCorners(corners []int64, count int) impl.Net {
	return impl.Net{Spots: somewhere(count), Facets: facets(corners)}
}

// notNets have too few or too many spots, facets or corners, wrong ones, or sides that are there twice.
func notNets() []impl.Net {
	triangle := []int64{0, 1, 2}
	list := []impl.Net{
		{}, {Spots: somewhere(3)}, {Spots: somewhere(3), Facets: []impl.Facet{}}, {Facets: facets(triangle)}, {Spots: somewhere(3), Facets: make([]impl.Facet, 1)},
		net(somewhere(4), triangle, []int64{3, 0}), net(somewhere(4), triangle, []int64{3}), withCorners([]int64{}, 3), withCorners([]int64{0}, 1), withCorners([]int64{0, 1}, 2), withCorners([]int64{0, 1}, 3), polygon(9), polygon(1000),
		// A corner is there twice, or is no index.
		withCorners([]int64{0, 1, 2, 0}, 3), withCorners([]int64{0, 1, 1, 2}, 3), withCorners([]int64{0, 1, 2, 1}, 3), withCorners([]int64{0, 0, 0}, 3),
		withCorners([]int64{0, 1, 3}, 3), withCorners([]int64{0, 1, 2, 3}, 3), withCorners([]int64{-1, 0, 1, 2}, 3), withCorners([]int64{0, 1, 2, math.MaxInt64}, 3),
		withCorners([]int64{0, 1, 2, math.MinInt64}, 3), withCorners([]int64{0, 1, 2, 1 << 32}, 3), withCorners([]int64{0, 1, 2, 1<<32 + 3}, 4),
		// A spot is no corner.
		withCorners(triangle, 4), withCorners([]int64{1, 2, 3}, 4), withCorners([]int64{0, 1, 3}, 4),
		// A side is there twice: in the same facet again, in another one, and from the last corner to the first one.
		net(somewhere(3), triangle, triangle), net(somewhere(3), triangle, []int64{1, 2, 0}), net(somewhere(4), triangle, []int64{0, 1, 3}),
		net(somewhere(4), triangle, []int64{3, 2, 0}), net(somewhere(4), triangle, []int64{3, 1, 2}), net(somewhere(4), []int64{0, 1, 2, 3}, []int64{3, 0, 2}),
		net(somewhere(4), triangle, []int64{1, 0, 3}, []int64{0, 1, 3}),
		// A facet behind valid ones is wrong.
		net(somewhere(3), triangle, []int64{}), net(somewhere(3), triangle, []int64{2, 1}), net(somewhere(3), triangle, []int64{2, 1, 3}), net(somewhere(3), triangle, []int64{2, 1, 0, 2}),
		fan(impl.MaxSpots - 1), ladder(impl.MaxSpots - 1), gridOf(1, 128), gridOf(17, 16), gridOf(100, 100),
	}
	for _, p := range notSpots() {
		for i := range 5 {
			list = append(list, moved(tent(), i, p))
		}
	}
	return list
}

// ofRings has the results of all functions that take a ring.
func ofRings(list []complex64, closed bool, x float32, n int64, sharp []int64, even, odd []float32) outcome {
	var o outcome
	o.single = append(o.single, truth(impl.IsRing(list)))
	o.addPoints(impl.CutCorners(list, closed, x))
	o.addPoints(impl.CutTimes(list, closed, x, n))
	o.addPoints(impl.FourPoints(list, closed, x))
	o.addPoints(impl.CubicOnce(list, closed, sharp))
	o.addPoint(impl.LimitPoint(list, closed, n))
	o.addPoint(impl.LimitSlope(list, closed, n))
	o.addPoints(impl.MaskOnce(list, even, odd))
	o.addNumber(impl.RoughOfRing(list, closed))
	return o
}

// ofNets has those of all that take a net.
func ofNets(n impl.Net, share float32, i int64) outcome {
	var o outcome
	o.single = append(o.single, truth(impl.ValidNet(n)))
	o.addIndices(impl.EdgesOfNet(n))
	o.addIndices(impl.BordersOfNet(n))
	euler, ok := impl.EulerOf(n)
	o.addNumber(float32(euler), ok)
	o.addIndices(impl.FacetsAt(n, i))
	o.addSpot(impl.FacetPoint(n, i))
	o.addSpots(impl.FacetShared(n, i))
	o.addNet(impl.RoundNet(n))
	o.addNet(impl.EaseNet(n, share))
	o.addNet(impl.BackNet(n))
	o.addNumber(impl.VolumeOfNet(n))
	o.addNumber(impl.AreaOfNet(n))
	return o
}

func (o *outcome) addNet(n impl.Net, ok bool) {
	o.addSpots(n.Spots, ok)
	o.single = append(o.single, float32(len(n.Facets)))
	for _, f := range n.Facets {
		o.addIndices(f.Corners, ok)
	}
}

// ring has at times too few points, or too many to be cut.
func (s *source) ring() (list []complex64, closed bool) {
	count := s.below(16)
	if s.below(8) == 0 {
		count += 56
	}
	list = s.points(count)
	return list, s.below(2) == 0
}

// mask has a sum of about 1, mostly.
func (s *source) mask() []float32 {
	mask := s.numbers(1 + 2*s.below(3))
	if s.below(8) > 0 {
		rest := float32(1)
		for _, x := range mask[1:] {
			rest -= x
		}
		mask[0] = rest
	}
	return mask
}

// sharp has some indices of count points, not in order now and then.
func (s *source) sharp(count int) []int64 {
	var sharp []int64
	for i := range count {
		if s.below(4) == 0 {
			sharp = append(sharp, int64(i))
		}
	}
	if s.below(16) == 0 {
		sharp = append(sharp, int64(s.below(count+1)))
	}
	return sharp
}

// facet has too few corners now and then.
func (s *source) facet(count int) impl.Facet {
	var f impl.Facet
	for range 3 + s.below(5) {
		if corner := int64(s.below(count)); !slices.Contains(f.Corners, corner) {
			f.Corners = append(f.Corners, corner)
		}
	}
	return f
}

func (s *source) facetsOfSolids() []impl.Facet {
	switch s.below(4) {
	case 0:
		return brick().Facets
	case 1:
		m := 1 + s.below(4)
		return gridOf(int64(m), int64(1+s.below(4))).Facets
	case 2:
		return facets([]int64{0, 1, 2}, []int64{0, 3, 1}, []int64{1, 3, 2}, []int64{0, 2, 3})
	}
	return nil
}

// net has facets of a solid, of which some are left out, and others at any corners, as far as no side is there twice.
func (s *source) net() impl.Net {
	draft := s.facetsOfSolids()
	count := 3 + s.below(12)
	if s.below(3) == 0 {
		draft = slices.DeleteFunc(draft, func(impl.Facet) bool { return s.below(6) == 0 })
	}
	for range s.below(10) {
		draft = append(draft, s.facet(count))
	}
	n := impl.Net{Facets: withoutTwice(draft)}
	return impl.Net{Facets: n.Facets, Spots: s.spots(usedOnly(n.Facets))}
}

// withoutTwice leaves out facets that are too small, or have a side that is there before.
func withoutTwice(draft []impl.Facet) []impl.Facet {
	there := map[[2]int64]bool{}
	var taken []impl.Facet
	for _, f := range draft {
		sides := sidesOf(f)
		if len(f.Corners) < 3 || slices.ContainsFunc(sides, func(side [2]int64) bool { return there[side] }) {
			continue
		}
		for _, side := range sides {
			there[side] = true
		}
		taken = append(taken, f)
	}
	return taken
}

func sidesOf(f impl.Facet) [][2]int64 {
	var sides [][2]int64
	for k, corner := range f.Corners {
		sides = append(sides, [2]int64{corner, f.Corners[(k+1)%len(f.Corners)]})
	}
	return sides
}

// usedOnly gives new indices to corners, so that none is missing, and tells how many there are.
func usedOnly(list []impl.Facet) int {
	var used []int64
	for _, f := range list {
		used = append(used, f.Corners...)
	}
	slices.Sort(used)
	used = slices.Compact(used)
	for _, f := range list {
		for k, corner := range f.Corners {
			f.Corners[k] = int64(slices.Index(used, corner))
		}
	}
	return len(used)
}
