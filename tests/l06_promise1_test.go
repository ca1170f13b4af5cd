package tests

import (
	"math"
	"math/rand"
	"slices"
	"testing"

	"loop.example/g01328/impl"
)

// maskArguments are what all functions of chapter 6 take.
type maskArguments struct {
	ring, other []complex64
	closed      bool
	sharp       []int64
	even, odd   []float32
	net, second impl.Net
	x, y, z     float32
	m, n        int64
}

// ofMasks has the results of all functions of chapter 6.
func ofMasks(a maskArguments) []outcome {
	var o outcome
	o.single = append(o.single, truth(impl.IsMask(a.even)), truth(impl.IsMask(a.odd)), truth(impl.SameNet(a.net, a.second)))
	o.addNet(impl.BoxNet(a.x, a.y, a.z))
	o.addNet(impl.GridNet(a.m, a.n))
	list := []outcome{o}
	for _, ring := range [][]complex64{a.ring, a.other} {
		list = append(list, ofRings(ring, a.closed, a.x, a.m, a.sharp, a.even, a.odd), ofRings(ring, !a.closed, a.y, a.n, nil, a.odd, a.even))
	}
	for _, n := range []impl.Net{a.net, a.second} {
		list = append(list, ofNets(n, a.z, a.m))
	}
	return list
}

func (a maskArguments) copy() maskArguments {
	a.ring, a.other, a.sharp = slices.Clone(a.ring), slices.Clone(a.other), slices.Clone(a.sharp)
	a.even, a.odd = slices.Clone(a.even), slices.Clone(a.odd)
	a.net, a.second = copyNet(a.net), copyNet(a.second)
	return a
}

// roomy returns equal arguments, of which each list has room behind it, and all that is in memory.
func (a maskArguments) roomy() (maskArguments, lists) {
	var memory lists
	a = a.copy()
	a.ring, a.other = withRoom(a.ring, 71, &memory.points), withRoom(a.other, 72, &memory.points)
	a.even, a.odd = withRoom(a.even, 81, &memory.numbers), withRoom(a.odd, 82, &memory.numbers)
	a.sharp = withRoom(a.sharp, 61, &memory.indices)
	for _, n := range []*impl.Net{&a.net, &a.second} {
		n.Spots = withRoom(n.Spots, spot(91, 92, 93), &memory.spots)
		for f := range n.Facets {
			n.Facets[f].Corners = withRoom(n.Facets[f].Corners, 62, &memory.indices)
		}
	}
	return a, memory
}

func (s *source) maskArguments() maskArguments {
	a := maskArguments{even: s.mask(), odd: s.mask(), x: s.time() / 2, y: s.time() / 2, z: s.time(), m: int64(s.below(10)), n: int64(s.below(10))}
	a.ring, a.closed = s.ring()
	a.other = s.points(2 + s.below(3))
	a.sharp = s.sharp(len(a.ring))
	a.net = s.net()
	a.second = copyNet(a.net)
	if s.below(2) == 0 {
		a.second = s.net()
	}
	return a
}

// Promise 1: nothing is modified, results are new, and equal arguments have equal results.
func TestMasksArePure(t *testing.T) {
	s := newSource()
	for range 300 {
		wantPure(t, s.maskArguments(), ofMasks)
	}
}

// Promise 1: the list of facets stays as it is, with all that is behind it.
func TestFacetsStay(t *testing.T) {
	for _, n := range someNets() {
		all := append(copyFacets(n.Facets), facets([]int64{61, 62, 63}, []int64{64, 65, 66})...)
		old := copyFacets(all)
		n.Facets = all[:len(n.Facets)]
		ofNets(n, 0.5, 1)
		impl.SameNet(n, n)
		wantTrue(t, sameFacets(all, old), "facets not modified", n)
	}
}

// Promise 1: each call returns a list of facets of its own.
func TestFacetsAreNew(t *testing.T) {
	n := brick()
	for i, netOf := range []func() (impl.Net, bool){
		func() (impl.Net, bool) { return impl.BoxNet(1, 2, 3) },
		func() (impl.Net, bool) { return impl.GridNet(2, 3) },
		func() (impl.Net, bool) { return impl.RoundNet(n) },
		func() (impl.Net, bool) { return impl.EaseNet(n, 0.5) },
		func() (impl.Net, bool) { return impl.EaseNet(n, 0) },
		func() (impl.Net, bool) { return impl.BackNet(n) },
	} {
		first, _ := netOf()
		second, ok := netOf()
		old := copyNet(second)
		wantTrue(t, ok && len(first.Facets) > 1, "nets", i)
		for f := range first.Facets {
			slices.Reverse(first.Facets[f].Corners)
		}
		for f := range first.Facets[:cap(first.Facets)] {
			first.Facets[:cap(first.Facets)][f] = impl.Facet{}
		}
		wantTrue(t, sameNets(second, old), "facets of their own", i)
		wantTrue(t, sameNets(n, brick()), "net not modified", i)
	}
}

func wildCorners(r *rand.Rand, count int) []int64 {
	few := []int64{0, 1, 2, 3, 4, 5, 6, 7, 8, -1, 255, 256, 1 << 32, math.MaxInt64, math.MinInt64}
	corners := make([]int64, count)
	for i := range corners {
		corners[i] = few[r.Intn(6+r.Intn(len(few)-5))]
	}
	return corners
}

// wildNet is seldom valid.
func wildNet(r *rand.Rand) impl.Net {
	if r.Intn(2) == 0 {
		n := copyNet(someNets()[r.Intn(8)])
		n.Spots = wildSpots(r, len(n.Spots))
		return n
	}
	n := impl.Net{Spots: wildSpots(r, r.Intn(9))}
	for range r.Intn(5) {
		n.Facets = append(n.Facets, impl.Facet{Corners: wildCorners(r, r.Intn(6))})
	}
	return n
}

// wildMaskArguments are seldom valid.
func wildMaskArguments(r *rand.Rand) maskArguments {
	counts := []int64{0, 1, 2, 3, 6, 7, 8, 9, 128, 256, -1, math.MaxInt64, math.MinInt64, 1 << 31, 1<<32 + 1}
	count := func() int { return []int{0, 1, 2, 3, 4, 5, 64, 65, 128, 129}[r.Intn(10)] }
	a := maskArguments{x: wildNumber(r), y: wildNumber(r), z: wildNumber(r), m: counts[r.Intn(len(counts))], n: counts[r.Intn(len(counts))], closed: r.Intn(2) == 0}
	a.ring, a.other = wildPointList(r, count()), wildPointList(r, 2+r.Intn(3))
	a.sharp = wildCorners(r, r.Intn(4))
	a.even, a.odd = wildList(r, r.Intn(7)), []float32{0, 1, 0}
	if r.Intn(2) == 0 {
		x := wildNumber(r)
		a.even = []float32{x, -x, 1}
		a.x, a.z = r.Float32()/2, r.Float32()
	}
	a.net, a.second = wildNet(r), wildNet(r)
	return a
}

// otherwise has other not-a-numbers in place of those that there are.
func (a maskArguments) otherwise() maskArguments {
	a = a.copy()
	for _, list := range [][]complex64{a.ring, a.other} {
		for i := range list {
			list[i] = otherComplex(list[i])
		}
	}
	for _, list := range [][]float32{a.even, a.odd} {
		for i := range list {
			list[i] = otherwise(list[i])
		}
	}
	for _, list := range [][]impl.Spot{a.net.Spots, a.second.Spots} {
		for i := range list {
			list[i] = otherSpot(list[i])
		}
	}
	a.x, a.y, a.z = otherwise(a.x), otherwise(a.y), otherwise(a.z)
	return a
}

// Promise 1: functions return for any numbers, not-a-numbers are one value, and nothing that is returned is not finite.
func TestMasksAreTotal(t *testing.T) {
	r := fixedRandom()
	for range 3000 {
		a := wildMaskArguments(r)
		want := ofMasks(a)
		wantTrue(t, sameOutcomes(ofMasks(a.otherwise()), want), "equal arguments", a)
		for _, o := range want {
			wantFinite(t, o, "finite results of", a)
			for _, list := range o.points {
				wantTrue(t, len(list) == 0 || impl.IsRing(list), "rings of", a)
			}
		}
	}
}

// Promise 1: nil and an empty list are the same value, and functions that fail return nothing.
func TestNoListsOfMasks(t *testing.T) {
	nothing := impl.Net{Spots: []impl.Spot{}, Facets: []impl.Facet{}}
	empty := maskArguments{ring: []complex64{}, other: []complex64{}, sharp: []int64{}, even: []float32{}, odd: []float32{}, net: nothing, second: nothing}
	wantTrue(t, sameOutcomes(ofMasks(empty), ofMasks(maskArguments{})), "nil and empty lists")
	for _, o := range ofMasks(maskArguments{})[1:] {
		wantNothing(t, o, "masks of nothing")
	}
	for _, sharp := range [][]int64{nil, {}} {
		got, ok := impl.CubicOnce([]complex64{0, 4}, false, sharp)
		wantPoints(t, got, ok, []complex64{0, 2, 4}, "CubicOnce with nothing sharp")
	}
}
