package tests

import (
	"math"
	"testing"

	"loop.example/g01328/impl"
)

// Promise 7: any number of workers finds the same middles, to the last bit.
func TestFacetShared(t *testing.T) {
	s := newSource()
	nets := append(someNets(), halves(16, 8), gridOf(15, 15), fan(254))
	for range 40 {
		nets = append(nets, s.net())
	}
	for _, n := range nets {
		want := make([]impl.Spot, len(n.Facets))
		for f := range n.Facets {
			want[f], _ = impl.FacetPoint(n, int64(f))
		}
		for workers := int64(1); workers <= impl.MaxWorkers; workers++ {
			got, ok := impl.FacetShared(n, workers)
			if len(n.Facets) == 0 {
				wantNoList(t, got, ok, "FacetShared of nothing", workers)
				continue
			}
			wantSpots(t, got, ok, want, "FacetShared", n, workers)
		}
	}
	got, ok := impl.FacetShared(brick(), 3)
	wantSpots(t, got, ok, spots(0.5, 1, 0, 0.5, 1, 3, 0.5, 0, 1.5, 0.5, 2, 1.5, 0, 1, 1.5, 1, 1, 1.5), "FacetShared")
}

// Promise 7: there is no other number of workers, and they find nothing where one middle is too far.
func TestFacetSharedFails(t *testing.T) {
	for _, workers := range []int64{0, 9, -1, 1 << 32, 1<<32 + 1, math.MinInt64, math.MaxInt64} {
		got, ok := impl.FacetShared(brick(), workers)
		wantNoList(t, got, ok, "FacetShared by", workers)
	}
	for _, n := range notNets() {
		for _, workers := range []int64{1, 8} {
			got, ok := impl.FacetShared(n, workers)
			wantNoList(t, got, ok, "FacetShared", n, workers)
		}
	}
	for i := range brick().Spots {
		// Two corners of all facets of a corner are too far, if one of them is its neighbour.
		n := moved(moved(brick(), i, spot(mostNumber, 0, 0)), i^1, spot(mostNumber, 0, 0))
		for _, workers := range []int64{1, 3, 8} {
			got, ok := impl.FacetShared(n, workers)
			wantNoList(t, got, ok, "FacetShared, too far", n, workers)
		}
	}
}

// Promise 1: no worker goes on after a call.
func TestFacetWorkersEnd(t *testing.T) {
	nets := append(notNets()[:8], someNets()...)
	wantNoWorkers(t, func() {
		for i := range 200 {
			impl.FacetShared(nets[i%len(nets)], int64(i%10))
		}
	})
}
