package tests

import (
	"math"
	"testing"

	"loop.example/g01328/impl"
)

// Promise 5: any number of workers makes the same tiles, to the last bit.
func TestTilesShared(t *testing.T) {
	s := newSource()
	for k := range 60 {
		of := s.sheet()
		// The first numbers of tiles are the least ones and the greatest ones.
		sizes := [][2]int64{{1, 1}, {1, 12}, {12, 1}, {12, 12}, {int64(1 + s.below(12)), int64(1 + s.below(12))}}
		m, n := sizes[min(k, 4)][0], sizes[min(k, 4)][1]
		want, ok := impl.TilesOf(of, m, n)
		wantTrue(t, ok, "TilesOf", m, n)
		for workers := int64(1); workers <= impl.MaxWorkers; workers++ {
			got, ok := impl.TilesShared(of, m, n, workers)
			wantSpots(t, got, ok, want, "TilesShared", m, n, workers)
		}
	}
	got, ok := impl.TilesShared(floor(), 1, 1, 8)
	wantSpots(t, got, ok, floor().Spots, "TilesShared")
}

// Promise 5: there is no other number of workers, and they make no tiles where TilesOf does not.
func TestTilesSharedFails(t *testing.T) {
	for _, workers := range []int64{0, 9, -1, 1 << 32, 1<<32 + 1, math.MinInt64, math.MaxInt64} {
		got, ok := impl.TilesShared(floor(), 2, 3, workers)
		wantNoList(t, got, ok, "TilesShared by", workers)
	}
	for _, of := range notSheets() {
		for _, workers := range []int64{1, 3, 8} {
			got, ok := impl.TilesOf(of, 12, 12)
			wantNoList(t, got, ok, "TilesOf", of)
			got, ok = impl.TilesShared(of, 12, 12, workers)
			wantNoList(t, got, ok, "TilesShared", of, workers)
		}
	}
}

// Promise 1: no worker goes on after a call.
func TestTilesWorkersEnd(t *testing.T) {
	sheets := append(notSheets()[:8], floor(), roof())
	wantNoWorkers(t, func() {
		for i := range 100 {
			impl.TilesShared(sheets[i%len(sheets)], 12, int64(1+i%12), int64(i%10))
		}
	})
}
