package tests

import (
	"math"
	"slices"
	"testing"

	"loop.example/g01328/impl"
)

// curves has as many different curves as one call measures.
func (s *source) curves(count int) []impl.Curve {
	list := make([]impl.Curve, count)
	for i := range list {
		list[i] = s.curve(1, 7)
	}
	return list
}

// Promise 4: any number of workers measures the same, to the last bit.
func TestLongsShared(t *testing.T) {
	s := newSource()
	for count := range impl.MaxMeets + 1 {
		list := s.curves(count)
		// The first numbers of pieces are the least one and the greatest one.
		pieces := []int64{1, impl.MaxPieces, int64(1 + s.below(impl.MaxPieces))}[min(count, 2)]
		want := make([]float32, count)
		for i, c := range list {
			want[i], _ = impl.ChordLong(c, pieces)
		}
		for workers := int64(1); workers <= impl.MaxWorkers; workers++ {
			got, ok := impl.LongsShared(list, pieces, workers)
			wantNumbers(t, got, ok, want, "LongsShared", count, pieces, workers)
		}
	}
	got, ok := impl.LongsShared([]impl.Curve{plain(0, 2), standing(), plain(0, 3i)}, 2, 3)
	wantNumbers(t, got, ok, []float32{2, 0, 3}, "LongsShared")
}

// Promise 4: no other number of workers, of curves and of pieces.
func TestLongsSharedFails(t *testing.T) {
	for _, list := range [][]impl.Curve{nil, {}, {plain(0, 2)}} {
		for _, workers := range []int64{0, 9, -1, 1 << 32, 1<<32 + 1, math.MinInt64, math.MaxInt64} {
			got, ok := impl.LongsShared(list, 2, workers)
			wantNoList(t, got, ok, "LongsShared by", workers)
		}
		for _, pieces := range notPieces() {
			got, ok := impl.LongsShared(list, pieces, 2)
			wantNoList(t, got, ok, "LongsShared in", pieces)
		}
	}
	list := newSource().curves(impl.MaxMeets + 1)
	got, ok := impl.LongsShared(list, 2, 3)
	wantNoList(t, got, ok, "LongsShared of too many")
	for i := range impl.MaxMeets {
		for _, c := range []impl.Curve{{}, plain(1), tooFar(), tooWide()} {
			wrong := slices.Clone(list[:impl.MaxMeets])
			wrong[i] = c
			for _, workers := range []int64{1, 3, 8} {
				got, ok := impl.LongsShared(wrong, 2, workers)
				wantNoList(t, got, ok, "LongsShared with", i, c, workers)
			}
		}
	}
}
