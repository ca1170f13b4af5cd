package tests

import (
	"math"
	"testing"

	"loop.example/g01328/impl"
)

// Promise 8: any number of workers fills the same cells.
func TestFillShared(t *testing.T) {
	s := newSource()
	outlines := someOutlines()
	for range 40 {
		outlines = append(outlines, s.outline())
	}
	for i, o := range outlines {
		side, even := int64(1+i%16), s.below(2) == 0
		want, wantOK := impl.FillGrid(o, side, even)
		for workers := int64(1); workers <= impl.MaxWorkers; workers++ {
			got, ok := impl.FillShared(o, side, even, workers)
			if !wantOK {
				wantNoList(t, got, ok, "FillShared", o, workers)
				continue
			}
			wantCells(t, got, ok, want, "FillShared", o, side, even, workers)
		}
	}
	got, ok := impl.FillShared(frame(), 5, true, 3)
	wantCells(t, got, ok, cellsOf("####.", "#..#.", "#..#.", "####.", "....."), "FillShared")
	got, ok = impl.FillShared(frame(), 1, false, 8)
	wantCells(t, got, ok, cellsOf("#"), "FillShared of a single row")
	got, ok = impl.FillShared(outline("a", boxOf(0, 16+16i)), 16, false, 1)
	wantCells(t, got, ok, repeated(true, 256), "FillShared of the largest grid")
}

// Promise 8: there is no other number of workers, and there are no other sides and outlines.
func TestFillSharedFails(t *testing.T) {
	for _, workers := range []int64{0, 9, -1, 1 << 32, 1<<32 + 1, math.MinInt64, math.MaxInt64} {
		got, ok := impl.FillShared(tile(), 2, true, workers)
		wantNoList(t, got, ok, "FillShared by", workers)
	}
	for _, workers := range []int64{1, 8} {
		for _, side := range notSides() {
			got, ok := impl.FillShared(tile(), side, true, workers)
			wantNoList(t, got, ok, "FillShared", side, workers)
		}
		for _, o := range notOutlines() {
			got, ok := impl.FillShared(o, 2, true, workers)
			wantNoList(t, got, ok, "FillShared", o, workers)
		}
	}
}

// Promise 1: no worker goes on after a call.
func TestFillWorkersEnd(t *testing.T) {
	outlines := append(notOutlines()[:8], someOutlines()...)
	wantNoWorkers(t, func() {
		for i := range 200 {
			impl.FillShared(outlines[i%len(outlines)], int64(i%18), i%3 == 0, int64(i%10))
		}
	})
}
