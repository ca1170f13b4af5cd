package tests

import (
	"slices"
	"testing"

	"loop.example/g01328/impl"
)

// Promise 8, and the chapter's example: cells whose middles are inside, row by row.
func TestFillGrid(t *testing.T) {
	for _, c := range []struct {
		o    impl.Outline
		side int64
		even bool
		want []bool
	}{
		{tile(), 2, true, cellsOf("##", "##")}, {tile(), 2, false, cellsOf("##", "##")}, {tile(), 1, true, cellsOf("#")}, {tile(), 3, true, cellsOf("##.", "##.", "...")},
		{frame(), 4, true, cellsOf("####", "#..#", "#..#", "####")}, {frame(), 4, false, cellsOf("####", "####", "####", "####")},
		{holed(), 5, true, cellsOf("####.", "#..#.", "#..#.", "####.", ".....")}, {holed(), 4, false, cellsOf("####", "#..#", "#..#", "####")},
		{outline("a", backwards(square())), 3, true, cellsOf("##.", "##.", "...")}, {outline("a", backwards(square())), 3, false, cellsOf("##.", "##.", "...")},
		{outline("a", boxOf(1i, 2+2i)), 3, true, cellsOf("...", "##.", "...")}, {outline("a", boxOf(-5-5i, -1-1i)), 2, false, cellsOf("..", "..")},
		{outline("a", []complex64{0, 4, 4i}), 4, false, cellsOf("###.", "##..", "#...", "....")}, {outline("a", []complex64{4, 4 + 4i, 4i}), 4, false, cellsOf("...#", "..##", ".###", "####")},
		// Middles that are on a lower or a left side are inside, others are not.
		{outline("a", boxOf(0.5+0.5i, 1.5+1.5i)), 2, true, cellsOf("#.", "..")}, {outline("a", boxOf(0.5+0.5i, 1.75+1.75i)), 2, true, cellsOf("##", "##")},
		{outline("a", boxOf(0, 16+16i)), 16, true, repeated(true, 256)}, {outline("a", boxOf(0, 15+16i)), 16, true, slices.Repeat(append(repeated(true, 15), false), 16)},
		{outline("a", boxOf(15+14i, 16+15i)), 16, false, append(append(make([]bool, 239), true), make([]bool, 16)...)},
	} {
		got, ok := impl.FillGrid(c.o, c.side, c.even)
		wantCells(t, got, ok, c.want, "FillGrid", c.o, c.side, c.even)
	}
	for _, side := range notSides() {
		for _, even := range []bool{true, false} {
			filled, ok := impl.FillGrid(tile(), side, even)
			wantNoList(t, filled, ok, "FillGrid", side)
			covered, ok := impl.CoverGrid(tile(), side, even)
			wantNoList(t, covered, ok, "CoverGrid", side)
		}
	}
}

// Promise 8: how much of cells is inside, row by row.
func TestCoverGrid(t *testing.T) {
	for _, c := range []struct {
		loop []complex64
		side int64
		want []float32
	}{
		{square(), 1, []float32{1}}, {square(), 3, []float32{1, 1, 0, 1, 1, 0, 0, 0, 0}}, {boxOf(0, 0.5+0.5i), 1, []float32{0.25}}, {boxOf(0, 0.5+1i), 1, []float32{0.5}},
		{boxOf(0, 1+0.25i), 1, []float32{0.25}}, {boxOf(0, 0.25+1i), 1, []float32{0.25}}, {boxOf(0.5+0.75i, 2+2i), 2, []float32{0.125, 0.25, 0.5, 1}},
		// Places are at odd eighths; those on a lower or a left side are inside, others are not.
		{boxOf(0, 0.125+0.125i), 1, []float32{0}}, {boxOf(0, 0.126+0.126i), 1, []float32{0.0625}}, {boxOf(0.125+0.125i, 0.25+0.25i), 1, []float32{0.0625}},
		{boxOf(0.875+0.875i, 1+1i), 1, []float32{0.0625}}, {boxOf(0.876+0.125i, 1+1i), 1, []float32{0}}, {boxOf(0.126+0.126i, 0.374+0.374i), 1, []float32{0}},
		{boxOf(0, 0.375+0.626i), 1, []float32{0.1875}}, {boxOf(0, 0.376+0.625i), 1, []float32{0.25}},
		{[]complex64{0, 1, 1i}, 1, []float32{0.375}}, {[]complex64{1, 1 + 1i, 1i}, 1, []float32{0.625}},
		{[]complex64{0, 3, 3i}, 2, []float32{1, 1, 1, 0.375}}, {boxOf(1.25, 2+1i), 3, []float32{0, 0.75, 0, 0, 0, 0, 0, 0, 0}}, {boxOf(-4-4i, -1-1i), 1, []float32{0}},
		{boxOf(0, 16+16i), 16, repeated[float32](1, 256)}, {boxOf(0, 16+0.5i), 16, append(repeated[float32](0.5, 16), make([]float32, 240)...)},
	} {
		for _, even := range []bool{true, false} {
			got, ok := impl.CoverGrid(outline("a", c.loop), c.side, even)
			wantNumbers(t, got, ok, c.want, "CoverGrid", c.loop, c.side, even)
		}
	}
	for _, c := range []struct {
		o    impl.Outline
		even bool
		want []float32
	}{
		{frame(), true, []float32{1, 1, 1, 0}}, {frame(), false, []float32{1, 1, 1, 1}}, {holed(), true, []float32{1, 1, 1, 0}}, {holed(), false, []float32{1, 1, 1, 0}},
		{outline("a", square(), boxOf(1+1i, 3+3i)), true, []float32{1, 1, 1, 0}}, {outline("a", boxOf(0, 1+1i), boxOf(0.5, 1.5+1i)), true, []float32{0.5, 0.5, 0, 0}},
		{outline("a", boxOf(0, 1+1i), boxOf(0.5, 1.5+1i)), false, []float32{1, 0.5, 0, 0}},
	} {
		got, ok := impl.CoverGrid(c.o, 2, c.even)
		wantNumbers(t, got, ok, c.want, "CoverGrid", c.o, c.even)
	}
}

// Promise 8: grids tell of each cell what IsInside tells of its places.
func TestGridsTellIsInside(t *testing.T) {
	s := newSource()
	for range 60 {
		o, side, even := outline("a", s.placesOnGrid(3+s.below(8)), s.placesOnGrid(3+s.below(8))), int64(1+s.below(16)), s.below(2) == 0
		filled, ok := impl.FillGrid(o, side, even)
		wantTrue(t, ok && len(filled) == int(side*side), "FillGrid", o, side)
		covered, ok := impl.CoverGrid(o, side, even)
		wantTrue(t, ok && len(covered) == int(side*side), "CoverGrid", o, side)
		for i := range filled {
			x, y := float32(i%int(side)), float32(i/int(side))
			inside, _ := impl.IsInside(o, complex(x+0.5, y+0.5), even)
			wantEqual(t, filled[i], inside, "FillGrid", o, side, even, i)
			count := 0
			for k := range 16 {
				place := complex(x+float32(2*(k%4)+1)/8, y+float32(2*(k/4)+1)/8)
				if inside, _ := impl.IsInside(o, place, even); inside {
					count++
				}
			}
			wantNumber(t, covered[i], float32(count)/16, "CoverGrid", o, side, even, i)
		}
	}
}

// Promise 8: where loops cross a height, in ascending order.
func TestSpansAt(t *testing.T) {
	for _, c := range []struct {
		o    impl.Outline
		y    float32
		want []float32
	}{
		{tile(), 1, []float32{0, 2}}, {tile(), 0, []float32{0, 2}}, {tile(), negZero, []float32{0, 2}}, {tile(), 2, nil}, {tile(), -1, nil}, {tile(), below(2), []float32{0, 2}}, {tile(), -leastNumber, nil},
		{tile(), mostNumber, nil}, {tile(), -mostNumber, nil}, {frame(), 2, []float32{0, 1, 3, 4}}, {holed(), 2, []float32{0, 1, 3, 4}}, {frame(), 1, []float32{0, 1, 3, 4}}, {frame(), 3, []float32{0, 4}},
		{outline("a", []complex64{0, 4, 4i}), 1, []float32{0, 3}}, {outline("a", []complex64{4, 4 + 4i, 4i}), 1, []float32{3, 4}}, {outline("a", square(), square()), 1, []float32{0, 0, 2, 2}},
		{outline("a", boxOf(4, 5+2i), backwards(square())), 1, []float32{0, 2, 4, 5}}, {outline("a", line(64)), 0, nil}, {outline("a", repeated[complex64](1i, 3)), 1, nil},
		{outline("a", []complex64{0, 1 + 3i, 2i}), 1, hexNumbers("00000000,3eaaaaab")}, {outline("a", []complex64{0.1, 0.7 + 0.3i, 0.2 + 0.9i}), 0.2, hexNumbers("3dfa4fa5,3efffffe")},
		// What is too far for a quotient is a share of 0.
		{outline("a", []complex64{complex(1, -mostNumber), complex(5, mostNumber), complex(2, -mostNumber)}), 0, []float32{1, 5}},
	} {
		got, ok := impl.SpansAt(c.o, c.y)
		wantNumbers(t, got, ok, c.want, "SpansAt", c.o, c.y)
	}
	for _, y := range wildNumbers() {
		got, ok := impl.SpansAt(tile(), y)
		wantNoList(t, got, ok, "SpansAt", y)
	}
	for _, loop := range [][]complex64{
		{-farPoint, complex(mostNumber, 2), 2i}, {0, 2, complex(mostNumber, -1), complex(-mostNumber, 3)},
	} {
		for _, y := range []float32{0, 1} {
			got, ok := impl.SpansAt(outline("a", square(), loop), y)
			wantNoList(t, got, ok, "SpansAt, too far", loop, y)
		}
	}
}

// Promise 8: of equal spans, those of a former loop and of a former piece come first.
func TestEqualSpansStayInOrder(t *testing.T) {
	// Three points cross the height 0 at -0, and then at +0.
	three := []complex64{complex(negZero, 0), -1 + 1i, 5 + 1i}
	zeros := slices.Repeat([]float32{negZero, 0}, 20)
	got, ok := impl.SpansAt(outline("a", slices.Repeat(three, 20)), 0)
	wantNumbers(t, got, ok, zeros, "SpansAt, both zeros")
	got, ok = impl.SpansAt(outline("a", boxOf(0, 2+2i), three, boxOf(-1, 1i), three), 0)
	wantNumbers(t, got, ok, []float32{-1, 0, negZero, 0, 0, negZero, 0, 2}, "SpansAt of several loops")
}

// Promise 8: between an odd span and the next one, a place is inside, if even is true, and elsewhere it is not.
func TestSpansTellIsInside(t *testing.T) {
	s := newSource()
	for range 300 {
		o := outline("a", s.placesOnGrid(3+s.below(20)), s.placesOnGrid(3+s.below(20)))
		y := float32(s.below(32)) / 4
		spans, ok := impl.SpansAt(o, y)
		wantTrue(t, ok && len(spans)%2 == 0 && slices.IsSorted(spans), "SpansAt", o, y)
		for i := 1; i < len(spans); i++ {
			if spans[i]-spans[i-1] > 1e-4 {
				inside, _ := impl.IsInside(o, complex((spans[i]+spans[i-1])/2, y), true)
				wantEqual(t, inside, i%2 == 1, "IsInside between spans", o, y, i)
			}
		}
	}
}
