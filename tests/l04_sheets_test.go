package tests

import (
	"math"
	"testing"

	"loop.example/g01328/impl"
)

// Promise 5: sheets of 2 to 6 spots and rows, and no others.
func TestValidSheet(t *testing.T) {
	for across := int64(-1); across <= 8; across++ {
		for along := int64(-1); along <= 8; along++ {
			s := impl.Sheet{Across: across, Along: along, Spots: make([]impl.Spot, max(across*along, 0))}
			want := across >= 2 && across <= 6 && along >= 2 && along <= 6
			wantEqual(t, impl.ValidSheet(s), want, "ValidSheet", across, along)
		}
	}
	wantTrue(t, impl.ValidSheet(floor()) && impl.ValidSheet(roof()), "ValidSheet")
	for _, s := range notSheets() {
		wantTrue(t, !impl.ValidSheet(s), "not ValidSheet", s)
	}
}

// Promise 5: sheets are the same if all of their numbers are, valid or not.
func TestSameSheet(t *testing.T) {
	all := append(notSheets(), floor(), roof(), folded(spot(negZero, 0, 0)), folded(impl.Spot{}), impl.Sheet{Across: 2}, impl.Sheet{Along: 2})
	for _, a := range all {
		for _, b := range all {
			want := a.Across == b.Across && a.Along == b.Along && sameSpots(a.Spots, b.Spots)
			wantEqual(t, impl.SameSheet(a, copySheet(b)), want, "SameSheet", a, b)
		}
	}
	wantTrue(t, impl.SameSheet(impl.Sheet{}, impl.Sheet{Spots: []impl.Spot{}}), "SameSheet without spots")
	other := impl.Sheet{Across: 3, Along: 2, Spots: roof().Spots}
	turned := impl.Sheet{Across: 2, Along: 3, Spots: roof().Spots}
	wantTrue(t, impl.SameSheet(other, roof()) && !impl.SameSheet(other, turned), "SameSheet of equal spots")
}

// Promise 5: flat sheets, to the last bit.
func TestFlatSheet(t *testing.T) {
	const third, twoThirds = 0x1.555556p-2, 0x1.555556p-1
	for _, c := range []struct {
		wide, long float32
		want       impl.Sheet
	}{
		{4, 2, floor()},
		{-4, 2, sheet(2, 2, negZero, 0, 0, -4, 0, 0, negZero, 2, 0, -4, 2, 0)},
		{0, negZero, sheet(2, 2, 0, negZero, 0, 0, negZero, 0, 0, negZero, 0, 0, negZero, 0)},
		{1, 8, sheet(4, 2, 0, 0, 0, third, 0, 0, twoThirds, 0, 0, 1, 0, 0, 0, 8, 0, third, 8, 0, twoThirds, 8, 0, 1, 8, 0)},
		{8, 1, sheet(2, 4, 0, 0, 0, 8, 0, 0, 0, third, 0, 8, third, 0, 0, twoThirds, 0, 8, twoThirds, 0, 0, 1, 0, 8, 1, 0)},
		{mostNumber, -1, sheet(2, 2, 0, negZero, 0, mostNumber, negZero, 0, 0, -1, 0, mostNumber, -1, 0)},
	} {
		got, ok := impl.FlatSheet(c.want.Across, c.want.Along, c.wide, c.long)
		wantSheet(t, got, ok, c.want, "FlatSheet", c.wide, c.long)
	}
	got, ok := impl.FlatSheet(6, 6, 10, 5)
	wantTrue(t, ok && len(got.Spots) == 36, "FlatSheet of 6 times 6")
	wantSpot(t, got.Spots[15], ok, spot(0x1.8p2, 2, 0), "FlatSheet of 6 times 6")
	for _, count := range notAcross() {
		got, ok := impl.FlatSheet(count, 2, 1, 1)
		wantNoSheet(t, got, ok, "FlatSheet, across", count)
		got, ok = impl.FlatSheet(2, count, 1, 1)
		wantNoSheet(t, got, ok, "FlatSheet, along", count)
	}
	for _, x := range wildNumbers() {
		got, ok := impl.FlatSheet(2, 2, x, 1)
		wantNoSheet(t, got, ok, "FlatSheet, wide", x)
		got, ok = impl.FlatSheet(2, 2, 1, x)
		wantNoSheet(t, got, ok, "FlatSheet, long", x)
	}
}

// Promise 5: sheets of four corners.
func TestCornerSheet(t *testing.T) {
	corners := spots(1, 2, 3, 4, 5, 6, 7, 8, negZero, mostNumber, 10, 11)
	got, ok := impl.CornerSheet(corners[0], corners[1], corners[2], corners[3])
	wantSheet(t, got, ok, impl.Sheet{Across: 2, Along: 2, Spots: corners}, "CornerSheet")
	for _, p := range notSpots() {
		for i := range 4 {
			corners := make([]impl.Spot, 4)
			corners[i] = p
			got, ok := impl.CornerSheet(corners[0], corners[1], corners[2], corners[3])
			wantNoSheet(t, got, ok, "CornerSheet", corners)
		}
	}
}

// Promise 5: one spot of a sheet is another one.
func TestMoveSpot(t *testing.T) {
	to := spot(negZero, 9, mostNumber)
	for i := range 6 {
		want := roof()
		want.Spots[i] = to
		got, ok := impl.MoveSpot(roof(), int64(i), to)
		wantSheet(t, got, ok, want, "MoveSpot", i)
	}
	for _, i := range []int64{-1, 6, 1 << 32, math.MinInt64, math.MaxInt64} {
		got, ok := impl.MoveSpot(roof(), i, to)
		wantNoSheet(t, got, ok, "MoveSpot", i)
	}
	for _, p := range notSpots() {
		got, ok := impl.MoveSpot(roof(), 2, p)
		wantNoSheet(t, got, ok, "MoveSpot to", p)
	}
	for _, s := range notSheets() {
		for i := range s.Spots {
			// A sheet that is not valid has none of its spots moved, not even the wrong one.
			got, ok := impl.MoveSpot(s, int64(i), to)
			wantNoSheet(t, got, ok, "MoveSpot of", s)
		}
	}
}

// Promise 5: rows become columns.
func TestFlipSheet(t *testing.T) {
	got, ok := impl.FlipSheet(roof())
	wantSheet(t, got, ok, sheet(2, 3, 0, 0, 0, 0, 8, 1, 2, 0, 4, 2, 8, 5, 4, 0, 0, 4, 8, 1), "FlipSheet")
	got, ok = impl.FlipSheet(floor())
	wantSheet(t, got, ok, sheet(2, 2, 0, 0, 0, 0, 2, 0, 4, 0, 0, 4, 2, 0), "FlipSheet")
	got, ok = impl.FlipSheet(folded(spot(negZero, 1, 2)))
	wantSheet(t, got, ok, impl.Sheet{Across: 3, Along: 2, Spots: repeated(spot(negZero, 1, 2), 6)}, "FlipSheet")
}

// Promise 5, and the chapter's example: spots of sheets.
func TestSheetAt(t *testing.T) {
	little := folded(spot(negZero, leastNumber, 1))
	for _, c := range []struct {
		of   impl.Sheet
		u, v float32
		want impl.Spot
	}{
		{floor(), 0.5, 0.5, spot(2, 1, 0)}, {floor(), 0.25, 0.75, spot(1, 1.5, 0)},
		{floor(), 0, 0, spot(0, 0, 0)}, {floor(), 1, 0, spot(4, 0, 0)}, {floor(), 0, 1, spot(0, 2, 0)}, {floor(), 1, 1, spot(4, 2, 0)},
		{floor(), negZero, negZero, spot(0, 0, 0)},
		{roof(), 0.5, 0, spot(2, 0, 2)}, {roof(), 0.5, 1, spot(2, 8, 3)}, {roof(), 0.25, 0.5, spot(1, 4, 2)},
		{roof(), 0, 0.25, spot(0, 2, 0.25)}, {roof(), 1, 0.25, spot(4, 2, 0.25)},
		// A sum of two parts has no +0 in front: a negative zero stays one.
		{little, 0, 0, little.Spots[0]}, {little, 1, 1, little.Spots[0]}, {folded(spot(negZero, 1, 0)), 0.5, 0.25, spot(negZero, 1, 0)},
		{folded(spot(mostNumber, 0, 0)), 0, 1, spot(mostNumber, 0, 0)},
	} {
		got, ok := impl.SheetAt(c.of, c.u, c.v)
		wantSpot(t, got, ok, c.want, "SheetAt", c.of, c.u, c.v)
	}
}

// Promise 5: slopes go along rows, and along columns.
func TestSlopesAt(t *testing.T) {
	for _, c := range []struct {
		of            impl.Sheet
		u, v          float32
		across, along impl.Spot
	}{
		{floor(), 0.5, 0.5, spot(4, 0, 0), spot(0, 2, 0)}, {floor(), 0, 1, spot(4, 0, 0), spot(0, 2, 0)},
		{roof(), 0.5, 0.5, spot(4, 0, 0), spot(0, 8, 1)}, {roof(), 0, 0, spot(4, 0, 8), spot(0, 8, 1)},
		{roof(), 1, 0, spot(4, 0, -8), spot(0, 8, 1)}, {roof(), 0.25, 1, spot(4, 0, 4), spot(0, 8, 1)},
		{sheet(2, 2, 0, 0, 0, 4, 0, 0, 0, 2, 0, 4, 2, 8), 0.25, 0.75, spot(4, 0, 6), spot(0, 2, 2)},
		{folded(spot(1, 2, 3)), 0.5, 0.5, spot(0, 0, 0), spot(0, 0, 0)},
	} {
		across, along, ok := impl.SlopesAt(c.of, c.u, c.v)
		wantSpot(t, across, ok, c.across, "SlopesAt, across", c.of, c.u, c.v)
		wantSpot(t, along, ok, c.along, "SlopesAt, along", c.of, c.u, c.v)
	}
	long := sheet(3, 2, 0, 0, 0, 0, 0, 0, 0x1p127, 0, 0, 0, 1, 0, 0, 1, 0, 0x1p127, 1, 0)
	wide := sheet(2, 3, 0, 0, 0, 1, 0, 0, 0, 0, 0, 1, 0, 0, 0, 0x1p127, 0, 1, 0x1p127, 0)
	for _, s := range []impl.Sheet{long, wide} {
		_, ok := impl.SheetAt(s, 1, 1)
		wantTrue(t, ok, "SheetAt", s)
		across, along, ok := impl.SlopesAt(s, 1, 1)
		wantNoSpot(t, across, ok, "SlopesAt, across, of", s)
		wantNoSpot(t, along, ok, "SlopesAt, along, of", s)
	}
}

// Promise 5, and the chapter's example: normals, where there is one.
func TestNormalAt(t *testing.T) {
	for _, c := range []struct {
		of   impl.Sheet
		u, v float32
		want impl.Spot
	}{
		{floor(), 0.5, 0.5, spot(0, 0, 1)}, {floor(), 0, 1, spot(0, 0, 1)},
		{sheet(2, 2, 0, 0, 0, 0, 2, 0, 4, 0, 0, 4, 2, 0), 0.5, 0.5, spot(0, 0, -1)},
		{sheet(2, 2, 0, 0, 0, 4, 0, 3, 0, 1, 0, 4, 1, 3), 0.25, 1, spot(-0x1.333334p-1, 0, 0x1.99999ap-1)},
		{sheet(2, 2, 0, 0, 0, 0x1p-30, 0, 0, 0, 0x1p-30, 0, 0x1p-30, 0x1p-30, 0), 0, 0, spot(0, 0, 1)},
	} {
		got, ok := impl.NormalAt(c.of, c.u, c.v)
		wantSpot(t, got, ok, c.want, "NormalAt", c.of, c.u, c.v)
	}
	for _, s := range []impl.Sheet{
		folded(spot(1, 2, 3)),
		// All spots on a line, a sheet whose normal is too short to be told, and two that are too great.
		sheet(2, 2, 0, 0, 0, 1, 1, 1, 2, 2, 2, 3, 3, 3),
		sheet(2, 2, 0, 0, 0, 0x1p-38, 0, 0, 0, 0x1p-38, 0, 0x1p-38, 0x1p-38, 0),
		sheet(2, 2, 0, 0, 0, 1e20, 0, 0, 0, 1e20, 0, 1e20, 1e20, 0),
		sheet(2, 2, 0, 0, 0, 1e10, 0, 0, 0, 1e10, 0, 1e10, 1e10, 0),
	} {
		got, ok := impl.NormalAt(s, 0.5, 0.5)
		wantNoSpot(t, got, ok, "NormalAt", s)
	}
}

// Promise 5: normals are one long, and upright on both slopes, nearly.
func TestNormalsAreUpright(t *testing.T) {
	s := newSource()
	for range 500 {
		of, u, v := s.sheet(), s.time(), s.time()
		normal, ok := impl.NormalAt(of, u, v)
		if !ok {
			t.Fatal("NormalAt", of, u, v)
		}
		across, along, _ := impl.SlopesAt(of, u, v)
		long, _ := impl.LongOfSpot(normal)
		wantAbout(t, long, 1, 1e-5, "NormalAt", of, u, v)
		for _, slope := range []impl.Spot{across, along} {
			wantAbout(t, normal.X*slope.X+normal.Y*slope.Y+normal.Z*slope.Z, 0, 1e-3, "NormalAt", of, u, v)
		}
	}
}

// Promise 5: the spots of all sides.
func TestEdgeOfSheet(t *testing.T) {
	for side, want := range [][]impl.Spot{
		spots(0, 0, 0, 2, 0, 4, 4, 0, 0), spots(0, 8, 1, 2, 8, 5, 4, 8, 1),
		spots(0, 0, 0, 0, 8, 1), spots(4, 0, 0, 4, 8, 1),
	} {
		got, ok := impl.EdgeOfSheet(roof(), int64(side))
		wantSpots(t, got, ok, want, "EdgeOfSheet", side)
	}
	for _, side := range []int64{-1, 4, 1 << 32, math.MinInt64, math.MaxInt64} {
		got, ok := impl.EdgeOfSheet(roof(), side)
		wantNoList(t, got, ok, "EdgeOfSheet", side)
	}
}

// Promise 5: sheets that are not valid have nothing, at any place.
func TestSheetsThatThereAreNot(t *testing.T) {
	for _, s := range notSheets() {
		for k := range int64(4) {
			wantNothing(t, ofSheets(s, 0, 0, 1, 1, k), "sheet", s, k)
			wantNothing(t, ofSheets(s, 0.5, 1, 2, 3, k), "sheet", s, k)
		}
	}
}

// Promise 5: there is nothing outside of sheets.
func TestPlacesThatThereAreNot(t *testing.T) {
	for _, s := range []impl.Sheet{floor(), roof()} {
		for _, wrong := range notTimes() {
			for _, right := range []float32{0, 0.5, 1} {
				for _, place := range [][2]float32{{wrong, right}, {right, wrong}, {wrong, wrong}} {
					var o outcome
					o.addSpot(impl.SheetAt(s, place[0], place[1]))
					across, along, ok := impl.SlopesAt(s, place[0], place[1])
					o.addSpot(across, ok)
					o.addSpot(along, ok)
					o.addSpot(impl.NormalAt(s, place[0], place[1]))
					wantNothing(t, o, "place", s, place)
				}
			}
			former, latter, ok := impl.CutSheet(s, wrong)
			wantNoSheet(t, former, ok, "CutSheet, former part", s, wrong)
			wantNoSheet(t, latter, ok, "CutSheet, latter part", s, wrong)
		}
	}
}
