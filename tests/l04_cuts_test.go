package tests

import (
	"testing"

	"loop.example/g01328/impl"
)

// Promise 5: both parts of a sheet.
func TestCutSheet(t *testing.T) {
	for _, c := range []struct {
		of             impl.Sheet
		u              float32
		former, latter impl.Sheet
	}{
		{floor(), 0.5, sheet(2, 2, 0, 0, 0, 2, 0, 0, 0, 2, 0, 2, 2, 0), sheet(2, 2, 2, 0, 0, 4, 0, 0, 2, 2, 0, 4, 2, 0)},
		{floor(), 0, sheet(2, 2, 0, 0, 0, 0, 0, 0, 0, 2, 0, 0, 2, 0), floor()},
		{floor(), negZero, sheet(2, 2, 0, 0, 0, 0, 0, 0, 0, 2, 0, 0, 2, 0), floor()},
		{floor(), 1, floor(), sheet(2, 2, 4, 0, 0, 4, 0, 0, 4, 2, 0, 4, 2, 0)},
		{roof(), 0.5, sheet(3, 2, 0, 0, 0, 1, 0, 2, 2, 0, 2, 0, 8, 1, 1, 8, 3, 2, 8, 3), sheet(3, 2, 2, 0, 2, 3, 0, 2, 4, 0, 0, 2, 8, 3, 3, 8, 3, 4, 8, 1)},
		{roof(), 0.25, sheet(3, 2, 0, 0, 0, 0.5, 0, 1, 1, 0, 1.5, 0, 8, 1, 0.5, 8, 2, 1, 8, 2.5), sheet(3, 2, 1, 0, 1.5, 2.5, 0, 3, 4, 0, 0, 1, 8, 2.5, 2.5, 8, 4, 4, 8, 1)},
	} {
		former, latter, ok := impl.CutSheet(c.of, c.u)
		wantSheet(t, former, ok, c.former, "CutSheet, former part", c.of, c.u)
		wantSheet(t, latter, ok, c.latter, "CutSheet, latter part", c.of, c.u)
	}
}

// Promise 5: sheets of the greatest numbers are cut as others are.
func TestGreatSheetsAreCut(t *testing.T) {
	s := newSource()
	for range 500 {
		of, u, v := folded(spot(mostNumber, -mostNumber, 0)), s.time(), s.time()
		at, ok := impl.SheetAt(of, u, v)
		wantTrue(t, ok && at.X >= below(below(mostNumber)) && at.Y == -at.X, "SheetAt", of, u, v)
		former, latter, ok := impl.CutSheet(of, u)
		wantTrue(t, ok && impl.ValidSheet(former) && impl.ValidSheet(latter), "CutSheet", of, u)
	}
}

// Promise 5: sheets that are cut are the same, nearly.
func TestCutSheetsAreTheSame(t *testing.T) {
	s := newSource()
	for range 500 {
		of, u, v, share := s.sheet(), s.time(), s.time(), s.time()
		former, latter, ok := impl.CutSheet(of, u)
		wantTrue(t, ok && former.Across == of.Across && former.Along == of.Along, "CutSheet, former part", of, u)
		wantTrue(t, ok && latter.Across == of.Across && latter.Along == of.Along, "CutSheet, latter part", of, u)
		at, _ := impl.SheetAt(former, share, v)
		want, _ := impl.SheetAt(of, u*share, v)
		wantNearSpot(t, at, want, "former part", of, u, v, share)
		at, _ = impl.SheetAt(latter, share, v)
		want, _ = impl.SheetAt(of, min(u+(1-u)*share, 1), v)
		wantNearSpot(t, at, want, "latter part", of, u, v, share)
		end, _ := impl.EdgeOfSheet(former, 3)
		begin, ok := impl.EdgeOfSheet(latter, 2)
		wantSpots(t, begin, ok, end, "seam", of, u)
	}
}

// Promise 5: sheets that are flipped are the same, nearly; flipped once more, to the last bit.
func TestFlippedSheetsAreTheSame(t *testing.T) {
	s := newSource()
	for range 500 {
		of, u, v := s.sheet(), s.time(), s.time()
		flipped, ok := impl.FlipSheet(of)
		wantTrue(t, ok && flipped.Across == of.Along && flipped.Along == of.Across, "FlipSheet", of)
		back, ok := impl.FlipSheet(flipped)
		wantSheet(t, back, ok, of, "FlipSheet once more")
		at, _ := impl.SheetAt(flipped, v, u)
		want, _ := impl.SheetAt(of, u, v)
		wantNearSpot(t, at, want, "FlipSheet", of, u, v)
		// Slopes are told by cuts in the same order, so that they only change places.
		across, along, _ := impl.SlopesAt(of, u, v)
		first, second, ok := impl.SlopesAt(flipped, v, u)
		wantSpot(t, first, ok, along, "FlipSheet, slopes", of, u, v)
		wantSpot(t, second, ok, across, "FlipSheet, slopes", of, u, v)
		for side := range int64(4) {
			edge, _ := impl.EdgeOfSheet(of, side)
			other, ok := impl.EdgeOfSheet(flipped, (side+2)%4)
			wantSpots(t, other, ok, edge, "FlipSheet, side", of, side)
		}
	}
}

// Promise 5: the ends of sheets are their corners and edges.
func TestEndsOfSheets(t *testing.T) {
	s := newSource()
	for range 300 {
		of := s.sheet()
		last := len(of.Spots)
		across := int(of.Across)
		for _, c := range []struct {
			u, v float32
			i    int
		}{{0, 0, 0}, {1, 0, across - 1}, {0, 1, last - across}, {1, 1, last - 1}} {
			at, ok := impl.SheetAt(of, c.u, c.v)
			wantTrue(t, ok && at == of.Spots[c.i], "SheetAt", of, c.u, c.v)
		}
	}
}
