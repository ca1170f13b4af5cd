package tests

import (
	"math"
	"slices"
	"testing"

	"loop.example/g01328/impl"
)

func spot(x, y, z float32) impl.Spot { return impl.Spot{X: x, Y: y, Z: z} }

// spots makes spots of their parts, one after another.
func spots(parts ...float32) []impl.Spot {
	var list []impl.Spot
	for part := range slices.Chunk(parts, 3) {
		list = append(list, spot(part[0], part[1], part[2]))
	}
	return list
}

func sheet(across, along int64, parts ...float32) impl.Sheet {
	return impl.Sheet{Across: across, Along: along, Spots: spots(parts...)}
}

// floor is the sheet of the chapter's example.
func floor() impl.Sheet { return sheet(2, 2, 0, 0, 0, 4, 0, 0, 0, 2, 0, 4, 2, 0) }

// roof has 3 spots in each of 2 rows, the middle ones higher than the others.
func roof() impl.Sheet {
	return sheet(3, 2, 0, 0, 0, 2, 0, 4, 4, 0, 0, 0, 8, 1, 2, 8, 5, 4, 8, 1)
}

// folded is a sheet all of whose spots are one.
func folded(p impl.Spot) impl.Sheet {
	return impl.Sheet{Across: 2, Along: 3, Spots: repeated(p, 6)}
}

func sameSpot(a, b impl.Spot) bool {
	return sameBits(a.X, b.X) && sameBits(a.Y, b.Y) && sameBits(a.Z, b.Z)
}

func sameSpots(a, b []impl.Spot) bool { return slices.EqualFunc(a, b, sameSpot) }

func copySheet(s impl.Sheet) impl.Sheet {
	return impl.Sheet{Across: s.Across, Along: s.Along, Spots: slices.Clone(s.Spots)}
}

func wantSpot(t *testing.T, got impl.Spot, ok bool, want impl.Spot, what string, args ...any) {
	t.Helper()
	if !ok || !sameSpot(got, want) {
		t.Errorf("%s%v: got %v %v, want %v", what, args, got, ok, want)
	}
}

func wantNoSpot(t *testing.T, got impl.Spot, ok bool, what string, args ...any) {
	t.Helper()
	if ok || !sameSpot(got, impl.Spot{}) {
		t.Errorf("%s%v: got %v %v, want none", what, args, got, ok)
	}
}

func wantSpots(t *testing.T, got []impl.Spot, ok bool, want []impl.Spot, what string, args ...any) {
	t.Helper()
	if !ok || !sameSpots(got, want) {
		t.Errorf("%s%v: got %v %v, want %v", what, args, got, ok, want)
	}
}

func wantSheet(t *testing.T, got impl.Sheet, ok bool, want impl.Sheet, what string, args ...any) {
	t.Helper()
	if !ok || got.Across != want.Across || got.Along != want.Along || !sameSpots(got.Spots, want.Spots) {
		t.Errorf("%s%v: got %v %v, want %v", what, args, got, ok, want)
	}
}

func wantNoSheet(t *testing.T, got impl.Sheet, ok bool, what string, args ...any) {
	t.Helper()
	if ok || got.Across != 0 || got.Along != 0 || len(got.Spots) != 0 {
		t.Errorf("%s%v: got %v %v, want none", what, args, got, ok)
	}
}

// wantNearSpot compares spots that are at most about 10 away from 0.
func wantNearSpot(t *testing.T, got, want impl.Spot, what string, args ...any) {
	t.Helper()
	for _, part := range [][2]float32{{got.X, want.X}, {got.Y, want.Y}, {got.Z, want.Z}} {
		wantAbout(t, part[0], part[1], 1e-4, what, append(args, got, want)...)
	}
}

// notSpots have a part that is not finite.
func notSpots() []impl.Spot {
	var list []impl.Spot
	for _, x := range wildNumbers() {
		list = append(list, spot(x, 0, 0), spot(0, x, 0), spot(0, 0, x))
	}
	return list
}

// notAcross are numbers of spots in a row, or of rows, that there cannot be.
func notAcross() []int64 {
	return []int64{0, 1, 7, -1, -2, 1<<32 + 2, math.MinInt64, math.MaxInt64}
}

// notTiles are numbers of tiles that there cannot be.
func notTiles() []int64 {
	return []int64{0, 13, -1, 1 << 32, 1<<32 + 1, math.MinInt64, math.MaxInt64}
}

func notSheets() []impl.Sheet {
	list := []impl.Sheet{
		{}, {Across: 2, Along: 2}, {Across: 2, Along: 2, Spots: make([]impl.Spot, 3)}, {Across: 2, Along: 2, Spots: make([]impl.Spot, 5)},
		{Across: 3, Along: 2, Spots: make([]impl.Spot, 4)}, {Across: -2, Along: -2, Spots: make([]impl.Spot, 4)},
		// Both numbers together are too great for an integer, and become 0.
		{Across: 1 << 32, Along: 1 << 32},
	}
	for _, count := range []int64{0, 1, 7} {
		list = append(list,
			impl.Sheet{Across: count, Along: 2, Spots: make([]impl.Spot, 2*count)},
			impl.Sheet{Across: 2, Along: count, Spots: make([]impl.Spot, 2*count)})
	}
	for _, p := range notSpots() {
		for i := range 4 {
			s := floor()
			s.Spots[i] = p
			list = append(list, s)
		}
	}
	return list
}

// ofSheets has the results of all functions that take a sheet.
func ofSheets(s impl.Sheet, u, v float32, m, n, k int64) outcome {
	var o outcome
	o.addSheet(impl.MoveSpot(s, k, impl.Spot{X: 1}))
	o.addSheet(impl.FlipSheet(s))
	o.addSpot(impl.SheetAt(s, u, v))
	across, along, ok := impl.SlopesAt(s, u, v)
	o.addSpot(across, ok)
	o.addSpot(along, ok)
	o.addSpot(impl.NormalAt(s, u, v))
	former, latter, ok := impl.CutSheet(s, u)
	o.addSheet(former, ok)
	o.addSheet(latter, ok)
	o.addSpots(impl.EdgeOfSheet(s, k))
	o.addSpots(impl.TilesOf(s, m, n))
	o.addSpots(impl.TilesShared(s, m, n, k))
	return o
}

// ofTiles has those of all that take spots of tiles.
func ofTiles(list []impl.Spot, m, n int64, way impl.Spot, level float32) outcome {
	var o outcome
	o.addNumber(impl.AreaOfTiles(list, m, n))
	o.addSpots(impl.LevelCuts(list, m, n, way, level))
	return o
}

// ofSpots has those of all that take a list of spots.
func ofSpots(list []impl.Spot, to impl.Spot) outcome {
	var o outcome
	low, high, ok := impl.BoxOfSpots(list)
	o.addSpot(low, ok)
	o.addSpot(high, ok)
	nearest, far, ok := impl.NearestTile(list, to)
	o.addNumber(float32(nearest), ok)
	o.addNumber(far, ok)
	return o
}

// ofPatches has those of all that take a patch.
func ofPatches(list []impl.Spot, degree int64, a, b float32) outcome {
	var o outcome
	o.addSpot(impl.PatchAt(list, degree, a, b))
	o.addSpots(impl.RaisePatch(list, degree))
	return o
}

func (o *outcome) addSpot(p impl.Spot, ok bool) {
	o.single = append(o.single, p.X, p.Y, p.Z, truth(ok))
}

func (o *outcome) addSpots(list []impl.Spot, ok bool) {
	o.spots = append(o.spots, list)
	o.single = append(o.single, truth(ok), float32(len(list)))
}

func (o *outcome) addSheet(s impl.Sheet, ok bool) {
	o.single = append(o.single, float32(s.Across), float32(s.Along))
	o.addSpots(s.Spots, ok)
}

func (o *outcome) addIndices(list []int64, ok bool) {
	o.indices = append(o.indices, list)
	o.single = append(o.single, truth(ok), float32(len(list)))
}

func (s *source) spot() impl.Spot {
	x, y := place(s.word()), place(s.word())
	return spot(x, y, place(s.word()))
}

func (s *source) spots(count int) []impl.Spot {
	list := make([]impl.Spot, count)
	for i := range list {
		list[i] = s.spot()
	}
	return list
}

func (s *source) sheet() impl.Sheet {
	across, along := 2+s.below(5), 2+s.below(5)
	return impl.Sheet{Across: int64(across), Along: int64(along), Spots: s.spots(across * along)}
}

// tiles are at times one too few, or one too many.
func (s *source) tiles() int64 { return int64(s.below(impl.MaxTiles + 2)) }

// patch has any degree, with as many spots.
func (s *source) patch() ([]impl.Spot, int64) {
	degree := 1 + s.below(3)
	return s.spots((degree + 1) * (degree + 2) / 2), int64(degree)
}
