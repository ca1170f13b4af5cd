package tests

import (
	"math"
	"math/rand"
	"testing"

	"loop.example/g01328/impl"
)

// sheetArguments are what all functions of chapter 4 take.
type sheetArguments struct {
	sheet, other impl.Sheet
	list, patch  []impl.Spot
	spot, way    impl.Spot
	x, y         float32
	m, n, k      int64
}

// ofChapter4 has the results of all functions of chapter 4.
func ofChapter4(a sheetArguments) []outcome {
	var o outcome
	o.single = append(o.single, truth(impl.IsSpot(a.spot)), truth(impl.SameSpot(a.spot, a.way)))
	o.single = append(o.single, truth(impl.ValidSheet(a.sheet)), truth(impl.SameSheet(a.sheet, a.other)))
	o.addSpot(impl.CrossSpots(a.spot, a.way))
	o.addNumber(impl.LongOfSpot(a.spot))
	o.addSheet(impl.FlatSheet(a.m, a.n, a.x, a.y))
	o.addSheet(impl.CornerSheet(a.spot, a.way, a.spot, a.way))
	o.addIndices(impl.TrianglesOf(a.m, a.n))
	list := []outcome{o, ofSpots(a.list, a.spot), ofTiles(a.list, a.m, a.n, a.way, a.x)}
	list = append(list, ofPatches(a.patch, a.k, a.x, a.y), ofPatches(a.list, a.k, a.x, a.y))
	for _, s := range []impl.Sheet{a.sheet, a.other} {
		list = append(list, ofSheets(s, a.x, a.y, a.m, a.n, a.k))
	}
	return list
}

func (a sheetArguments) copy() sheetArguments {
	a.sheet, a.other = copySheet(a.sheet), copySheet(a.other)
	memory := lists{spots: [][]impl.Spot{a.list, a.patch}}.copy()
	a.list, a.patch = memory.spots[0], memory.spots[1]
	return a
}

// roomy returns equal arguments, of which each list has room behind it, and all that is in memory.
func (a sheetArguments) roomy() (sheetArguments, lists) {
	var memory lists
	for _, list := range []*[]impl.Spot{&a.sheet.Spots, &a.other.Spots, &a.list, &a.patch} {
		*list = withRoom(*list, spot(91, 92, 93), &memory.spots)
	}
	return a, memory
}

func (s *source) sheetArguments() sheetArguments {
	a := sheetArguments{sheet: s.sheet(), spot: s.spot(), way: s.spot(), x: s.time() / 2, y: s.time() / 2, m: s.tiles(), n: s.tiles()}
	a.other = copySheet(a.sheet)
	if s.below(2) == 0 {
		a.other = s.sheet()
	}
	a.list = s.spots(int((a.m + 1) * (a.n + 1)))
	a.patch, a.k = s.patch()
	return a
}

// Promise 1: nothing is modified, results are new, and equal arguments have equal results.
func TestSheetsArePure(t *testing.T) {
	s := newSource()
	for range 300 {
		wantPure(t, s.sheetArguments(), ofChapter4)
	}
}

func wildSpots(r *rand.Rand, count int) []impl.Spot {
	list := make([]impl.Spot, count)
	for i := range list {
		list[i] = spot(wildNumber(r), wildNumber(r), wildNumber(r))
	}
	return list
}

// wildSheetArguments are seldom valid.
func wildSheetArguments(r *rand.Rand) sheetArguments {
	counts := []int64{0, 1, 2, 3, 6, 7, 8, 12, 13, -1, math.MaxInt64, math.MinInt64, 1 << 31, 1 << 32}
	count := func() int64 { return counts[r.Intn(len(counts))] }
	a := sheetArguments{x: wildNumber(r), y: wildNumber(r), m: count(), n: count(), k: count()}
	a.sheet = impl.Sheet{Across: count(), Along: count(), Spots: wildSpots(r, r.Intn(40))}
	if across, along := int64(r.Intn(8)), int64(r.Intn(8)); r.Intn(2) == 0 {
		a.sheet = impl.Sheet{Across: across, Along: along, Spots: wildSpots(r, int(across*along))}
	}
	a.other = impl.Sheet{Across: 2, Along: 2, Spots: wildSpots(r, 4)}
	a.list = wildSpots(r, r.Intn(20))
	if a.m >= 0 && a.m <= 13 && a.n >= 0 && a.n <= 13 {
		a.list = wildSpots(r, int((a.m+1)*(a.n+1)))
	}
	a.patch = wildSpots(r, []int{0, 1, 3, 6, 10, 15}[r.Intn(6)])
	if r.Intn(2) == 0 {
		a.x, a.y = r.Float32()/2, r.Float32()/2
	}
	wild := wildSpots(r, 2)
	a.spot, a.way = wild[0], wild[1]
	return a
}

func otherSpot(p impl.Spot) impl.Spot {
	return spot(otherwise(p.X), otherwise(p.Y), otherwise(p.Z))
}

// otherwise has other not-a-numbers in place of those that there are.
func (a sheetArguments) otherwise() sheetArguments {
	a = a.copy()
	for _, list := range [][]impl.Spot{a.sheet.Spots, a.other.Spots, a.list, a.patch} {
		for i := range list {
			list[i] = otherSpot(list[i])
		}
	}
	a.spot, a.way = otherSpot(a.spot), otherSpot(a.way)
	a.x, a.y = otherwise(a.x), otherwise(a.y)
	return a
}

// wantFinite is for functions none of which returns a number that is not finite, whether it fails or not.
func wantFinite(t *testing.T, o outcome, what string, args ...any) {
	t.Helper()
	numbers := o.single
	for _, list := range o.spots {
		for _, p := range list {
			numbers = append(numbers, p.X, p.Y, p.Z)
		}
	}
	for _, x := range numbers {
		wantTrue(t, x-x == 0, what, args...)
	}
}

// Promise 1: functions return for any numbers, and not-a-numbers are one value.
func TestSheetsAreTotal(t *testing.T) {
	r := fixedRandom()
	for range 3000 {
		a := wildSheetArguments(r)
		want := ofChapter4(a)
		wantTrue(t, sameOutcomes(ofChapter4(a.otherwise()), want), "equal arguments", a)
		for _, o := range want {
			wantFinite(t, o, "finite results of", a)
		}
	}
}

// Promise 1: nil and an empty list are the same value, and functions that fail return nothing.
func TestNoListsOfSpots(t *testing.T) {
	empty := sheetArguments{m: 1, n: 1, k: 1, x: 0.5, y: 0.5}
	empty.list, empty.patch = []impl.Spot{}, []impl.Spot{}
	empty.sheet.Spots, empty.other.Spots = []impl.Spot{}, []impl.Spot{}
	missing := sheetArguments{m: 1, n: 1, k: 1, x: 0.5, y: 0.5}
	wantTrue(t, sameOutcomes(ofChapter4(empty), ofChapter4(missing)), "nil and empty lists")
	for _, o := range ofChapter4(missing)[1:] {
		wantNothing(t, o, "spots of nothing")
	}
}
