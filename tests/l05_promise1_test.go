package tests

import (
	"math"
	"math/rand"
	"slices"
	"testing"

	"loop.example/g01328/impl"
)

// fitArguments are what all functions of chapter 5 take.
type fitArguments struct {
	path, other   []complex64
	x, y, told    []float32
	pieces        []impl.Curve
	arc           impl.Arc
	a, b, c       complex64
	at, by, third float32
	n             int64
}

// ofFits has the results of all functions of chapter 5.
func ofFits(a fitArguments) []outcome {
	var o outcome
	gap, turn, ok := impl.JoinMiss(a.pieces)
	o.addNumber(gap, ok)
	o.addNumber(turn, ok)
	o.addArc(impl.ArcThrough(a.a, a.b, a.c))
	points, end, ok := impl.SpiralPoints(a.at, a.by, a.third, a.n)
	o.addPoints(points, ok)
	o.addNumber(end, ok)
	list := []outcome{o, ofGraphs(a.x, a.y, a.told, a.at), ofQuiet(a.told, a.by), ofQuiet(a.y, a.third), ofArcs(a.arc, a.at)}
	for _, path := range [][]complex64{a.path, a.other} {
		list = append(list, ofPaths(path, a.a, a.b, a.at, a.by, a.n))
	}
	return list
}

func copyCurves(list []impl.Curve) []impl.Curve {
	copies := slices.Clone(list)
	for i, c := range copies {
		copies[i] = copyCurve(c)
	}
	return copies
}

func (a fitArguments) copy() fitArguments {
	a.path, a.other = slices.Clone(a.path), slices.Clone(a.other)
	a.x, a.y, a.told = slices.Clone(a.x), slices.Clone(a.y), slices.Clone(a.told)
	a.pieces = copyCurves(a.pieces)
	return a
}

// roomy returns equal arguments, of which each list has room behind it, and all that is in memory.
func (a fitArguments) roomy() (fitArguments, lists) {
	var memory lists
	a.pieces = copyCurves(a.pieces)
	for i, c := range a.pieces {
		a.pieces[i] = impl.Curve{Points: withRoom(c.Points, 71, &memory.points), Weights: withRoom(c.Weights, 81, &memory.numbers)}
	}
	a.path, a.other = withRoom(a.path, 72, &memory.points), withRoom(a.other, 73, &memory.points)
	for _, list := range []*[]float32{&a.x, &a.y, &a.told} {
		*list = withRoom(*list, 82, &memory.numbers)
	}
	return a, memory
}

func (s *source) fitArguments() fitArguments {
	a := fitArguments{path: s.path(), other: s.points(2 + s.below(9)), pieces: s.cubics(), arc: s.arc(), a: s.point(), b: s.point(), c: s.point()}
	a.x, a.y = s.graph()
	a.told = s.numbers(len(a.x))
	a.at, a.by, a.third = s.time(), s.time(), s.time()
	if s.below(2) == 0 {
		a.at = s.placeIn(a.x)
	}
	a.n = int64(s.below(impl.MaxPath + 3))
	return a
}

// Promise 1: nothing is modified, results are new, and equal arguments have equal results.
func TestFitsArePure(t *testing.T) {
	s := newSource()
	for range 300 {
		wantPure(t, s.fitArguments(), ofFits)
	}
}

// Promise 1: the list of pieces stays as it is, with all that is behind it.
func TestJoinMissIsPure(t *testing.T) {
	pieces := repeated(plain(0, 1, 2, 3), 9)
	old := copyCurves(pieces)
	impl.JoinMiss(pieces[:5])
	wantTrue(t, slices.EqualFunc(pieces, old, sameCurves), "pieces not modified")
}

// Promise 1: each call returns a list of pieces of its own.
func TestPiecesAreNew(t *testing.T) {
	path := sawtooth(9)
	for i, piecesOf := range []func() ([]impl.Curve, bool){
		func() ([]impl.Curve, bool) { return impl.LoosePieces(path, 1) },
		func() ([]impl.Curve, bool) { return impl.NaturalPieces(path) },
		func() ([]impl.Curve, bool) { return impl.FitPieces(path, 0.01) },
	} {
		first, _ := piecesOf()
		second, _ := piecesOf()
		old := copyCurves(second)
		wantTrue(t, len(first) > 1, "pieces", i)
		for k := range first[:cap(first)] {
			first[:cap(first)][k] = plain(9, 9)
		}
		wantTrue(t, slices.EqualFunc(second, old, sameCurves), "pieces of their own", i)
	}
	wantTrue(t, samePoints(path, sawtooth(9)), "path not modified")
}

// wildFitArguments are seldom valid.
func wildFitArguments(r *rand.Rand) fitArguments {
	counts := []int64{0, 1, 2, 3, 7, 48, 49, 256, 257, -1, math.MaxInt64, math.MinInt64, 1 << 31, 1<<32 + 2}
	count := func() int { return []int{0, 1, 2, 3, 4, 8, 48, 49}[r.Intn(8)] }
	a := fitArguments{path: wildPointList(r, count()), other: wildPointList(r, 2+r.Intn(4)), at: wildNumber(r), by: wildNumber(r), third: wildNumber(r), n: counts[r.Intn(len(counts))]}
	a.x = wildList(r, count())
	a.y, a.told = wildList(r, len(a.x)), wildList(r, len(a.x))
	switch r.Intn(3) {
	case 0:
		slices.Sort(a.x)
	case 1:
		// As far apart as numbers are.
		a.x = []float32{-mostNumber, leastNumber, mostNumber}
		a.y, a.told = wildList(r, 3), wildList(r, 3)
	}
	if r.Intn(2) == 0 && len(a.x) > 0 {
		a.at = a.x[r.Intn(len(a.x))]
	}
	for range r.Intn(4) {
		a.pieces = append(a.pieces, plain(wildPointList(r, 3+r.Intn(3))...))
	}
	a.arc = impl.Arc{Middle: wildPointList(r, 1)[0], Round: wildNumber(r), From: wildNumber(r), Turn: wildNumber(r)}
	wild := wildPointList(r, 3)
	a.a, a.b, a.c = wild[0], wild[1], wild[2]
	return a
}

// otherwise has other not-a-numbers in place of those that there are.
func (a fitArguments) otherwise() fitArguments {
	a = a.copy()
	points := [][]complex64{a.path, a.other}
	for _, piece := range a.pieces {
		points = append(points, piece.Points)
	}
	for _, list := range points {
		for i := range list {
			list[i] = otherComplex(list[i])
		}
	}
	for _, list := range [][]float32{a.x, a.y, a.told} {
		for i := range list {
			list[i] = otherwise(list[i])
		}
	}
	a.arc = impl.Arc{Middle: otherComplex(a.arc.Middle), Round: otherwise(a.arc.Round), From: otherwise(a.arc.From), Turn: otherwise(a.arc.Turn)}
	a.a, a.b, a.c = otherComplex(a.a), otherComplex(a.b), otherComplex(a.c)
	a.at, a.by, a.third = otherwise(a.at), otherwise(a.by), otherwise(a.third)
	return a
}

// Promise 1: functions return for any numbers, not-a-numbers are one value, and nothing that is returned is not finite.
func TestFitsAreTotal(t *testing.T) {
	r := fixedRandom()
	for range 4000 {
		a := wildFitArguments(r)
		want := ofFits(a)
		wantTrue(t, sameOutcomes(ofFits(a.otherwise()), want), "equal arguments", a)
		for _, o := range want {
			wantFinite(t, o, "finite results of", a)
			for _, list := range o.numbers {
				wantFinite(t, outcome{single: list}, "finite numbers of", a)
			}
			for _, list := range o.points {
				for _, point := range list {
					wantTrue(t, point-point == 0, "finite points of", a)
				}
			}
		}
	}
}

// Promise 1: nil and an empty list are the same value, and functions that fail return nothing.
func TestNoListsOfFits(t *testing.T) {
	empty := fitArguments{path: []complex64{}, other: []complex64{}, x: []float32{}, y: []float32{}, told: []float32{}, pieces: []impl.Curve{}}
	wantTrue(t, sameOutcomes(ofFits(empty), ofFits(fitArguments{})), "nil and empty lists")
	for _, o := range ofFits(fitArguments{}) {
		wantNothing(t, o, "fits of nothing")
	}
}
