package tests

import (
	"math"
	"math/rand"
	"slices"
	"testing"

	"loop.example/g01328/impl"
)

// lists has all lists that functions return, or that they take.
type lists struct {
	points  [][]complex64
	numbers [][]float32
	spots   [][]impl.Spot
	indices [][]int64
}

// outcome has all that functions return: lists, and single numbers.
type outcome struct {
	lists
	single []float32
}

func (o *outcome) addPoints(points []complex64, ok bool) {
	o.points = append(o.points, points)
	o.single = append(o.single, truth(ok), float32(len(points)))
}

func (o *outcome) addNumbers(numbers []float32, ok bool) {
	o.numbers = append(o.numbers, numbers)
	o.single = append(o.single, truth(ok), float32(len(numbers)))
}

func (o *outcome) addCurve(c impl.Curve, ok bool) {
	o.addPoints(c.Points, ok)
	o.addNumbers(c.Weights, ok)
}

func (o *outcome) addSpline(s impl.Spline, ok bool) {
	o.single = append(o.single, float32(s.Degree))
	o.addPoints(s.Points, ok)
	o.addNumbers(s.Knots, ok)
}

func (o *outcome) addPoint(point complex64, ok bool) {
	o.single = append(o.single, real(point), imag(point), truth(ok))
}

// arguments are what all functions of chapter 2 take.
type arguments struct {
	curve, other   impl.Curve
	spline, second impl.Spline
	x, y           float32
	point          complex64
	n              int64
}

func ofCurves(a arguments) outcome {
	var o outcome
	o.single = append(o.single, truth(impl.ValidCurve(a.curve)), truth(impl.SameCurve(a.curve, a.other)))
	o.addCurve(impl.PlainCurve(a.curve.Points))
	o.addCurve(impl.QuarterCurve(a.point, a.x))
	o.addPoint(impl.CurveAt(a.curve, a.x))
	o.addPoint(impl.SlopeAt(a.curve, a.x))
	former, latter, ok := impl.CutCurve(a.curve, a.x)
	o.addCurve(former, ok)
	o.addCurve(latter, ok)
	o.addCurve(impl.PartOfCurve(a.curve, a.x, a.y))
	o.addCurve(impl.PartOfCurve(a.curve, 0, a.y))
	o.addCurve(impl.BackCurve(a.curve))
	o.addCurve(impl.MoveCurve(a.curve, a.point))
	o.addCurve(impl.TurnCurve(a.curve, a.x, a.y))
	o.addCurve(impl.RaiseCurve(a.curve))
	o.addCurve(impl.SlopeCurve(a.curve))
	o.addNumbers(impl.SharesAt(a.n, a.x))
	o.addCurve(impl.BlendCurves(a.curve, a.other, a.x))
	o.addPoints(impl.PointsOn(a.curve, a.n))
	return o
}

func ofSplines(a arguments) outcome {
	var o outcome
	o.single = append(o.single, truth(impl.ValidSpline(a.spline)), truth(impl.SameSpline(a.spline, a.second)))
	o.addSpline(impl.EvenSpline(a.spline.Points, a.n))
	span, ok := impl.SpanAt(a.spline, a.x)
	o.single = append(o.single, float32(span), truth(ok))
	o.addPoint(impl.SplineAt(a.spline, a.x))
	o.addNumbers(impl.BasisAt(a.spline, a.x))
	o.addPoint(impl.SplineSlope(a.spline, a.x))
	o.addSpline(impl.PutKnot(a.spline, a.x))
	pieces, ok := impl.PiecesOf(a.spline)
	o.single = append(o.single, float32(len(pieces)), truth(ok))
	for _, piece := range pieces {
		o.addCurve(piece, ok)
	}
	o.addSpline(impl.MoveCorner(a.spline, a.n, a.point))
	return o
}

func outcomesOf(a arguments) []outcome { return []outcome{ofCurves(a), ofSplines(a)} }

func (l lists) same(other lists) bool {
	return slices.EqualFunc(l.points, other.points, samePoints) &&
		slices.EqualFunc(l.numbers, other.numbers, sameNumbers) &&
		slices.EqualFunc(l.spots, other.spots, sameSpots) &&
		slices.EqualFunc(l.indices, other.indices, slices.Equal)
}

func copyLists[T any](list [][]T) [][]T {
	copies := make([][]T, len(list))
	for i := range list {
		copies[i] = slices.Clone(list[i])
	}
	return copies
}

func (l lists) copy() lists {
	return lists{points: copyLists(l.points), numbers: copyLists(l.numbers), spots: copyLists(l.spots), indices: copyLists(l.indices)}
}

func sameOutcomes(a, b []outcome) bool {
	return slices.EqualFunc(a, b, func(a, b outcome) bool {
		return a.lists.same(b.lists) && sameNumbers(a.single, b.single)
	})
}

func (a arguments) copy() arguments {
	a.curve, a.other = copyCurve(a.curve), copyCurve(a.other)
	a.spline, a.second = copySpline(a.spline), copySpline(a.second)
	return a
}

// withRoom returns an equal list with room behind it, and notes all that is in memory.
func withRoom[T any](list []T, filler T, memory *[][]T) []T {
	more := append(slices.Clone(list), repeated(filler, 9)...)
	*memory = append(*memory, more)
	return more[:len(list)]
}

// roomy returns equal arguments, of which each list has room behind it, and all that is in memory.
func (a arguments) roomy() (arguments, lists) {
	var memory lists
	for _, c := range []*impl.Curve{&a.curve, &a.other} {
		c.Points, c.Weights = withRoom(c.Points, 71, &memory.points), withRoom(c.Weights, 81, &memory.numbers)
	}
	for _, s := range []*impl.Spline{&a.spline, &a.second} {
		s.Points, s.Knots = withRoom(s.Points, 72, &memory.points), withRoom(s.Knots, 82, &memory.numbers)
	}
	return a, memory
}

// wantOwn fills all lists, and the room behind them, with values of their own.
func wantOwn[T comparable](t *testing.T, all [][]T, valueOf func(i int) T) {
	t.Helper()
	for i, list := range all {
		for k := range list[:cap(list)] {
			list[:cap(list)][k] = valueOf(i)
		}
	}
	for i, list := range all {
		for _, value := range list[:cap(list)] {
			wantEqual(t, value, valueOf(i), "value of list", i)
		}
	}
}

func (l lists) wantOwnMemory(t *testing.T) {
	t.Helper()
	wantOwn(t, l.points, func(i int) complex64 { return complex(float32(i), 0.5) })
	wantOwn(t, l.numbers, func(i int) float32 { return float32(i) + 0.25 })
	wantOwn(t, l.spots, func(i int) impl.Spot { return impl.Spot{X: float32(i), Z: 0.75} })
	wantOwn(t, l.indices, func(i int) int64 { return int64(-1 - i) })
}

func (s *source) arguments() arguments {
	a := arguments{curve: s.curve(1, 7), spline: s.spline(16), x: s.time(), y: s.time(), point: s.point(), n: int64(s.below(8))}
	for len(a.other.Points) != len(a.curve.Points) {
		a.other = s.curve(1, 7)
	}
	a.second = copySpline(a.spline)
	if s.below(2) == 0 {
		a.second.Points[0] = 9
	}
	if s.below(4) > 0 {
		a.x, a.y = min(a.x, a.y), max(a.x, a.y)
	}
	if s.below(2) == 0 {
		a.x = s.timeOf(a.spline)
	}
	return a
}

// pureArguments are arguments of any chapter.
type pureArguments[A any] interface {
	copy() A
	roomy() (A, lists)
}

// wantPure holds results of equal arguments against each other, and looks for what has been modified.
func wantPure[A pureArguments[A]](t *testing.T, first A, outcomesOf func(A) []outcome) {
	t.Helper()
	second, memory := first.roomy()
	old := memory.copy()
	want := outcomesOf(first.copy())
	got := outcomesOf(second)
	wantTrue(t, sameOutcomes(got, want), "equal arguments", first)
	for _, o := range got {
		o.wantOwnMemory(t)
	}
	wantTrue(t, memory.same(old), "lists not modified", first)
	wantTrue(t, sameOutcomes(outcomesOf(second), want), "once more", first)
}

// Promise 1: nothing is modified, results are new, and equal arguments have equal results.
func TestCurvesArePure(t *testing.T) {
	s := newSource()
	for range 400 {
		wantPure(t, s.arguments(), outcomesOf)
	}
}

// wildNumber is any number, an edge of the format now and then.
func wildNumber(r *rand.Rand) float32 {
	special := append(specialNumbers(), fewNumbers()...)
	switch r.Intn(4) {
	case 0:
		return special[r.Intn(len(special))]
	case 1:
		return r.Float32()
	}
	return randomNumber(r)
}

func wildList(r *rand.Rand, count int) []float32 {
	list := make([]float32, count)
	for i := range list {
		list[i] = wildNumber(r)
	}
	return list
}

func wildPointList(r *rand.Rand, count int) []complex64 {
	list := make([]complex64, count)
	for i := range list {
		list[i] = complex(wildNumber(r), wildNumber(r))
	}
	return list
}

// wildArguments are seldom valid.
func wildArguments(r *rand.Rand) arguments {
	counts := []int64{0, 1, 2, 3, 5, 7, 8, 24, 25, -1, math.MaxInt64, math.MinInt64, 1 << 31, 1 << 32}
	a := arguments{x: wildNumber(r), y: wildNumber(r), point: wildPointList(r, 1)[0], n: counts[r.Intn(len(counts))]}
	a.curve = impl.Curve{Points: wildPointList(r, r.Intn(10)), Weights: wildList(r, r.Intn(10))}
	a.other = impl.Curve{Points: wildPointList(r, len(a.curve.Points)), Weights: repeated[float32](1, len(a.curve.Points))}
	if r.Intn(2) == 0 {
		a.curve, a.other = a.other, a.curve
	}
	a.spline = impl.Spline{Degree: counts[r.Intn(len(counts))], Points: wildPointList(r, r.Intn(27)), Knots: wildList(r, r.Intn(33))}
	if degree := int(a.spline.Degree); degree >= 1 && degree <= 8 {
		a.spline.Knots = wildList(r, len(a.spline.Points)+degree+1)
		slices.Sort(a.spline.Knots)
		for i := range degree + 1 {
			a.spline.Knots[i] = -mostNumber
			a.spline.Knots[len(a.spline.Knots)-1-i] = mostNumber
		}
	}
	a.second = a.spline
	return a
}

// Promise 1: functions return for any numbers, and not-a-numbers are one value.
func TestCurvesAreTotal(t *testing.T) {
	r := fixedRandom()
	for range 4000 {
		a := wildArguments(r)
		want := outcomesOf(a)
		wantTrue(t, sameOutcomes(outcomesOf(a.otherwise()), want), "equal arguments", a)
	}
}

// otherwise has other not-a-numbers in place of those that there are.
func (a arguments) otherwise() arguments {
	a = a.copy()
	for _, list := range [][]complex64{a.curve.Points, a.other.Points, a.spline.Points, a.second.Points} {
		for i := range list {
			list[i] = otherComplex(list[i])
		}
	}
	for _, list := range [][]float32{a.curve.Weights, a.other.Weights, a.spline.Knots, a.second.Knots} {
		for i := range list {
			list[i] = otherwise(list[i])
		}
	}
	a.x, a.y, a.point = otherwise(a.x), otherwise(a.y), otherComplex(a.point)
	return a
}

// Promise 1: nil and an empty list are the same value.
func TestNoListsOfCurves(t *testing.T) {
	empty := arguments{n: 1}
	empty.curve = impl.Curve{Points: []complex64{}, Weights: []float32{}}
	empty.spline = impl.Spline{Degree: 1, Points: []complex64{}, Knots: []float32{}}
	missing := arguments{n: 1}
	missing.spline.Degree = 1
	wantTrue(t, sameOutcomes(outcomesOf(empty), outcomesOf(missing)), "nil and empty lists")
	for _, o := range outcomesOf(missing) {
		for _, list := range o.points {
			wantTrue(t, len(list) == 0, "list of a function that fails", list)
		}
	}
}
