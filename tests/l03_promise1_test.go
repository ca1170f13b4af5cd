package tests

import (
	"runtime"
	"slices"
	"testing"

	"loop.example/g01328/impl"
)

// ofMeasures has the results of all functions of chapter 3.
func ofMeasures(a arguments) []outcome {
	var o outcome
	at, far, ok := impl.NearestOn(a.curve, a.point, a.n)
	o.addNumber(at, ok)
	o.addNumber(far, ok)
	o.addNumbers(impl.LongsShared([]impl.Curve{a.curve, a.other}, 5, a.n))
	o.addNumber(impl.TimeAlong(a.curve, a.n, a.x))
	o.addNumbers(impl.EvenTimes(a.curve, 5, a.n))
	o.addPoint(impl.BesideAt(a.curve, a.x, a.y))
	o.addNumbers(impl.LineMeets(a.curve, a.point, complex(a.x, a.y), a.y))
	o.addMeets(impl.MeetsOf(a.curve, a.other, a.y))
	o.addNumber(impl.FarBetween(a.curve, a.other, a.n))
	list := []outcome{o, ofLoops(a.spline.Points, a.point)}
	for _, c := range []impl.Curve{a.curve, a.other} {
		list = append(list, ofPieces(c, a.n), ofBends(c, a.x, a.n), ofDirections(c, a.x), ofMeets(c, a.y), ofFrames(c, a.y))
	}
	return list
}

// Promise 1: nothing is modified, results are new, and equal arguments have equal results.
func TestMeasuresArePure(t *testing.T) {
	s := newSource()
	for range 400 {
		first := s.arguments()
		if s.below(2) == 0 {
			first.other.Weights = repeated[float32](1, len(first.other.Points))
		}
		wantPure(t, first, ofMeasures)
	}
}

// Promise 1: functions return for any numbers, and not-a-numbers are one value.
func TestMeasuresAreTotal(t *testing.T) {
	r := fixedRandom()
	for range 1500 {
		a := wildArguments(r)
		want := ofMeasures(a)
		wantTrue(t, sameOutcomes(ofMeasures(a.otherwise()), want), "equal arguments", a)
	}
}

// Promise 1: nil and an empty list are the same value, and functions that fail return nothing.
func TestNoListsOfMeasures(t *testing.T) {
	empty := arguments{n: 1, x: 0.5, y: 0.5}
	empty.curve = impl.Curve{Points: []complex64{}, Weights: []float32{}}
	empty.other, empty.spline.Points = empty.curve, []complex64{}
	missing := arguments{n: 1, x: 0.5, y: 0.5}
	wantTrue(t, sameOutcomes(ofMeasures(empty), ofMeasures(missing)), "nil and empty lists")
	for _, o := range ofMeasures(missing) {
		wantNothing(t, o, "measures of nothing")
	}
	first, ok := impl.LongsShared(nil, 1, 1)
	wantNumbers(t, first, ok, nil, "LongsShared of none")
	second, ok := impl.LongsShared([]impl.Curve{}, 1, 1)
	wantNumbers(t, second, ok, nil, "LongsShared of none")
}

// Promise 1: each call returns a list of meets of its own.
func TestMeetsAreNew(t *testing.T) {
	loop := plain(0, 4+4i, -2+4i, 2)
	for _, meetsOf := range []func() ([]impl.Meet, bool){
		func() ([]impl.Meet, bool) { return impl.MeetsOf(bowl(), arch(), leastNear) },
		func() ([]impl.Meet, bool) { return impl.SelfMeets(loop, leastNear) },
	} {
		first, _ := meetsOf()
		second, _ := meetsOf()
		old := slices.Clone(second)
		wantTrue(t, len(first) > 0, "meets")
		for i := range first[:cap(first)] {
			first[:cap(first)][i] = impl.Meet{S: 7, T: 8}
		}
		wantTrue(t, slices.Equal(second, old), "meets of their own", second)
	}
}

// Promise 1: a list of curves stays as it is, with all that is behind it.
func TestLongsSharedIsPure(t *testing.T) {
	list := newSource().curves(8)
	old := make([]impl.Curve, len(list))
	for i, c := range list {
		old[i] = copyCurve(c)
	}
	first, ok := impl.LongsShared(list[:5], 9, 4)
	second, _ := impl.LongsShared(list[:5], 9, 4)
	wantNumbers(t, second, ok, first, "LongsShared once more")
	wantTrue(t, slices.EqualFunc(list, old, sameCurves), "curves not modified")
	first[0] = -1
	wantTrue(t, second[0] >= 0, "lists of their own")
}

// wantNoWorkers is for functions with workers, none of which may go on after a call.
func wantNoWorkers(t *testing.T, call func()) {
	t.Helper()
	before := runtime.NumGoroutine()
	call()
	// A worker tells that it has finished just before it ends, so the last ones may need a moment.
	for range 1000000 {
		if runtime.NumGoroutine() <= before {
			break
		}
		runtime.Gosched()
	}
	wantTrue(t, runtime.NumGoroutine() <= before, "goroutines", before, runtime.NumGoroutine())
}

// Promise 1: no worker goes on after a call.
func TestWorkersEnd(t *testing.T) {
	list := newSource().curves(impl.MaxMeets)
	wantNoWorkers(t, func() {
		for i := range 100 {
			list[7] = plain(make([]complex64, i%3)...)
			impl.LongsShared(list, 64, int64(i%10))
		}
	})
}
