package tests

import (
	"math"
	"math/rand"
	"slices"
	"testing"

	"loop.example/g01328/impl"
)

// outlineArguments are what all functions of chapter 7 take.
type outlineArguments struct {
	first, second  impl.Outline
	points, path   []complex64
	pattern, longs []float32
	plan           impl.Plan
	a, b, c        complex64
	x, y, z, t     float32
	side           int64
	even           bool
	bytes          string
}

// ofAllOutlines has the results of all functions of chapter 7.
func ofAllOutlines(a outlineArguments) []outcome {
	var o outcome
	list := []impl.Outline{a.first, a.second}
	o.single = append(o.single, truth(impl.SameOutlines(list, list[:1])), truth(impl.SameOutlines(list[:1], list[1:])), truth(impl.SameOutlines(list, list)))
	o.addBytes(impl.StoreOutlines(list))
	o.addDashes(impl.DashPath(a.path, a.pattern, a.x))
	o.addArc(impl.RoundCorner(a.a, a.b, a.c, a.x))
	o.addCells(impl.FillShared(a.first, 3, a.even, a.side))
	return []outcome{
		o, ofOutlines(a.first, a.a, a.side, a.even), ofOutlines(a.second, a.b, a.side, !a.even),
		ofLines(a.points, a.a, a.b), ofLines(a.path, a.b, a.c), ofPlans(a.longs, a.plan, a.x, a.y, a.z, a.t), ofBytes(a.bytes),
	}
}

func (a outlineArguments) copy() outlineArguments {
	a.first, a.second = copyOutline(a.first), copyOutline(a.second)
	a.points, a.path = slices.Clone(a.points), slices.Clone(a.path)
	a.pattern, a.longs = slices.Clone(a.pattern), slices.Clone(a.longs)
	return a
}

// roomy returns equal arguments, of which each list has room behind it, and all that is in memory.
func (a outlineArguments) roomy() (outlineArguments, lists) {
	var memory lists
	a = a.copy()
	a.points, a.path = withRoom(a.points, 71, &memory.points), withRoom(a.path, 72, &memory.points)
	a.pattern, a.longs = withRoom(a.pattern, 81, &memory.numbers), withRoom(a.longs, 82, &memory.numbers)
	for _, o := range []impl.Outline{a.first, a.second} {
		for i := range o.Loops {
			o.Loops[i] = withRoom(o.Loops[i], 73, &memory.points)
		}
	}
	return a, memory
}

func (s *source) outlineArguments() outlineArguments {
	a := outlineArguments{first: s.outline(), points: s.placesOnGrid(1 + s.below(66)), path: s.path(), pattern: s.pattern(), longs: s.sizes(s.below(66)), plan: s.plan()}
	a.second = copyOutline(a.first)
	if s.below(2) == 0 {
		a.second = s.outline()
	}
	corners := s.placesOnGrid(3)
	a.a, a.b, a.c = corners[0], corners[1], corners[2]
	a.x, a.y, a.z, a.t = s.size(), s.size(), s.size(), s.size()
	a.side, a.even, a.bytes = int64(s.below(10)), s.below(2) == 0, s.bytes(s.below(4))
	return a
}

// Promise 1: nothing is modified, results are new, and equal arguments have equal results.
func TestOutlinesArePure(t *testing.T) {
	s := newSource()
	for range 300 {
		wantPure(t, s.outlineArguments(), ofAllOutlines)
	}
}

// Promise 1: lists of outlines and of loops stay as they are, with all that is behind them.
func TestLoopsStay(t *testing.T) {
	for _, o := range someOutlines() {
		all := append(copyLists(o.Loops), []complex64{61, 62, 63}, []complex64{64, 65, 66})
		old := copyLists(all)
		o.Loops = all[:len(o.Loops)]
		list := []impl.Outline{o, o, outline("zz", []complex64{7, 8, 9})}
		ofOutlines(o, 1+1i, 3, true)
		impl.SameOutlines(list[:2], list[1:])
		impl.StoreOutlines(list[:2])
		wantTrue(t, slices.EqualFunc(all, old, samePoints), "loops not modified", o)
		wantTrue(t, sameOutline(list[0], o) && sameOutline(list[1], o) && sameOutline(list[2], outline("zz", []complex64{7, 8, 9})), "outlines not modified", o)
	}
}

// Promise 1: each call returns a list of loops, of dashes, of outlines or of cells of its own.
func TestOutlinesAreNew(t *testing.T) {
	o := frame()
	stored, _ := impl.StoreOutlines([]impl.Outline{o, tile()})
	dashed := func() ([][]complex64, bool) {
		return impl.DashPath([]complex64{0, 3}, []float32{1, 1}, 0)
	}
	loops := func(of impl.Outline, ok bool) ([][]complex64, bool) { return of.Loops, ok }
	for i, listOf := range []func() ([][]complex64, bool){
		dashed,
		func() ([][]complex64, bool) { return loops(impl.MoveOutline(o, 1)) },
		func() ([][]complex64, bool) { return loops(impl.MoveOutline(o, 0)) },
		func() ([][]complex64, bool) { return loops(impl.BackLoops(o)) },
		func() ([][]complex64, bool) { return loops(impl.LoadOutline(bytesOf(o))) },
		func() ([][]complex64, bool) {
			list, _, ok := impl.RecoverOutlines(stored)
			return list[0].Loops, ok
		},
	} {
		first, _ := listOf()
		second, ok := listOf()
		old := copyLists(second)
		wantTrue(t, ok && len(first) == 2, "lists", i)
		clear(first[0])
		clear(first[:cap(first)])
		wantTrue(t, slices.EqualFunc(second, old, samePoints), "lists of their own", i)
		wantTrue(t, sameOutline(o, frame()), "outline not modified", i)
	}
	first, _, _ := impl.RecoverOutlines(stored)
	second, _, _ := impl.RecoverOutlines(stored)
	clear(first[:cap(first)])
	wantTrue(t, len(second) == 2 && sameOutline(second[0], o) && sameOutline(second[1], tile()), "outlines of their own")
	for i, cellsOf := range []func() ([]bool, bool){
		func() ([]bool, bool) { return impl.FillGrid(o, 4, false) },
		func() ([]bool, bool) { return impl.FillShared(o, 4, false, 3) },
	} {
		first, _ := cellsOf()
		second, ok := cellsOf()
		clear(first[:cap(first)])
		wantCells(t, second, ok, repeated(true, 16), "cells of their own", i)
	}
}

func wildOutline(r *rand.Rand) impl.Outline {
	names := []string{"a", "abcdefgh", "", "A", "abcdefghi", "\xff", "a\n"}
	o := impl.Outline{Name: names[r.Intn(2+r.Intn(6))]}
	for range r.Intn(6) {
		loop := wildPointList(r, []int{0, 2, 3, 4, 5, 6, 64, 65}[r.Intn(8)])
		if r.Intn(2) == 0 {
			for i := range loop {
				loop[i] = complex(float32(r.NormFloat64()), float32(math.Ldexp(r.NormFloat64(), r.Intn(200)-70)))
			}
		}
		o.Loops = append(o.Loops, loop)
	}
	return o
}

// wildOutlineArguments are seldom valid.
func wildOutlineArguments(r *rand.Rand) outlineArguments {
	sides := []int64{0, 1, 2, 3, 8, 9, 16, 17, -1, math.MaxInt64, math.MinInt64, 1 << 31, 1<<32 + 1}
	count := func() int { return []int{0, 1, 2, 3, 4, 5, 48, 49, 64, 65}[r.Intn(10)] }
	a := outlineArguments{first: wildOutline(r), second: wildOutline(r), side: sides[r.Intn(len(sides))], even: r.Intn(2) == 0}
	a.points, a.path = wildPointList(r, count()), wildPointList(r, count())
	a.pattern, a.longs = wildList(r, r.Intn(18)), wildList(r, count())
	a.x, a.y, a.z, a.t = wildNumber(r), wildNumber(r), wildNumber(r), wildNumber(r)
	a.plan = impl.Plan{Jerk: wildNumber(r), Rise: wildNumber(r), Hold: wildNumber(r), Cruise: wildNumber(r)}
	corners := wildPointList(r, 3)
	if r.Intn(2) == 0 {
		for _, list := range [][]complex64{a.points, a.path, corners} {
			for i := range list {
				list[i] = complex(float32(math.Ldexp(r.NormFloat64(), r.Intn(260)-135)), float32(math.Ldexp(r.NormFloat64(), r.Intn(260)-135)))
			}
		}
		for _, list := range [][]float32{a.pattern, a.longs} {
			for i := range list {
				list[i] = float32(math.Ldexp(r.Float64(), r.Intn(260)-135))
			}
		}
		a.x, a.y, a.z, a.t = a.x*a.x, a.y*a.y, a.z*a.z, a.t*a.t
		p := a.plan
		a.plan = impl.Plan{Jerk: p.Jerk * p.Jerk, Rise: p.Rise * p.Rise, Hold: p.Hold * p.Hold, Cruise: p.Cruise * p.Cruise}
	}
	a.a, a.b, a.c = corners[0], corners[1], corners[2]
	bytes := make([]byte, r.Intn(80))
	r.Read(bytes)
	a.bytes = "OUT1\x01a\x01\x03" + string(bytes)
	if r.Intn(2) == 0 {
		a.bytes = checked(a.bytes[:8] + string(make([]byte, 24)))
	}
	return a
}

// otherwise has other not-a-numbers in place of those that there are.
func (a outlineArguments) otherwise() outlineArguments {
	a = a.copy()
	for _, list := range slices.Concat(a.first.Loops, a.second.Loops, [][]complex64{a.points, a.path}) {
		for i := range list {
			list[i] = otherComplex(list[i])
		}
	}
	for _, list := range [][]float32{a.pattern, a.longs} {
		for i := range list {
			list[i] = otherwise(list[i])
		}
	}
	a.a, a.b, a.c = otherComplex(a.a), otherComplex(a.b), otherComplex(a.c)
	a.x, a.y, a.z, a.t = otherwise(a.x), otherwise(a.y), otherwise(a.z), otherwise(a.t)
	p := a.plan
	a.plan = impl.Plan{Jerk: otherwise(p.Jerk), Rise: otherwise(p.Rise), Hold: otherwise(p.Hold), Cruise: otherwise(p.Cruise)}
	return a
}

// Promise 1: functions return for any numbers, not-a-numbers are one value, and nothing that is returned is not finite.
func TestOutlinesAreTotal(t *testing.T) {
	r := fixedRandom()
	for range 3000 {
		a := wildOutlineArguments(r)
		want := ofAllOutlines(a)
		wantTrue(t, sameOutcomes(ofAllOutlines(a.otherwise()), want), "equal arguments", a)
		for _, o := range want {
			wantFinite(t, o, "finite results of", a)
			for _, x := range slices.Concat(o.numbers...) {
				wantTrue(t, x-x == 0, "finite numbers of", a)
			}
			for _, z := range slices.Concat(o.points...) {
				wantTrue(t, z-z == 0, "finite points of", a)
			}
		}
	}
}

// Promise 1: nil and an empty list are the same value, and functions that fail return nothing.
func TestNoListsOfOutlines(t *testing.T) {
	nothing := impl.Outline{Loops: [][]complex64{}}
	empty := outlineArguments{first: nothing, second: nothing, points: []complex64{}, path: []complex64{}, pattern: []float32{}, longs: []float32{}}
	wantTrue(t, sameOutcomes(ofAllOutlines(empty), ofAllOutlines(outlineArguments{})), "nil and empty lists")
	results := ofAllOutlines(outlineArguments{})
	for _, o := range results[1:6] {
		wantNothing(t, o, "outlines of nothing")
	}
	for _, list := range [][]impl.Outline{nil, {}} {
		wantTrue(t, impl.SameOutlines(list, nil), "SameOutlines of none")
		stored, ok := impl.StoreOutlines(list)
		wantPair(t, stored, ok, "", true, "StoreOutlines of none")
	}
}
