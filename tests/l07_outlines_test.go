package tests

import (
	"testing"

	"loop.example/g01328/impl"
)

// Promise 8: outlines have names of 1 to 8 letters, and 1 to MaxLoops loops.
func TestValidOutline(t *testing.T) {
	for _, o := range someOutlines() {
		wantTrue(t, impl.ValidOutline(o), "ValidOutline", o)
	}
	for _, o := range notOutlines() {
		wantEqual(t, impl.ValidOutline(o), false, "ValidOutline", o)
	}
	wantEqual(t, impl.MaxLoops, 4, "MaxLoops")
	wantEqual(t, impl.MaxGrid, 16, "MaxGrid")
	wantEqual(t, impl.MaxOutlines, 8, "MaxOutlines")
	wantEqual(t, impl.MaxDashes, 48, "MaxDashes")
}

// Promise 8: nothing is told of what is no outline.
func TestNothingOfOtherOutlines(t *testing.T) {
	for _, o := range notOutlines() {
		wantNothing(t, ofOutlines(o, 1+1i, 2, true), "what is no outline", o)
	}
	for i, x := range ofOutlines(tile(), 1+1i, 2, true).single {
		wantTrue(t, x-x == 0, "numbers of an outline", i)
	}
}

// Promise 8: outlines are the same, valid or not, if their names are equal, and their points are the same.
func TestSameOutlines(t *testing.T) {
	list := func(of ...impl.Outline) []impl.Outline { return of }
	all := append(someOutlines(), notOutlines()...)
	wantTrue(t, impl.SameOutlines(all, append(someOutlines(), notOutlines()...)), "SameOutlines of all")
	wantTrue(t, impl.SameOutlines(nil, list()), "SameOutlines of none")
	for i, o := range someOutlines() {
		for k, p := range someOutlines() {
			wantEqual(t, impl.SameOutlines(list(o), list(p)), i == k, "SameOutlines", o, p)
			wantEqual(t, impl.SameOutlines(list(o, p), list(p, o)), i == k, "SameOutlines in another order", o, p)
		}
		wantEqual(t, impl.SameOutlines(list(o), list(o, o)), false, "SameOutlines of one and two", o)
		wantEqual(t, impl.SameOutlines(list(o, o), list(o)), false, "SameOutlines of two and one", o)
		wantEqual(t, impl.SameOutlines(list(o), nil), false, "SameOutlines of one and none", o)
		wantEqual(t, impl.SameOutlines(nil, list(o)), false, "SameOutlines of none and one", o)
	}
	zero, below := outline("a", []complex64{0, 1, 2}), outline("a", []complex64{complex(0, negZero), 1, 2})
	wantEqual(t, impl.SameOutlines(list(zero), list(below)), false, "SameOutlines of zeros with other signs")
	for _, other := range specialNumbers() {
		one, two := outline("", []complex64{complex(other, 0)}), outline("", []complex64{complex(otherwise(other), 0)})
		wantTrue(t, impl.SameOutlines(list(one), list(two)), "SameOutlines", one, two)
	}
	for _, pair := range [][2]impl.Outline{
		{tile(), outline("b", square())}, {tile(), outline("aa", square())}, {tile(), outline("a", square(), square())}, {tile(), outline("a")},
		{outline("a", square(), star()), outline("a", star(), square())}, {outline("a", square(), nil), outline("a", square())},
		{tile(), outline("a", square()[:3])}, {tile(), outline("a", []complex64{0, 2, 2 + 2i, 2.0000002i})},
		// A point belongs to another loop.
		{outline("a", line(3), line(4)), outline("a", line(4), line(3))}, {outline("a", nil, line(1)), outline("a", line(1), nil)},
	} {
		wantEqual(t, impl.SameOutlines(list(pair[0]), list(pair[1])), false, "SameOutlines", pair)
		wantEqual(t, impl.SameOutlines(list(pair[1]), list(pair[0])), false, "SameOutlines", pair)
		wantEqual(t, impl.SameOutlines(list(tile(), pair[0], tile()), list(tile(), pair[1], tile())), false, "SameOutlines between others", pair)
	}
	wantTrue(t, impl.SameOutlines(list(outline("a", nil)), list(outline("a", []complex64{}))), "SameOutlines of a nil loop and an empty one")
}

// Promise 8: areas, to the last bit.
func TestOutlineArea(t *testing.T) {
	large := boxOf(0, complex(0x1p63, 0x1p63))
	tooLarge := boxOf(0, complex(0x1p64, 0x1p64))
	for _, c := range []struct {
		o    impl.Outline
		want float32
	}{
		{tile(), 4}, {frame(), 20}, {holed(), 12}, {outline("a", backwards(square())), -4}, {outline("a", repeated[complex64](1i, 3)), 0}, {outline("a", line(64)), 0},
		{outline("a", square(), backwards(square())), 0}, {outline("abcdefgh", square(), square(), square(), square()), 16},
		// Areas are added in order.
		{outline("a", boxOf(0, 4096+4096i), boxOf(0, 1+1i), boxOf(0, 1+1i)), 0x1p24}, {outline("a", boxOf(0, 1+1i), boxOf(0, 1+1i), boxOf(0, 4096+4096i)), 0x1p24 + 2},
		{outline("a", large, large, large), 3 * 0x1p126}, {outline("a", large, large, large, backwards(large)), 0x1p127},
	} {
		got, ok := impl.OutlineArea(c.o)
		wantOne(t, got, ok, c.want, "OutlineArea", c.o)
	}
	for _, o := range []impl.Outline{
		outline("a", large, large, large, large), outline("a", tooLarge), outline("a", square(), backwards(tooLarge)), outline("a", tooLarge, backwards(tooLarge)),
	} {
		got, ok := impl.OutlineArea(o)
		wantPair(t, got, ok, 0, false, "OutlineArea, too large", o)
	}
}

// Promise 8: how often all loops go around a point, together; lower and left sides of cells are inside.
func TestWindingOf(t *testing.T) {
	for _, c := range []struct {
		o    impl.Outline
		z    complex64
		want int64
	}{
		{tile(), 1 + 1i, 1}, {tile(), 3 + 1i, 0}, {tile(), 1 - 1i, 0}, {tile(), 0, 1}, {tile(), 1, 1}, {tile(), 1i, 1}, {tile(), 1 + 2i, 0}, {tile(), 2 + 1i, 0}, {tile(), 2 + 2i, 0},
		{tile(), complex(negZero, negZero), 1}, {outline("a", backwards(square())), 1 + 1i, -1}, {frame(), 2 + 2i, 2}, {frame(), 0.5 + 2i, 1}, {holed(), 2 + 2i, 0}, {holed(), 0.5 + 2i, 1},
		{outline("star", star()), 0, 2}, {outline("a", square(), square(), square(), square()), 1 + 1i, 4}, {outline("a", star(), star(), backwards(square()), star()), 0.5 + 0.5i, 5},
		{outline("a", square(), boxOf(4, 5+1i)), 4.5 + 0.5i, 1}, {outline("a", repeated[complex64](1i, 3)), 1i, 0},
	} {
		got, ok := impl.WindingOf(c.o, c.z)
		wantPair(t, got, ok, c.want, true, "WindingOf", c.o, c.z)
		for _, even := range []bool{true, false} {
			inside, ok := impl.IsInside(c.o, c.z, even)
			want := c.want != 0
			if even {
				want = c.want == 1 || c.want == -1 || c.want == 5
			}
			wantPair(t, inside, ok, want, true, "IsInside", c.o, c.z, even)
		}
	}
	for _, z := range wildPoints() {
		got, ok := impl.WindingOf(tile(), z)
		wantPair(t, got, ok, 0, false, "WindingOf", z)
		for _, even := range []bool{true, false} {
			inside, ok := impl.IsInside(frame(), z, even)
			wantPair(t, inside, ok, false, false, "IsInside", z, even)
		}
	}
}

// Promise 8: outlines moved, and with loops turned round.
func TestMoveOutline(t *testing.T) {
	got, ok := impl.MoveOutline(outline("ab", square(), []complex64{0, 4, 4i}), 1-3i)
	wantOutline(t, got, ok, outline("ab", []complex64{1 - 3i, 3 - 3i, 3 - 1i, 1 - 1i}, []complex64{1 - 3i, 5 - 3i, 1 + 1i}), "MoveOutline")
	got, ok = impl.MoveOutline(outline("a", []complex64{complex(negZero, negZero), 1, 2}), complex(negZero, 0))
	wantOutline(t, got, ok, outline("a", []complex64{complex(negZero, 0), 1, 2}), "MoveOutline by zeros")
	got, ok = impl.MoveOutline(outline("a", []complex64{0, farPoint, 1i}), -farPoint)
	wantOutline(t, got, ok, outline("a", []complex64{-farPoint, 0, complex(-mostNumber, 1)}), "MoveOutline far away")
	for _, by := range append(wildPoints(), farPoint, complex(0, -mostNumber)) {
		o := outline("a", square(), []complex64{0, 1, complex(mostNumber, -mostNumber)})
		got, ok := impl.MoveOutline(o, by)
		wantNoOutline(t, got, ok, "MoveOutline, too far", by)
	}
}

// Promise 8: loops turned round, each one in its place.
func TestBackLoops(t *testing.T) {
	got, ok := impl.BackLoops(outline("ab", square(), []complex64{0, complex(4, negZero), 4i}))
	wantOutline(t, got, ok, outline("ab", []complex64{2i, 2 + 2i, 2, 0}, []complex64{4i, complex(4, negZero), 0}), "BackLoops")
	for _, o := range someOutlines() {
		once, ok := impl.BackLoops(o)
		wantTrue(t, ok && len(once.Loops) == len(o.Loops), "BackLoops", o)
		twice, ok := impl.BackLoops(once)
		wantOutline(t, twice, ok, o, "BackLoops twice")
	}
}

// Promise 8: what is inside stays inside where the outline is moved, or its loops are turned round.
func TestInsideStaysInside(t *testing.T) {
	s := newSource()
	for range 400 {
		o := outline("a", s.placesOnGrid(3+s.below(8)), s.placesOnGrid(3+s.below(8)))
		// No side goes through such a point, nearly.
		z := complex(float32(s.below(8))+0.3171, float32(s.below(8))+0.2939)
		by := complex(float32(s.below(9)-4), float32(s.below(9)-4))
		moved, _ := impl.MoveOutline(o, by)
		back, _ := impl.BackLoops(o)
		times, _ := impl.WindingOf(o, z)
		backTimes, ok := impl.WindingOf(back, z)
		wantPair(t, backTimes, ok, -times, true, "WindingOf of what is turned round", o, z)
		for _, even := range []bool{true, false} {
			want, _ := impl.IsInside(o, z, even)
			inside, ok := impl.IsInside(moved, z+by, even)
			wantPair(t, inside, ok, want, true, "IsInside of what is moved", o, z, by, even)
			inside, ok = impl.IsInside(back, z, even)
			wantPair(t, inside, ok, want, true, "IsInside of what is turned round", o, z, even)
		}
		area, _ := impl.OutlineArea(o)
		backArea, ok := impl.OutlineArea(back)
		wantTrue(t, ok, "OutlineArea", back)
		wantAbout(t, backArea, -area, 1e-3, "OutlineArea of what is turned round", o)
	}
}
