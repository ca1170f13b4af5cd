package tests

import (
	"slices"
	"testing"

	"loop.example/g01328/impl"
)

// sideOf is greater than 0 where a point is on the left of a line, and tells how far it is from it, nearly.
func sideOf(a, b, z complex64) float64 {
	way, from := complex128(b)-complex128(a), complex128(z)-complex128(a)
	return real(way)*imag(from) - imag(way)*real(from)
}

// round has as many points as told on a circle around 0, beginning on the left, none of them on a line of others.
func round(count int) []complex64 {
	points := make([]complex64, count)
	for i := range points {
		points[i] = impl.ScaleComplex(impl.PhasorOf(0.5+float64(i)/float64(count)), 8)
	}
	return points
}

// Promise 8: corners of hulls, from the leftmost one on, turning to the left.
func TestHullOfPoints(t *testing.T) {
	left := complex(negZero, 0)
	for _, c := range []struct{ points, want []complex64 }{
		{[]complex64{1 + 1i, 0, 2, 2i, 1}, []complex64{0, 2, 2i}}, {square(), square()}, {backwards(square()), square()},
		// Single points, equal points, and points on a line.
		{[]complex64{5 - 1i}, []complex64{5 - 1i}}, {repeated[complex64](1i, 64), []complex64{1i}}, {[]complex64{2, 1}, []complex64{1, 2}}, {[]complex64{1, 1, 2, 1, 2}, []complex64{1, 2}},
		{[]complex64{left, 0}, []complex64{left}}, {[]complex64{0, left}, []complex64{0}}, {[]complex64{1i, left, 0, 1i}, []complex64{left, 1i}}, {[]complex64{left + 1i, 0}, []complex64{0, left + 1i}},
		{line(64), []complex64{0, 63}}, {backwards(line(64)), []complex64{0, 63}}, {[]complex64{3i, 1i, 2i}, []complex64{1i, 3i}}, {[]complex64{0, 2 + 2i, 1 + 1i}, []complex64{0, 2 + 2i}},
		// Points just on a side are no corners, and those just beside it are.
		{[]complex64{0, 2, 1, 2 + 2i, 2 + 1i, 2i, 1i, 1 + 2i, 1 + 1i}, square()}, {append(square(), complex(1, -leastNormal)), []complex64{0, complex(1, -leastNormal), 2, 2 + 2i, 2i}},
		{append(square(), complex(1, leastNormal)), square()}, {append(square(), square()...), square()},
		// Of several points with the least real part, it begins with the lowest one.
		{[]complex64{3i, 1i, 2 + 2i, 0}, []complex64{0, 2 + 2i, 3i}}, {star(), []complex64{-3 + 1i, -2 - 3i, 2 - 3i, 3 + 1i, 3i}},
		{round(64), round(64)}, {slices.Concat(round(64)[40:], round(64)[:40]), round(64)}, {append(round(63), 1+1i), round(63)},
		// What is no number is not greater than 0.
		{[]complex64{-farPoint, farPoint, complex(0, mostNumber)}, []complex64{-farPoint, farPoint, complex(0, mostNumber)}},
		{[]complex64{complex(-mostNumber, -mostNumber), 1, complex(mostNumber, mostNumber)}, []complex64{complex(-mostNumber, -mostNumber), complex(mostNumber, mostNumber)}},
	} {
		got, ok := impl.HullOfPoints(c.points)
		wantPoints(t, got, ok, c.want, "HullOfPoints", c.points)
	}
	for _, points := range append([][]complex64{nil, {}, line(65), line(1000)}, wildLists()...) {
		got, ok := impl.HullOfPoints(points)
		wantNoList(t, got, ok, "HullOfPoints", points)
	}
}

// wildLists have one point that is not finite.
func wildLists() [][]complex64 {
	var list [][]complex64
	for _, point := range wildPoints() {
		list = append(list, []complex64{point}, []complex64{point, 1, 2}, []complex64{0, 1, point}, append(line(63), point))
	}
	return list
}

// Promise 8: a hull is made of some of its points, turns to the left, and has all others inside, nearly.
func TestHullsHaveAllPoints(t *testing.T) {
	s := newSource()
	for range 300 {
		points := s.placesOnGrid(1 + s.below(64))
		hull, ok := impl.HullOfPoints(points)
		wantTrue(t, ok && len(hull) >= 1, "HullOfPoints", points)
		for i, corner := range hull {
			wantTrue(t, slices.Contains(points, corner), "corner of HullOfPoints", points, i)
			next := hull[(i+1)%len(hull)]
			for _, z := range points {
				wantTrue(t, sideOf(corner, next, z) > -1e-3, "HullOfPoints has all points", points, i, z)
			}
			wantTrue(t, len(hull) < 3 || sideOf(corner, next, hull[(i+2)%len(hull)]) > 0, "HullOfPoints turns to the left", points, i)
			wantTrue(t, real(hull[0]) < real(corner) || real(hull[0]) == real(corner) && imag(hull[0]) <= imag(corner), "HullOfPoints begins on the left", points)
		}
		again, ok := impl.HullOfPoints(hull)
		wantPoints(t, again, ok, hull, "HullOfPoints of a hull")
	}
}

// clipped is a loop, a line or a box, and what is left of the loop.
type clipped struct {
	loop []complex64
	a, b complex64
	want []complex64
}

// Promise 8: what is on the left of a line, from the piece before the first point on, to the last bit.
func TestClipLeft(t *testing.T) {
	bow := []complex64{0, 3 + 3i, 3, 3i}
	left := complex(negZero, 0)
	for _, c := range []clipped{
		{square(), 1, 1 + 1i, []complex64{0, 1, 1 + 2i, 2i}}, {square(), 1 + 1i, 1, []complex64{1, 2, 2 + 2i, 1 + 2i}}, {square(), 0, 3, square()}, {square(), 3 - 1i, 3, square()},
		{square(), 3, 3 - 1i, nil}, {square(), -1, -1 + 1i, nil}, {square(), 5, 5 + 1i, square()}, {backwards(square()), 1, 1 + 1i, []complex64{2i, 1 + 2i, 1, 0}},
		// Points just on the line stay, and are there once more if the next one, or the one before, does not.
		{square(), 2, 2 + 1i, square()}, {square(), 1i, 0, square()}, {square(), 0, 1i, []complex64{0, 0, 2i, 2i}}, {square(), 0, -1i, square()},
		{square(), 0, 2 + 2i, []complex64{0, 0, 2 + 2i, 2 + 2i, 2i}}, {square(), 2 + 2i, 0, []complex64{0, 0, 2, 2 + 2i, 2 + 2i}}, {line(3), 0, 1, line(3)}, {line(3), 1, 0, line(3)},
		{[]complex64{left, -1i, 1}, 1, 2, []complex64{left, 0, 1, 1}}, {repeated[complex64](1i, 3), 0, 1, repeated[complex64](1i, 3)}, {repeated[complex64](-1i, 3), 0, 1, nil},
		{bow, 1.5, 1.5 + 1i, []complex64{0, 1.5 + 1.5i, 1.5 + 1.5i, 3i}}, {square(), 0.3i, 1 + 0.7i, hexPoints("00000000/3e999998,40000000/3f8ccccc,40000000/40000000,00000000/40000000")},
		{append(line(63), 5i), 30.5, 30.5 + 1i, append(line(31), hexPoints("41f40000/00000000,41f40000/402294a5,00000000/40a00000")...)},
	} {
		got, ok := impl.ClipLeft(c.loop, c.a, c.b)
		wantPoints(t, got, ok, c.want, "ClipLeft", c.loop, c.a, c.b)
	}
	// The result can have more points than a loop.
	teeth := sawtooth(64)
	got, ok := impl.ClipLeft(teeth, 0.5i, 1+0.5i)
	wantTrue(t, ok && len(got) == 96, "ClipLeft of many teeth", len(got))
	for _, z := range got {
		wantTrue(t, imag(z) == 1 || imag(z) == 0.5, "point of teeth", z)
	}
}

// Promise 8: points that are no loop, ends that are equal or not finite, and sides or points that are too far.
func TestClipLeftFails(t *testing.T) {
	for _, points := range notLoops() {
		got, ok := impl.ClipLeft(points, 0, 1i)
		wantNoList(t, got, ok, "ClipLeft", points)
		got, ok = impl.ClipBox(points, -1-1i, 1+1i)
		wantNoList(t, got, ok, "ClipBox", points)
	}
	for _, c := range []clipped{
		{square(), 0, 0, nil}, {square(), 1i, 1i, nil}, {square(), 0, complex(negZero, negZero), nil}, {square(), farPoint, -farPoint, nil}, {square(), 0, farPoint, nil},
		{[]complex64{0, farPoint, 1i}, -1 - 1i, 1i, nil}, {[]complex64{farPoint, -farPoint, 1i}, 0, 0x1p-100i, nil},
	} {
		got, ok := impl.ClipLeft(c.loop, c.a, c.b)
		wantNoList(t, got, ok, "ClipLeft", c)
	}
	for _, point := range wildPoints() {
		got, ok := impl.ClipLeft(square(), point, 1)
		wantNoList(t, got, ok, "ClipLeft from", point)
		got, ok = impl.ClipLeft(square(), 1, point)
		wantNoList(t, got, ok, "ClipLeft to", point)
	}
}

func notLoops() [][]complex64 {
	return append([][]complex64{nil, {}, {0}, {0, 1}, line(65), line(1000)}, wildLists()...)
}

// Promise 8: what is left is not on the right, nearly, and both parts of a loop have its area, nearly.
func TestClippedLoopsAreLeft(t *testing.T) {
	s := newSource()
	parts := 0
	for range 400 {
		loop, ends := s.placesOnGrid(3+s.below(8)), s.placesOnGrid(2)
		if ends[0] == ends[1] {
			continue
		}
		left, ok := impl.ClipLeft(loop, ends[0], ends[1])
		right, rightOK := impl.ClipLeft(loop, ends[1], ends[0])
		wantTrue(t, ok && rightOK, "ClipLeft", loop, ends)
		for _, z := range left {
			wantTrue(t, sideOf(ends[0], ends[1], z) > -1e-3, "ClipLeft is on the left", loop, ends, z)
		}
		area, _ := impl.AreaOfLoop(loop)
		wantAbout(t, areaOf(t, left)+areaOf(t, right), area, 2e-3, "areas of both parts", loop, ends)
		if len(left) > 0 && len(right) > 0 {
			parts++
		}
	}
	wantTrue(t, parts > 100, "loops with two parts", parts)
}

// areaOf is that of a loop, and 0 where nothing is left.
func areaOf(t *testing.T, points []complex64) float32 {
	if len(points) == 0 {
		return 0
	}
	area, ok := impl.AreaOfLoop(points)
	wantTrue(t, ok, "AreaOfLoop", points)
	return area
}

// Promise 8: what is in a box, its lower side first, then the others, turning to the left.
func TestClipBox(t *testing.T) {
	for _, c := range []clipped{
		{square(), 1, 3 + 1i, []complex64{1 + 1i, 1, 2, 2 + 1i}}, {square(), -1 - 1i, 3 + 3i, square()}, {square(), 0, 2 + 2i, square()}, {square(), 0.5 + 0.5i, 1 + 1i, []complex64{0.5 + 1i, 0.5 + 0.5i, 1 + 0.5i, 1 + 1i}},
		{square(), complex(negZero, negZero), 2 + 2i, square()}, {backwards(square()), 1, 3 + 1i, []complex64{1 + 1i, 2 + 1i, 2, 1}},
		{[]complex64{-1 - 1i, 4, 1 + 4i}, 0, 2 + 2i, hexPoints("3e4ccccc/40000000,00000000/3fc00000,00000000/00000000,3fffffff/00000000,40000000/40000000")},
		// Beside each side of the box, nothing is left, and a point that touches it is there three times.
		{square(), 3, 4 + 1i, nil}, {square(), -4, -1 + 1i, nil}, {square(), 3i, 1 + 4i, nil}, {square(), -4i, 1 - 1i, nil},
		{[]complex64{-1i, 2 - 1i, 1}, 0, 2 + 2i, []complex64{1, 1, 1}}, {[]complex64{0, -1 - 1i, -1 + 1i}, -1i, 2 + 2i, []complex64{0, 0, 0}},
		// Nothing is left of the first clip, and so there is no other one that could fail.
		{[]complex64{-1i, 1 - 1i, -2i}, 0, complex(1, 0x1p126), nil},
	} {
		got, ok := impl.ClipBox(c.loop, c.a, c.b)
		wantPoints(t, got, ok, c.want, "ClipBox", c.loop, c.a, c.b)
	}
}

// turned is a point a quarter of a turn further, again and again, without zeros that have a sign.
func turned(z complex64, times int) complex64 {
	for range times {
		z = complex(0-imag(z), real(z))
	}
	return z
}

// crown is a loop of 64 points, by turns inside and outside a box from -17 - 17 i to 17 + 17 i, 16 of them at each side, and what is inside.
func crown() (loop, inside []complex64) {
	for side := range 4 {
		for k := range 16 {
			below := complex(float32(2*k-15), float32(-15-4*(k%2)))
			loop = append(loop, turned(below, side))
		}
	}
	for i, z := range loop {
		before := loop[(i+63)%64]
		inside = append(inside, complex((real(before)+real(z))/2, (imag(before)+imag(z))/2))
		if i%2 == 0 {
			inside = append(inside, z)
		}
	}
	return loop, inside
}

// Promise 8: each of the lines of a box may leave more points than a loop has for the next one.
func TestClipBoxOfManyPoints(t *testing.T) {
	// The first line adds a point in the middle of each piece, and leaves every other tooth.
	below, inside := sawtooth(64), []complex64{31.5}
	for i := range below {
		below[i] = complex(real(below[i]), 2*imag(below[i])-1)
		if i > 0 {
			inside = append(inside, complex(float32(i)-0.5, 0))
		}
		if imag(below[i]) > 0 {
			inside = append(inside, below[i])
		}
	}
	wantEqual(t, len(inside), 96, "points that are inside")
	// Turned by quarters, the teeth are at the first line, at the second one, and so on.
	for times := range 4 {
		loop, want := slices.Clone(below), slices.Clone(inside)
		for i := range loop {
			loop[i] = turned(loop[i], times)
		}
		for i := range want {
			want[i] = turned(want[i], times)
		}
		a, b := turned(-1, times), turned(99+9i, times)
		low, high := complex(min(real(a), real(b)), min(imag(a), imag(b))), complex(max(real(a), real(b)), max(imag(a), imag(b)))
		got, ok := impl.ClipBox(loop, low, high)
		wantPoints(t, got, ok, want, "ClipBox of teeth, turned", times)
	}
	// Each line leaves 8 points more than there were, also the last one.
	loop, want := crown()
	got, ok := impl.ClipBox(loop, -17-17i, 17+17i)
	wantPoints(t, got, ok, want, "ClipBox of a crown")
	got, ok = impl.ClipBox(backwards(loop), -17-17i, 17+17i)
	wantTrue(t, ok && len(got) == 96, "ClipBox of a crown, backwards", len(got))
	// Of the many points that a line leaves, the next one leaves none.
	got, ok = impl.ClipBox(below, -9, -1+9i)
	wantPoints(t, got, ok, nil, "ClipBox on the left of teeth")
	got, ok = impl.ClipBox(below, 99, 100+9i)
	wantPoints(t, got, ok, nil, "ClipBox on the right of teeth")
}

// Promise 8: the arguments of both clips are loops all the same, and a side that is not finite fails behind many points, too.
func TestManyPointsAreNoLoop(t *testing.T) {
	loop, many := crown()
	for _, points := range [][]complex64{many, append(loop, 0)} {
		got, ok := impl.ClipBox(points, -17-17i, 17+17i)
		wantNoList(t, got, ok, "ClipBox of too many points", len(points))
		got, ok = impl.ClipLeft(points, 0, 1)
		wantNoList(t, got, ok, "ClipLeft of too many points", len(points))
	}
	// The first line is short, and the second one too long for the teeth.
	teeth := sawtooth(64)
	for i := range teeth {
		teeth[i] *= 4
	}
	got, ok := impl.ClipBox(teeth, -1+2i, complex(999, 0x1p122))
	wantNoList(t, got, ok, "ClipBox of teeth in a box that is too high")
	got, ok = impl.ClipBox(teeth, -1+2i, complex(999, 0x1p116))
	wantTrue(t, ok && len(got) == 96, "ClipBox of teeth in a high box", len(got))
}

// Promise 8: low and high that are no box, or too far away.
func TestClipBoxFails(t *testing.T) {
	for _, c := range []clipped{
		{square(), 1, 1, nil}, {square(), 1, 1 + 1i, nil}, {square(), 1, 3, nil}, {square(), 1 + 1i, 3, nil}, {square(), 1, 1i, nil}, {square(), 3 + 1i, 1, nil}, {square(), 0, complex(1, negZero), nil},
		{square(), -farPoint, complex(mostNumber, 1), nil}, {square(), 0, complex(mostNumber, 1), nil}, {[]complex64{0, farPoint, 1i}, -1 - 1i, 1i, nil},
	} {
		got, ok := impl.ClipBox(c.loop, c.a, c.b)
		wantNoList(t, got, ok, "ClipBox", c)
	}
	for _, point := range wildPoints() {
		for _, ends := range [][2]complex64{{point, 3 + 3i}, {-3 - 3i, point}, {point, point}} {
			got, ok := impl.ClipBox(square(), ends[0], ends[1])
			wantNoList(t, got, ok, "ClipBox", ends)
		}
	}
}

// Promise 8: what is in a box is inside it, nearly, and of what is inside it, nothing is lost, nearly.
func TestClippedBoxesAreInside(t *testing.T) {
	s := newSource()
	for range 300 {
		// A loop without dents is clipped to one without dents.
		loop, _ := impl.HullOfPoints(s.placesOnGrid(12))
		low := complex(float32(s.below(8)), float32(s.below(8)))
		high := low + complex(float32(1+s.below(8)), float32(1+s.below(8)))
		got, ok := impl.ClipBox(loop, low, high)
		wantTrue(t, ok && len(got) != 1 && len(got) != 2, "ClipBox", loop, low, high)
		for _, z := range got {
			isIn := real(z) > real(low)-1e-4 && imag(z) > imag(low)-1e-4 && real(z) < real(high)+1e-4 && imag(z) < imag(high)+1e-4
			wantTrue(t, isIn, "ClipBox is inside", loop, low, high, z)
		}
		inBox := float32(0)
		const steps = 16
		for k := range steps * steps {
			share := complex(float32(k%steps)+0.5, float32(k/steps)+0.5)
			z := low + complex(real(share)*real(high-low)/steps, imag(share)*imag(high-low)/steps)
			if times, _ := impl.WindingAt(loop, z); times != 0 {
				inBox++
			}
		}
		size := real(high-low) * imag(high-low)
		wantAbout(t, areaOf(t, got), inBox*size/(steps*steps), 0.05*size+1e-3, "area of ClipBox", loop, low, high)
	}
}
