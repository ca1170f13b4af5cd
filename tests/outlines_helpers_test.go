package tests

import (
	"slices"
	"strings"
	"testing"

	"loop.example/g01328/impl"
)

func outline(name string, loops ...[]complex64) impl.Outline {
	return impl.Outline{Name: name, Loops: loops}
}

// tile is the outline of the chapter's example.
func tile() impl.Outline { return outline("a", square()) }

// boxOf is a loop around a box, turning to the left.
func boxOf(low, high complex64) []complex64 {
	return []complex64{low, complex(real(high), imag(low)), high, complex(real(low), imag(high))}
}

// frame has a hole if its cells are even, but none otherwise: the inner loop goes the same way.
func frame() impl.Outline { return outline("frame", boxOf(0, 4+4i), boxOf(1+1i, 3+3i)) }

// holed has a hole anyway: the inner loop goes the other way.
func holed() impl.Outline { return outline("holed", boxOf(0, 4+4i), backwards(boxOf(1+1i, 3+3i))) }

// someOutlines have names of 1 to 8 letters, 1 to MaxLoops loops, and loops of 3 to MaxPieces points.
func someOutlines() []impl.Outline {
	tiny := complex(leastNumber, negZero)
	return []impl.Outline{
		tile(), frame(), holed(), outline("abcdefgh", square()), outline("z", []complex64{0, 4, 4i}), outline("star", star()),
		outline("most", line(64), line(64), line(64), line(64)), outline("edge", []complex64{farPoint, -farPoint, tiny, complex(0, -mostNumber)}),
		outline("same", repeated[complex64](1i, 3)), outline("four", square(), square(), backwards(square()), star()),
	}
}

// notOutlines have wrong names, or too few, too many or wrong loops.
func notOutlines() []impl.Outline {
	list := []impl.Outline{
		{}, {Name: "a"}, {Name: "a", Loops: [][]complex64{}}, {Loops: [][]complex64{square()}},
		outline("abcdefghi", square()), outline(strings.Repeat("a", 1000), square()), outline("A", square()), outline("a1", square()), outline("a b", square()),
		outline("é", square()), outline("a\x00", square()), outline("`", square()), outline("{", square()), outline("\xff", square()),
		outline("a", square(), square(), square(), square(), square()), outline("a", repeated(square(), 100)...),
		outline("a", nil), outline("a", []complex64{}), outline("a", []complex64{0}), outline("a", []complex64{0, 1}), outline("a", line(65)), outline("a", line(1000)),
		outline("a", square(), nil), outline("a", square(), []complex64{0, 1}), outline("a", square(), square(), square(), line(65)),
	}
	for _, point := range wildPoints() {
		last := line(64)
		last[63] = point
		list = append(list, outline("a", []complex64{point, 1, 2}), outline("a", []complex64{0, 1, point}), outline("a", square(), last))
	}
	return list
}

// notSides are sides of grids that there cannot be.
func notSides() []int64 { return []int64{0, 17, -1, -16, 1 << 32, 1<<32 + 1, -1 << 63, 1<<63 - 1} }

// notPositive are numbers that are not finite, or not greater than 0.
func notPositive() []float32 {
	return []float32{0, negZero, -leastNumber, -1, -mostNumber, infinity, -infinity, notNum}
}

func notPlans() []impl.Plan {
	list := []impl.Plan{{}, {Rise: 1}, {Jerk: negZero, Rise: 1}, {Jerk: -1}, {Jerk: 1, Rise: -leastNumber}, {Jerk: 1, Hold: -1}, {Jerk: 1, Cruise: -leastNumber}}
	for _, x := range wildNumbers() {
		list = append(list, impl.Plan{Jerk: x}, impl.Plan{Jerk: 1, Rise: x}, impl.Plan{Jerk: 1, Hold: x}, impl.Plan{Jerk: 1, Cruise: x})
	}
	return list
}

func copyOutline(o impl.Outline) impl.Outline {
	return impl.Outline{Name: o.Name, Loops: copyLists(o.Loops)}
}

func sameOutline(a, b impl.Outline) bool {
	return a.Name == b.Name && slices.EqualFunc(a.Loops, b.Loops, samePoints)
}

func wantOutline(t *testing.T, got impl.Outline, ok bool, want impl.Outline, what string, args ...any) {
	t.Helper()
	if !ok || !sameOutline(got, want) {
		t.Errorf("%s%v: got %v %v, want %v", what, args, got, ok, want)
	}
}

func wantNoOutline(t *testing.T, got impl.Outline, ok bool, what string, args ...any) {
	t.Helper()
	if ok || got.Name != "" || len(got.Loops) != 0 {
		t.Errorf("%s%v: got %v %v, want none", what, args, got, ok)
	}
}

func wantDashes(t *testing.T, got [][]complex64, ok bool, want [][]complex64, what string, args ...any) {
	t.Helper()
	if !ok || !slices.EqualFunc(got, want, samePoints) {
		t.Errorf("%s%v: got %v %v, want %v", what, args, got, ok, want)
	}
}

// cellsOf reads cells, such as "##.", of which those that are inside have a #.
func cellsOf(rows ...string) []bool {
	var cells []bool
	for _, c := range strings.Join(rows, "") {
		cells = append(cells, c == '#')
	}
	return cells
}

func wantCells(t *testing.T, got []bool, ok bool, want []bool, what string, args ...any) {
	t.Helper()
	if !ok || !slices.Equal(got, want) {
		t.Errorf("%s%v: got %v %v, want %v", what, args, got, ok, want)
	}
}

func (o *outcome) addOutline(of impl.Outline, ok bool) {
	o.single = append(o.single, truth(ok), float32(len(of.Loops)))
	o.addBytes(of.Name, ok)
	for _, loop := range of.Loops {
		o.addPoints(loop, ok)
	}
}

func (o *outcome) addBytes(s string, ok bool) {
	var numbers []float32
	for _, b := range []byte(s) {
		numbers = append(numbers, float32(b))
	}
	o.addNumbers(numbers, ok)
}

func (o *outcome) addCells(cells []bool, ok bool) {
	var numbers []float32
	for _, cell := range cells {
		numbers = append(numbers, truth(cell))
	}
	o.addNumbers(numbers, ok)
}

func (o *outcome) addDashes(dashes [][]complex64, ok bool) {
	o.single = append(o.single, truth(ok), float32(len(dashes)))
	for _, dash := range dashes {
		o.addPoints(dash, ok)
	}
}

// ofOutlines has the results of all functions that take an outline.
func ofOutlines(of impl.Outline, z complex64, side int64, even bool) outcome {
	var o outcome
	o.single = append(o.single, truth(impl.ValidOutline(of)))
	o.addNumber(impl.OutlineArea(of))
	times, ok := impl.WindingOf(of, z)
	o.addNumber(float32(times), ok)
	inside, ok := impl.IsInside(of, z, even)
	o.addNumber(truth(inside), ok)
	o.addCells(impl.FillGrid(of, side, even))
	o.addNumbers(impl.CoverGrid(of, side, even))
	o.addCells(impl.FillShared(of, side, even, 3))
	o.addNumbers(impl.SpansAt(of, imag(z)))
	o.addOutline(impl.MoveOutline(of, z))
	o.addOutline(impl.BackLoops(of))
	o.addBytes(impl.StoreOutline(of))
	o.addBytes(impl.StoreOutlines([]impl.Outline{of}))
	return o
}

// ofLines has those of all that take points and two others.
func ofLines(points []complex64, a, b complex64) outcome {
	var o outcome
	o.addPoints(impl.HullOfPoints(points))
	o.addPoints(impl.ClipLeft(points, a, b))
	o.addPoints(impl.ClipBox(points, a, b))
	return o
}

// ofPlans has those of all that take numbers.
func ofPlans(longs []float32, p impl.Plan, x, y, z, t float32) outcome {
	var o outcome
	speeds, time, ok := impl.SpeedPlan(longs, x, y)
	o.addNumbers(speeds, ok)
	o.addNumber(time, ok)
	plan, ok := impl.JerkPlan(t, x, y, z)
	o.single = append(o.single, truth(ok), plan.Jerk, plan.Rise, plan.Hold, plan.Cruise)
	o.addNumber(impl.PlanTime(p))
	o.addNumber(impl.PlanWay(p, t))
	return o
}

// ofBytes has those of all that read bytes.
func ofBytes(s string) outcome {
	var o outcome
	o.addOutline(impl.LoadOutline(s))
	list, size, ok := impl.RecoverOutlines(s)
	o.addNumber(float32(size), ok)
	for _, of := range list {
		o.addOutline(of, ok)
	}
	return o
}

// placeOnGrid is a point at halves of cells, or anywhere around cells.
func (s *source) placeOnGrid(isCoarse bool) complex64 {
	if isCoarse {
		re := float32(s.below(17)) / 2
		return complex(re, float32(s.below(17))/2)
	}
	point := s.point()
	return complex(4*real(point)+4, 4*imag(point)+4)
}

// placesOnGrid are all at halves of cells in half of the cases.
func (s *source) placesOnGrid(count int) []complex64 {
	isCoarse := s.below(2) == 0
	points := make([]complex64, count)
	for i := range points {
		points[i] = s.placeOnGrid(isCoarse)
	}
	return points
}

// loop has at times too few or too many points.
func (s *source) loop() []complex64 {
	switch s.below(24) {
	case 0:
		return s.placesOnGrid(2)
	case 1:
		return s.placesOnGrid(64 + s.below(2))
	}
	return s.placesOnGrid(3 + s.below(8))
}

func (s *source) name() string {
	count := 1 + s.below(8)
	if s.below(40) == 0 {
		count = 9
	}
	name := make([]byte, count)
	for i := range name {
		name[i] = 'a' + byte(s.below(26))
	}
	return string(name)
}

// outline is not valid now and then.
func (s *source) outline() impl.Outline {
	o := impl.Outline{Name: s.name()}
	count := 1 + s.below(impl.MaxLoops)
	if s.below(24) == 0 {
		count = 5 * s.below(2)
	}
	for range count {
		o.Loops = append(o.Loops, s.loop())
	}
	return o
}

// size is a number of at least 0, and seldom 0.
func (s *source) size() float32 {
	x := float32(s.word()>>20) / 0x1p9
	return x * float32(int(1)<<s.below(9)) / 16
}

// pattern is too long now and then, and has halves in half of the cases.
func (s *source) pattern() []float32 {
	pattern := make([]float32, 1+s.below(17))
	isCoarse := s.below(2) == 0
	for i := range pattern {
		if isCoarse {
			pattern[i] = float32(1+s.below(6)) / 2
		} else {
			pattern[i] = float32(s.word()>>20+1) / 0x1p9
		}
	}
	return pattern
}

func (s *source) sizes(count int) []float32 {
	list := make([]float32, count)
	for i := range list {
		list[i] = s.size()
	}
	return list
}

// plan has a part that is less than 0 now and then.
func (s *source) plan() impl.Plan {
	parts := s.sizes(4)
	if s.below(8) == 0 {
		parts[s.below(4)] *= -1
	}
	return impl.Plan{Jerk: parts[0], Rise: parts[1], Hold: parts[2], Cruise: parts[3]}
}

// bytes are those of some outlines, whole in a third of the cases, and otherwise cut off, or with another byte.
func (s *source) bytes(count int) string {
	var all []byte
	for range count {
		bytes, _ := impl.StoreOutline(s.outline())
		all = append(all, bytes...)
	}
	switch s.below(3) {
	case 0:
		return string(all[:s.below(len(all)+1)])
	case 1:
		if len(all) > 0 {
			all[s.below(len(all))] ^= 1 << s.below(8)
		}
	}
	return string(all)
}
