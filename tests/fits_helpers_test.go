package tests

import (
	"math"
	"slices"
	"testing"

	"loop.example/g01328/impl"
)

// hook is a path around a corner, and bend one whose legs are 3 and 4 long.
func hook() []complex64 { return []complex64{0, 2, 2 + 2i} }

func bend() []complex64 { return []complex64{0, 3, 3 + 4i} }

// line has as many points as told, one to the right of the other.
func line(count int) []complex64 {
	points := make([]complex64, count)
	for i := range points {
		points[i] = complex(float32(i), 0)
	}
	return points
}

// sawtooth turns at each of its points.
func sawtooth(count int) []complex64 {
	points := line(count)
	for i := range points {
		points[i] += complex(0, float32(i%2))
	}
	return points
}

// row has the numbers 0, 1, 2 and so on.
func row(count int) []float32 {
	numbers := make([]float32, count)
	for i := range numbers {
		numbers[i] = float32(i)
	}
	return numbers
}

// notPaths are too short, too long, not finite, or have neighbours that are the same.
func notPaths() [][]complex64 {
	list := [][]complex64{
		nil, {}, {1}, line(impl.MaxPath + 1), line(1000), {1, 1}, {0, complex(negZero, negZero)}, {complex(negZero, 0), complex(0, negZero)},
		{1, 1, 2}, {1, 2, 2}, {0, 1, 1, 2}, {0, 1, 2, 3, 3}, repeated[complex64](1i, impl.MaxPath),
	}
	for _, point := range wildPoints() {
		list = append(list, []complex64{point, 1}, []complex64{1, point}, []complex64{0, point, 1}, []complex64{point, point})
	}
	twice := line(impl.MaxPath)
	twice[47] = twice[46]
	return append(list, twice)
}

// notGraphs have the wrong length, places that do not grow, or numbers that are not finite.
func notGraphs() [][2][]float32 {
	list := [][2][]float32{
		{nil, nil}, {{}, {}}, {{1}, {1}}, {row(49), row(49)}, {row(2), row(3)}, {row(3), row(2)}, {row(2), nil}, {nil, row(2)},
		{{0, 0}, {0, 1}}, {{0, negZero}, {0, 1}}, {{negZero, 0}, {0, 1}}, {{1, 0}, {0, 1}}, {{0, 1, 1}, {0, 1, 2}}, {{0, 1, 0.5}, {0, 1, 2}}, {{0, 0, 1}, {0, 1, 2}},
		{row(48), row(47)}, {row(47), row(48)},
	}
	for _, x := range wildNumbers() {
		list = append(list,
			[2][]float32{{x, 1}, {0, 1}}, [2][]float32{{0, x}, {0, 1}}, [2][]float32{{0, 1}, {x, 1}}, [2][]float32{{0, 1}, {0, x}},
			[2][]float32{{0, x, 2}, {0, 1, 2}}, [2][]float32{{0, 1, 2}, {0, x, 2}})
	}
	return list
}

// notQuiet are lists that are too short, too long, or not finite.
func notQuiet() [][]float32 {
	list := [][]float32{nil, {}, {1}, {1, 2}, row(49), row(1000)}
	for _, x := range wildNumbers() {
		list = append(list, []float32{x, 1, 2}, []float32{0, x, 2}, []float32{0, 1, x})
	}
	return list
}

func notArcs() []impl.Arc {
	list := []impl.Arc{{}, {Round: negZero}, {Round: -1, Turn: 1}, {Round: -leastNumber}, {Middle: 1, From: 0.5, Turn: 0.5}}
	for _, x := range wildNumbers() {
		list = append(list, impl.Arc{Round: x}, impl.Arc{Round: 1, From: x}, impl.Arc{Round: 1, Turn: x})
	}
	for _, point := range wildPoints() {
		list = append(list, impl.Arc{Middle: point, Round: 1})
	}
	return list
}

func wantPieces(t *testing.T, got []impl.Curve, ok bool, want []impl.Curve, what string, args ...any) {
	t.Helper()
	if !ok || !slices.EqualFunc(got, want, sameCurves) {
		t.Errorf("%s%v: got %v %v, want %v", what, args, got, ok, want)
	}
}

func wantPoints(t *testing.T, got []complex64, ok bool, want []complex64, what string, args ...any) {
	t.Helper()
	if !ok || !samePoints(got, want) {
		t.Errorf("%s%v: got %v %v, want %v", what, args, got, ok, want)
	}
}

// wantNoArc is for ArcThrough where it fails.
func wantNoArc(t *testing.T, got impl.Arc, ok bool, what string, args ...any) {
	t.Helper()
	wantPair(t, got, ok, impl.Arc{}, false, what, args...)
}

// ofPaths has the results of all functions that take a path.
func ofPaths(points []complex64, start, end complex64, x, y float32, count int64) outcome {
	var o outcome
	o.single = append(o.single, truth(impl.IsPath(points)))
	o.addNumbers(impl.ParamsOf(points, x))
	o.addPieces(impl.LoosePieces(points, x))
	o.addPieces(impl.NaturalPieces(points))
	curve, miss, ok := impl.FitCubic(points, start, end)
	o.addCurve(curve, ok)
	o.addNumber(miss, ok)
	o.addPieces(impl.FitPieces(points, x))
	middle, radius, ok := impl.RoundFit(points)
	o.addPoint(middle, ok)
	o.addNumber(radius, ok)
	point, way, far, ok := impl.LineFit(points)
	o.addPoint(point, ok)
	o.addPoint(way, ok)
	o.addNumber(far, ok)
	o.addPoints(impl.OffsetPath(points, x, y))
	o.addPoints(impl.ResamplePath(points, count))
	return o
}

// ofGraphs has those of all that take a graph.
func ofGraphs(x, y, told []float32, at float32) outcome {
	var o outcome
	o.single = append(o.single, truth(impl.IsGraph(x, y)))
	o.addNumbers(impl.NaturalBends(x, y))
	o.addNumber(impl.BentAt(x, y, told, at))
	o.addNumbers(impl.SteadySlopes(x, y))
	o.addNumber(impl.SteadyAt(x, y, told, at))
	return o
}

// ofQuiet has those of all that take a list of numbers.
func ofQuiet(list []float32, weight float32) outcome {
	var o outcome
	o.addNumbers(impl.QuietList(list, weight))
	o.addNumber(impl.RoughOf(list))
	return o
}

// ofArcs has those of all that take an arc.
func ofArcs(a impl.Arc, share float32) outcome {
	var o outcome
	o.single = append(o.single, truth(impl.ValidArc(a)))
	o.addPoint(impl.ArcAt(a, share))
	o.addNumber(impl.LongOfArc(a))
	return o
}

func (o *outcome) addPieces(pieces []impl.Curve, ok bool) {
	o.single = append(o.single, truth(ok), float32(len(pieces)))
	for _, piece := range pieces {
		o.addCurve(piece, ok)
	}
}

func (o *outcome) addArc(a impl.Arc, ok bool) {
	o.addPoint(a.Middle, ok)
	o.single = append(o.single, a.Round, a.From, a.Turn)
}

func coarse(x float32) float32 { return float32(math.Floor(float64(x)*2)) / 2 }

// path has at times too few or too many points, or neighbours that are the same.
func (s *source) path() []complex64 {
	points := s.points(s.below(impl.MaxPath + 3))
	if s.below(4) == 0 {
		for i, point := range points {
			points[i] = complex(coarse(real(point)), coarse(imag(point)))
		}
	}
	return points
}

func (s *source) numbers(count int) []float32 {
	numbers := make([]float32, count)
	for i := range numbers {
		numbers[i] = place(s.word())
	}
	return numbers
}

// graph has at times too few or too many points; half of the graphs have legs that are level.
func (s *source) graph() (x, y []float32) {
	count, isCoarse := s.below(impl.MaxPath+3), s.below(2) == 0
	at := place(s.word())
	for range count {
		height := place(s.word())
		if isCoarse {
			height = coarse(height)
		}
		x, y = append(x, at), append(y, height)
		at += float32(s.word()>>20) / 0x1p10
	}
	return x, y
}

// placeIn is mostly a place of a graph, one of its points now and then.
func (s *source) placeIn(x []float32) float32 {
	if len(x) == 0 {
		return place(s.word())
	}
	switch s.below(8) {
	case 0, 1:
		return x[s.below(len(x))]
	case 2:
		return place(s.word())
	}
	first, last := x[0], x[len(x)-1]
	return min(first+float32((last-first)*s.time()), last)
}

func (s *source) arc() impl.Arc {
	a := impl.Arc{Middle: s.point(), Round: place(s.word()), From: place(s.word()), Turn: place(s.word())}
	if s.below(4) == 0 {
		a.Turn = coarse(a.Turn)
	}
	return a
}

// cubics are pieces that are joined in half of the cases, but bend where they are.
func (s *source) cubics() []impl.Curve {
	pieces := make([]impl.Curve, s.below(impl.MaxPath+3))
	for i := range pieces {
		pieces[i] = plain(s.points(4)...)
	}
	if s.below(2) == 0 {
		for i := 1; i < len(pieces); i++ {
			pieces[i].Points[0] = pieces[i-1].Points[3]
		}
	}
	return pieces
}
