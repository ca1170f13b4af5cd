package tests

import (
	"math"
	"math/cmplx"
	"slices"
	"strconv"
	"strings"
	"testing"

	"loop.example/g01328/impl"
)

// farPoint is as far to the right as a point can be.
const farPoint = complex(mostNumber, 0)

// hexNumbers reads numbers by their bits, such as 3f800000,40000000, without the program.
func hexNumbers(s string) []float32 {
	var list []float32
	for word := range strings.SplitSeq(s, ",") {
		bits, err := strconv.ParseUint(word, 16, 32)
		if err != nil {
			panic(err)
		}
		list = append(list, math.Float32frombits(uint32(bits)))
	}
	return list
}

// hexPoints reads points, such as 3f800000/00000000,40000000/3f800000.
func hexPoints(s string) []complex64 {
	parts := hexNumbers(strings.ReplaceAll(s, "/", ","))
	var list []complex64
	for pair := range slices.Chunk(parts, 2) {
		list = append(list, complex(pair[0], pair[1]))
	}
	return list
}

func hexCurve(points, weights string) impl.Curve {
	return impl.Curve{Points: hexPoints(points), Weights: hexNumbers(weights)}
}

func plain(points ...complex64) impl.Curve {
	return impl.Curve{Points: points, Weights: repeated(float32(1), len(points))}
}

func samePoints(a, b []complex64) bool { return slices.EqualFunc(a, b, sameParts) }

func sameNumbers(a, b []float32) bool { return slices.EqualFunc(a, b, sameBits) }

func sameCurves(a, b impl.Curve) bool {
	return samePoints(a.Points, b.Points) && sameNumbers(a.Weights, b.Weights)
}

func sameSplines(a, b impl.Spline) bool {
	return a.Degree == b.Degree && sameNumbers(a.Knots, b.Knots) && samePoints(a.Points, b.Points)
}

func copyCurve(c impl.Curve) impl.Curve {
	return impl.Curve{Points: slices.Clone(c.Points), Weights: slices.Clone(c.Weights)}
}

func copySpline(s impl.Spline) impl.Spline {
	return impl.Spline{Degree: s.Degree, Knots: slices.Clone(s.Knots), Points: slices.Clone(s.Points)}
}

func wantCurve(t *testing.T, got impl.Curve, ok bool, want impl.Curve, what string, args ...any) {
	t.Helper()
	if !ok || !sameCurves(got, want) {
		t.Errorf("%s%v: got %v %v, want %v", what, args, got, ok, want)
	}
}

func wantNoCurve(t *testing.T, got impl.Curve, ok bool, what string, args ...any) {
	t.Helper()
	if ok || len(got.Points) != 0 || len(got.Weights) != 0 {
		t.Errorf("%s%v: got %v %v, want none", what, args, got, ok)
	}
}

func wantSpline(t *testing.T, got impl.Spline, ok bool, want impl.Spline, what string, args ...any) {
	t.Helper()
	if !ok || !sameSplines(got, want) {
		t.Errorf("%s%v: got %v %v, want %v", what, args, got, ok, want)
	}
}

func wantNoSpline(t *testing.T, got impl.Spline, ok bool, what string, args ...any) {
	t.Helper()
	if ok || got.Degree != 0 || len(got.Knots) != 0 || len(got.Points) != 0 {
		t.Errorf("%s%v: got %v %v, want none", what, args, got, ok)
	}
}

func wantPoint(t *testing.T, got complex64, ok bool, want complex64, what string, args ...any) {
	t.Helper()
	if !ok || !sameParts(got, want) {
		t.Errorf("%s%v: got %v %v, want %v", what, args, got, ok, want)
	}
}

func wantNoPoint(t *testing.T, got complex64, ok bool, what string, args ...any) {
	t.Helper()
	wantPair(t, got, ok, 0, false, what, args...)
}

func wantNumbers(t *testing.T, got []float32, ok bool, want []float32, what string, args ...any) {
	t.Helper()
	if !ok || !sameNumbers(got, want) {
		t.Errorf("%s%v: got %v %v, want %v", what, args, got, ok, want)
	}
}

// wantNoList is for functions that return a list, and fail.
func wantNoList[T any](t *testing.T, got []T, ok bool, what string, args ...any) {
	t.Helper()
	if ok || len(got) != 0 {
		t.Errorf("%s%v: got %v %v, want none", what, args, got, ok)
	}
}

// wantNear compares points of curves whose points are at most about 10 away from 0.
func wantNear(t *testing.T, got, want complex64, what string, args ...any) {
	t.Helper()
	if !(cmplx.Abs(complex128(got-want)) < 1e-4) {
		t.Errorf("%s%v: got %v, want about %v", what, args, got, want)
	}
}

// notTimes are numbers that are no times of curves.
func notTimes() []float32 {
	return []float32{-leastNumber, -0.5, 1.0000001, 2, mostNumber, -mostNumber, infinity, -infinity, notNum}
}

// wildNumbers are numbers that are not finite.
func wildNumbers() []float32 { return []float32{infinity, -infinity, notNum} }

// wildPoints have a part that is not finite.
func wildPoints() []complex64 {
	var list []complex64
	for _, x := range wildNumbers() {
		list = append(list, complex(x, 0), complex(0, x))
	}
	return list
}

// source draws numbers of a list that follows a short rule.
type source struct {
	words []uint32
	next  int
}

func newSource() *source { return &source{words: manyWords()} }

func (s *source) word() uint32 {
	word := s.words[s.next%len(s.words)]
	s.next++
	return word
}

// below is a number from 0 to n - 1. The last bits of the words follow too short a rule.
func (s *source) below(n int) int { return int(s.word()>>16) % n }

func (s *source) point() complex64 {
	re := place(s.word())
	return complex(re, place(s.word()))
}

func (s *source) time() float32 {
	word := s.word()
	switch word >> 28 {
	case 0:
		return 0
	case 1:
		return 1
	}
	return float32(word<<4>>8) / 0x1p24
}

// curve has any degree from least to most; half of the curves are plain.
func (s *source) curve(least, most int) impl.Curve {
	count := least + s.below(most-least+1) + 1
	isPlain := s.below(2) == 0
	var c impl.Curve
	for range count {
		c.Points = append(c.Points, s.point())
		weight := float32(1)
		if !isPlain {
			weight = float32(s.word()>>10+0x1p20) / 0x1p21
		}
		c.Weights = append(c.Weights, weight)
	}
	return c
}

// spline has at most count points, and a knot in three is there once more, as long as it can.
func (s *source) spline(count int) impl.Spline {
	degree := 1 + s.below(5)
	points := degree + 1 + s.below(count-degree)
	knot := place(s.word())
	knots := repeated(knot, degree+1)
	for times := degree; len(knots) < points; times++ {
		if times >= degree || s.below(3) > 0 {
			knot += float32(s.word()>>20+0x1p8) / 0x1p10
			times = 0
		}
		knots = append(knots, knot)
	}
	knot++
	knots = append(knots, repeated(knot, degree+1)...)
	made := impl.Spline{Degree: int64(degree), Knots: knots}
	for range points {
		made.Points = append(made.Points, s.point())
	}
	return made
}

// timeOf is a time of a spline, a knot now and then.
func (s *source) timeOf(of impl.Spline) float32 {
	if s.below(4) == 0 {
		return of.Knots[s.below(len(of.Knots))]
	}
	first, last := of.Knots[0], of.Knots[len(of.Knots)-1]
	return min(first+float32((last-first)*s.time()), last)
}
