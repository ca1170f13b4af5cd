package tests

import (
	"math"
	"math/rand"
	"slices"
	"testing"
)

var (
	negZero  = float32(math.Copysign(0, -1))
	infinity = float32(math.Inf(1))
	notNum   = float32(math.NaN())
)

const (
	leastNumber  = float32(0x1p-149)
	leastNormal  = float32(0x1p-126)
	mostSubnorm  = float32(0x1.fffffcp-127)
	mostNumber   = float32(math.MaxFloat32)
	wholeNumbers = float32(0x1p52)
)

// bitsOf tells a number by its bits without the program, so that a wrong BitsOf hides nothing.
func bitsOf(x float32) uint32 {
	if x != x {
		return 0x7fc00000
	}
	return math.Float32bits(x)
}

func sameBits(a, b float32) bool { return bitsOf(a) == bitsOf(b) }

func sameParts(a, b complex64) bool {
	return sameBits(real(a), real(b)) && sameBits(imag(a), imag(b))
}

func wantBits(t *testing.T, got float32, want uint32, what string, args ...any) {
	t.Helper()
	if bitsOf(got) != want {
		t.Errorf("%s%v: got %08x (%v), want %08x (%v)", what, args, bitsOf(got), got, want, math.Float32frombits(want))
	}
}

func wantNumber(t *testing.T, got, want float32, what string, args ...any) {
	t.Helper()
	wantBits(t, got, bitsOf(want), what, args...)
}

func wantComplex(t *testing.T, got, want complex64, what string, args ...any) {
	t.Helper()
	if !sameParts(got, want) {
		t.Errorf("%s%v: got %v, want %v", what, args, got, want)
	}
}

func wantTrue(t *testing.T, ok bool, what string, args ...any) {
	t.Helper()
	if !ok {
		t.Errorf("%s%v: got false, want true", what, args)
	}
}

func wantEqual[T comparable](t *testing.T, got, want T, what string, args ...any) {
	t.Helper()
	if got != want {
		t.Errorf("%s%v: got %v, want %v", what, args, got, want)
	}
}

// wantPair compares a result, and the bool that tells whether there is one.
func wantPair[T comparable](t *testing.T, got T, ok bool, want T, wantOK bool, what string, args ...any) {
	t.Helper()
	if got != want || ok != wantOK {
		t.Errorf("%s%v: got %v %v, want %v %v", what, args, got, ok, want, wantOK)
	}
}

// specialNumbers has the edges of the format, both signs of each, and several not-a-numbers.
func specialNumbers() []float32 {
	list := []float32{
		0, leastNumber, 2 * leastNumber, mostSubnorm, leastNormal, 0x1.000002p-126,
		1e-20, 0.1, 0.25, 0.5, 0.75, 0.99999994, 1, 1.0000001, 1.5, 2, 3, 10, 88.72284, 103.9,
		200, 200.00002, 8388607.5, 0x1p24, 0x1.fffffep51, wholeNumbers, 1e19, 1e30, mostNumber, infinity,
	}
	for _, x := range slices.Clone(list) {
		list = append(list, -x)
	}
	for _, bits := range []uint32{0x7fc00000, 0x7f800001, 0x7fffffff, 0xffc00000, 0xff800001, 0xffffffff} {
		list = append(list, math.Float32frombits(bits))
	}
	return list
}

// fewNumbers is short enough for all pairs of complex numbers.
func fewNumbers() []float32 {
	return []float32{0, negZero, leastNumber, -leastNormal, 1, -0.1, 3, 1e20, -mostNumber, infinity, -infinity, notNum}
}

func complexOf(numbers []float32) []complex64 {
	list := make([]complex64, 0, len(numbers)*len(numbers))
	for _, re := range numbers {
		for _, im := range numbers {
			list = append(list, complex(re, im))
		}
	}
	return list
}

// fixedRandom makes the same numbers in each run.
func fixedRandom() *rand.Rand { return rand.New(rand.NewSource(1328)) }

func randomNumber(r *rand.Rand) float32 {
	switch r.Intn(3) {
	case 0:
		return math.Float32frombits(r.Uint32())
	case 1:
		return float32(r.NormFloat64())
	}
	return float32(r.Intn(65)-32) / 8
}

func repeated[T any](x T, times int) []T {
	list := make([]T, times)
	for i := range list {
		list[i] = x
	}
	return list
}
