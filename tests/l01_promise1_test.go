package tests

import (
	"math"
	"slices"
	"strings"
	"testing"

	"loop.example/g01328/impl"
)

// otherwise returns x, or another not-a-number in place of one: both are equal arguments.
func otherwise(x float32) float32 {
	if x != x {
		return math.Float32frombits(0xff800001 ^ math.Float32bits(x)&0x003ffffe)
	}
	return x
}

func otherComplex(x complex64) complex64 {
	return complex(otherwise(real(x)), otherwise(imag(x)))
}

func truth(ok bool) float32 {
	if ok {
		return 1
	}
	return 0
}

// oneNumber has the results of all functions of chapter 1 that take a number.
func oneNumber(x float32) []float32 {
	tenths, ok := impl.TenthsOf(x)
	phasor := impl.PhasorOf(float64(x))
	narrow := impl.NarrowComplex(complex(1, float64(x)))
	fromBits, _ := impl.FromBits(impl.BitsOf(x))
	return []float32{
		truth(impl.IsFinite(x)), float32(impl.BitsOf(x)), fromBits, impl.NarrowNumber(float64(x)),
		truth(impl.IsSubnormal(x)), impl.FlushNumber(x), real(narrow), imag(narrow), real(phasor), imag(phasor),
		impl.SineTurns(x), float32(tenths), truth(ok), impl.RootNumber(x), impl.ExpNumber(x), impl.LogNumber(x),
	}
}

// twoNumbers has those of all that take two numbers, or a complex number.
func twoNumbers(x, y float32) []float32 {
	z := complex(x, y)
	scaled, conjugate := impl.ScaleComplex(z, x), impl.ConjugateOf(z)
	return []float32{
		truth(impl.SameNumber(x, y)), impl.AngleTurns(y, x), impl.AngleOf(z), impl.PowerOf(z), impl.LongOf(z),
		truth(impl.IsFiniteComplex(z)), real(scaled), imag(scaled), real(conjugate), imag(conjugate),
	}
}

// twoComplex has those of all that take two complex numbers.
func twoComplex(x, y complex64) []float32 {
	product, quotient := impl.MulComplex(x, y), impl.QuotientOf(x, y)
	return []float32{
		truth(impl.SameComplex(x, y)), real(product), imag(product), real(quotient), imag(quotient),
	}
}

func wantSameResults(t *testing.T, got, want []float32, args ...any) {
	t.Helper()
	if !slices.EqualFunc(got, want, sameBits) {
		t.Errorf("equal arguments %v: got %v, and then %v", args, want, got)
	}
}

// Promise 1, for functions of numbers: they return for all arguments, and do the same for equal ones.
func TestNumbersAreTotalAndPure(t *testing.T) {
	numbers := specialNumbers()
	r := fixedRandom()
	for range 200 {
		numbers = append(numbers, randomNumber(r))
	}
	for _, x := range numbers {
		wantSameResults(t, oneNumber(otherwise(x)), oneNumber(x), x)
		for _, y := range numbers {
			wantSameResults(t, twoNumbers(otherwise(x), otherwise(y)), twoNumbers(x, y), x, y)
		}
	}
	points := complexOf(fewNumbers())
	for _, x := range points {
		for _, y := range points {
			wantSameResults(t, twoComplex(otherComplex(x), otherComplex(y)), twoComplex(x, y), x, y)
		}
	}
}

// listResults has the results of all functions of chapter 1 that take lists, as texts and numbers.
func listResults(numbers []float32, points []complex64, values []int64) ([]string, []float32) {
	sum, _ := impl.SumNumbers(numbers)
	dot, _ := impl.DotNumbers(numbers, numbers)
	total, _ := impl.SumComplex(points)
	product, _ := impl.DotComplex(points, points)
	conjugate, _ := impl.DotConjugate(points, points)
	powers, _ := impl.PowersOf(points)
	first, _ := impl.NumbersText(numbers)
	second, _ := impl.ComplexText(points)
	third, _ := impl.ListText(values)
	return []string{first, second, third}, []float32{
		sum, dot, real(total), imag(total), real(product), imag(product), real(conjugate), imag(conjugate), powers,
	}
}

// Promise 1, for functions of lists: neither a list nor what is behind it is modified, and nil is an empty list.
func TestListsAreNotModified(t *testing.T) {
	r := fixedRandom()
	for _, length := range []int{0, 1, 2, 7, 64, 65, 256, 257, 300} {
		numbers := make([]float32, length+5)
		points := make([]complex64, length+5)
		values := make([]int64, length+5)
		for i := range numbers {
			numbers[i] = randomNumber(r)
			points[i] = complex(randomNumber(r), randomNumber(r))
			values[i] = int64(r.Uint64()) >> r.Intn(64)
		}
		oldNumbers, oldPoints, oldValues := slices.Clone(numbers), slices.Clone(points), slices.Clone(values)
		texts, results := listResults(numbers[:length], points[:length], values[:length])
		if !slices.EqualFunc(numbers, oldNumbers, sameBits) || !slices.EqualFunc(points, oldPoints, sameParts) || !slices.Equal(values, oldValues) {
			t.Errorf("lists of %d: modified", length)
		}
		againTexts, againResults := listResults(oldNumbers[:length], oldPoints[:length], oldValues[:length])
		wantSameResults(t, againResults, results, "lists of", length)
		wantTrue(t, slices.Equal(againTexts, texts), "equal texts of equal lists of", length)
	}
	noTexts, noResults := listResults(nil, nil, nil)
	emptyTexts, emptyResults := listResults([]float32{}, []complex64{}, []int64{})
	wantSameResults(t, emptyResults, noResults, "no lists")
	wantTrue(t, slices.Equal(emptyTexts, noTexts), "texts of no lists")
}

// Promise 1: what is returned is new, so that a caller may change it.
func TestListsAreNew(t *testing.T) {
	numbers, _ := impl.ReadNumbers("3f800000,c0000000")
	points, _ := impl.ReadComplex("3f80000000000000")
	values, _ := impl.ReadList("1,2")
	numbers[0], points[0], values[0] = 7, 7, 7
	numbers, _ = impl.ReadNumbers("3f800000,c0000000")
	points, _ = impl.ReadComplex("3f80000000000000")
	values, _ = impl.ReadList("1,2")
	wantEqual(t, numbers[0], 1, "ReadNumbers again")
	wantEqual(t, points[0], 1, "ReadComplex again")
	wantEqual(t, values[0], 1, "ReadList again")
}

// Promise 1, for functions of texts: any bytes are taken.
func TestTextsAreTotal(t *testing.T) {
	texts := []string{
		"", "none", ",", "\x00", "\xff", "\xff\xfe\xfd", "\ufffd", "\u00e9", strings.Repeat("\xff", 16),
		strings.Repeat(",", 1<<20), strings.Repeat("none,", 1<<16), strings.Repeat("00000000,", 1<<16), strings.Repeat("9", 1<<20),
	}
	r := fixedRandom()
	for range 5000 {
		bytes := make([]byte, r.Intn(40))
		r.Read(bytes)
		texts = append(texts, string(bytes))
	}
	for _, s := range texts {
		impl.ReadNumbers(s)
		impl.ReadComplex(s)
		impl.ReadList(s)
		impl.ReadDecimal(s)
		impl.IsName(s)
		first, ok := impl.CheckOf(5, s)
		second, again := impl.CheckOf(5, strings.Clone(s))
		wantPair(t, second, again, first, ok, "CheckOf", len(s))
	}
}
