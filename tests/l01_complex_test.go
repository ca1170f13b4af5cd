package tests

import (
	"math"
	"math/big"
	"testing"

	"loop.example/g01328/impl"
)

// Promise 2: products of small integers are exact.
func TestProductsOfSmallIntegers(t *testing.T) {
	for a := -9; a <= 9; a++ {
		for b := -9; b <= 9; b++ {
			for c := -9; c <= 9; c++ {
				for d := -9; d <= 9; d++ {
					x, y := complex(float32(a), float32(b)), complex(float32(c), float32(d))
					want := complex(float32(a*c-b*d), float32(a*d+b*c))
					got := impl.MulComplex(x, y)
					if got != want {
						t.Fatalf("MulComplex(%v, %v): got %v, want %v", x, y, got, want)
					}
					if y != 0 && impl.QuotientOf(got, y) != x {
						t.Fatalf("QuotientOf(%v, %v): got %v, want %v", got, y, impl.QuotientOf(got, y), x)
					}
				}
			}
			wantEqual(t, impl.PowerOf(complex(float32(a), float32(b))), float32(a*a+b*b), "PowerOf", a, b)
		}
	}
	// The greatest integers whose products are told exactly by 24 binary places.
	wantComplex(t, impl.MulComplex(4095, complex(4095, 1)), complex(16769025, 4095), "MulComplex")
}

// exactPart returns a b + sign c d, rounded once to 64 bits, and then to 32 bits.
func exactPart(a, b, c, d float32, sign float64) float32 {
	product := func(x, y float32) *big.Float {
		return new(big.Float).SetPrec(60).Mul(big.NewFloat(float64(x)), big.NewFloat(float64(y)))
	}
	second := product(c, d)
	second.Mul(second, big.NewFloat(sign))
	sum, _ := new(big.Float).SetPrec(53).Add(product(a, b), second).Float32()
	return sum
}

func TestMulComplexRoundsOnce(t *testing.T) {
	r := fixedRandom()
	for range 20000 {
		x, y := complex(randomNumber(r), randomNumber(r)), complex(randomNumber(r), randomNumber(r))
		if !impl.IsFiniteComplex(x) || !impl.IsFiniteComplex(y) {
			continue
		}
		got := impl.MulComplex(x, y)
		re := exactPart(real(x), real(y), imag(x), imag(y), -1)
		im := exactPart(real(x), imag(y), imag(x), real(y), 1)
		// big.Float has other signs of zeros that come of sums, so zeros are told apart below.
		if real(got) != re || imag(got) != im {
			t.Fatalf("MulComplex(%v, %v): got %v, want %v", x, y, got, complex(re, im))
		}
	}
}

func TestMulComplex(t *testing.T) {
	tiny := complex(leastNumber, 0)
	for _, c := range []struct{ x, y, want complex64 }{
		{complex(1, 2), complex(3, -1), complex(5, 5)},
		{complex(0, 1), complex(0, 1), -1},
		// With products of 32 bits, nothing would be left of the real part.
		{complex(1+0x1p-12, 1+0x1p-11), complex(1+0x1p-12, 1), complex(0x1p-24, 2+0x1p-10)},
		{complex(mostNumber, mostNumber), complex(mostNumber, mostNumber), complex(0, infinity)},
		{tiny, tiny, 0}, {tiny, 0.75, tiny}, {tiny, 0.5, 0},
		{complex(0, 0), complex(0, 0), complex(0, 0)},
		{complex(negZero, 0), complex(1, 0), complex(negZero, 0)},
		{complex(negZero, negZero), complex(1, 0), complex(0, negZero)},
		{complex(infinity, 0), complex(1, 0), complex(infinity, notNum)},
		{complex(infinity, infinity), complex(1, 1), complex(notNum, infinity)},
		{complex(notNum, 1), complex(1, 1), complex(notNum, notNum)},
	} {
		wantComplex(t, impl.MulComplex(c.x, c.y), c.want, "MulComplex", c.x, c.y)
	}
}

func TestScaleComplex(t *testing.T) {
	for _, c := range []struct {
		x    complex64
		by   float32
		want complex64
	}{
		{complex(1, 2), 0.5, complex(0.5, 1)},
		{complex(1, -2), negZero, complex(negZero, 0)},
		{complex(0, negZero), -1, complex(negZero, 0)},
		{complex(leastNumber, 3*leastNumber), 0.5, complex(0, 2*leastNumber)},
		{complex(mostNumber, -mostNumber), 2, complex(infinity, -infinity)},
		{complex(infinity, 1), 0, complex(notNum, 0)},
		{complex(1+0x1p-12, 1), 1 + 0x1p-12, complex(1+0x1p-11, 1+0x1p-12)},
		{complex(1, 2), notNum, complex(notNum, notNum)},
	} {
		wantComplex(t, impl.ScaleComplex(c.x, c.by), c.want, "ScaleComplex", c.x, c.by)
	}
}

func TestConjugateOf(t *testing.T) {
	for _, x := range complexOf(specialNumbers()) {
		got := impl.ConjugateOf(x)
		wantNumber(t, real(got), real(x), "real part of ConjugateOf", x)
		if y := imag(x); y != y {
			wantTrue(t, imag(got) != imag(got), "ConjugateOf", x)
		} else {
			wantBits(t, imag(got), bitsOf(y)^0x80000000, "imaginary part of ConjugateOf", x)
		}
	}
}

func TestPowerOf(t *testing.T) {
	for _, c := range []struct {
		x           complex64
		power, long float32
	}{
		{complex(3, 4), 25, 5}, {complex(-3, -4), 25, 5}, {0, 0, 0}, {complex(negZero, negZero), 0, 0},
		{complex(1, 1), 2, 1.4142135}, {complex(1+0x1p-12, 0), 1 + 0x1p-11, 1 + 0x1p-12},
		// The power is too great or too small for 32 bits, but its root, taken before narrowing, is not.
		{0x1p64, infinity, 0x1p64}, {complex(leastNumber, 0), 0, leastNumber}, {complex(0, -0x1p-100), 0, 0x1p-100},
		{complex(mostNumber, 0), infinity, mostNumber}, {complex(mostNumber, mostNumber), infinity, infinity},
		{complex(0, -infinity), infinity, infinity}, {complex(infinity, notNum), notNum, notNum},
		{complex(notNum, 0), notNum, notNum},
	} {
		wantNumber(t, impl.PowerOf(c.x), c.power, "PowerOf", c.x)
		wantNumber(t, impl.LongOf(c.x), c.long, "LongOf", c.x)
	}
}

func TestQuotientOf(t *testing.T) {
	tiny, huge := complex(leastNumber, 0), complex(mostNumber, 0)
	for _, c := range []struct{ x, y, want complex64 }{
		{complex(0, 4), 2, complex(0, 2)},
		{complex(5, 5), complex(3, -1), complex(1, 2)},
		{1, 3, 0.33333334}, {1, complex(0, 1), complex(0, -1)},
		{huge, huge, 1}, {tiny, tiny, 1},
		{complex(0, leastNumber), complex(0, leastNumber), 1},
		{huge, tiny, complex(infinity, 0)}, {tiny, huge, 0},
		{1, 0, complex(notNum, notNum)}, {0, 0, complex(notNum, notNum)},
		{complex(1, 2), complex(negZero, 0), complex(notNum, notNum)},
		{1, complex(infinity, 0), complex(notNum, notNum)},
		{complex(notNum, 0), 1, complex(notNum, notNum)},
	} {
		wantComplex(t, impl.QuotientOf(c.x, c.y), c.want, "QuotientOf", c.x, c.y)
	}
	wantComplex(t, impl.QuotientOf(-1, 2), complex(-0.5, 0), "QuotientOf", -1, 2)
	wantComplex(t, impl.QuotientOf(complex(0, -6), 3), complex(0, -2), "QuotientOf", "-6i", 3)
}

func TestRootNumber(t *testing.T) {
	for _, c := range []struct {
		x    float32
		bits uint32
	}{
		{9, 0x40400000}, {2, 0x3fb504f3}, {1, 0x3f800000}, {0, 0}, {negZero, 0x80000000},
		{leastNumber, 0x1a3504f3}, {mostNumber, 0x5f7fffff}, {infinity, 0x7f800000},
		{-leastNumber, 0x7fc00000}, {-1, 0x7fc00000}, {-infinity, 0x7fc00000}, {notNum, 0x7fc00000},
	} {
		wantBits(t, impl.RootNumber(c.x), c.bits, "RootNumber", c.x)
	}
	for i := range 3000 {
		wantEqual(t, impl.RootNumber(float32(i*i)), float32(i), "RootNumber", i*i)
		wantEqual(t, impl.RootNumber(float32(i)), float32(math.Sqrt(float64(i))), "RootNumber", i)
	}
}
