package tests

import (
	"math"
	"testing"

	"loop.example/g01328/impl"
)

func TestLimits(t *testing.T) {
	wantEqual(t, impl.MaxNumbers, 256, "MaxNumbers")
	wantEqual(t, impl.MaxValue, 1000000000000000, "MaxValue")
	wantEqual(t, impl.MaxItems, 64, "MaxItems")
	wantEqual(t, impl.CheckSize, 65003, "CheckSize")
}

func TestSameNumber(t *testing.T) {
	list := specialNumbers()
	for _, a := range list {
		for _, b := range list {
			wantEqual(t, impl.SameNumber(a, b), sameBits(a, b), "SameNumber", a, b)
		}
	}
	wantEqual(t, impl.SameNumber(0, negZero), false, "SameNumber of both zeros")
	wantEqual(t, impl.SameNumber(notNum, math.Float32frombits(0xff800001)), true, "SameNumber of not-a-numbers")
	wantEqual(t, impl.SameNumber(1, 1.0000001), false, "SameNumber of neighbours")
}

func TestSameComplex(t *testing.T) {
	list := complexOf(fewNumbers())
	for _, a := range list {
		for _, b := range list {
			wantEqual(t, impl.SameComplex(a, b), sameParts(a, b), "SameComplex", a, b)
		}
	}
	wantEqual(t, impl.SameComplex(complex(1, 0), complex(1, negZero)), false, "SameComplex of both zeros")
	wantEqual(t, impl.SameComplex(complex(0, 2), complex(negZero, 2)), false, "SameComplex of both zeros")
}

func TestFinite(t *testing.T) {
	for _, x := range specialNumbers() {
		want := x-x == 0
		wantEqual(t, impl.IsFinite(x), want, "IsFinite", x)
		wantEqual(t, impl.IsFiniteComplex(complex(x, 1)), want, "IsFiniteComplex", x, 1)
		wantEqual(t, impl.IsFiniteComplex(complex(1, x)), want, "IsFiniteComplex", 1, x)
	}
}

func TestBitsOf(t *testing.T) {
	for _, c := range []struct {
		x    float32
		bits int64
	}{
		{0, 0}, {negZero, 2147483648}, {1, 1065353216}, {-2, 3221225472},
		{leastNumber, 1}, {-leastNumber, 2147483649}, {mostSubnorm, 8388607}, {leastNormal, 8388608},
		{mostNumber, 2139095039}, {infinity, 2139095040}, {-infinity, 4286578688}, {notNum, 2143289344},
	} {
		wantEqual(t, impl.BitsOf(c.x), c.bits, "BitsOf", c.x)
	}
	for _, bits := range []uint32{0x7f800001, 0x7fffffff, 0xff800001, 0xffc00000, 0xffffffff} {
		wantEqual(t, impl.BitsOf(math.Float32frombits(bits)), 2143289344, "BitsOf a not-a-number", bits)
	}
}

func TestFromBits(t *testing.T) {
	for _, x := range specialNumbers() {
		got, ok := impl.FromBits(int64(math.Float32bits(x)))
		wantTrue(t, ok, "FromBits", x)
		wantNumber(t, got, x, "FromBits", x)
	}
	got, ok := impl.FromBits(4294967295)
	wantTrue(t, ok && got != got, "FromBits of the greatest bits")
	for _, n := range []int64{-1, 4294967296, math.MinInt64, math.MaxInt64} {
		got, ok := impl.FromBits(n)
		wantPair(t, got, ok, 0, false, "FromBits", n)
	}
	r := fixedRandom()
	for range 10000 {
		n := int64(r.Uint32())
		x, ok := impl.FromBits(n)
		if x == x {
			wantPair(t, impl.BitsOf(x), ok, n, true, "BitsOf FromBits", n)
		}
	}
}

func TestNarrowNumber(t *testing.T) {
	for _, c := range []struct {
		x    float64
		bits uint32
	}{
		{0, 0}, {math.Copysign(0, -1), 0x80000000}, {0.5, 0x3f000000}, {0.1, 0x3dcccccd},
		// Ties go to the even neighbour, and the next 64-bit numbers beside them do not.
		{1 + 0x1p-24, 0x3f800000}, {1 + 0x1p-24 + 0x1p-52, 0x3f800001},
		{1 + 0x3p-24, 0x3f800002}, {1 + 0x3p-24 - 0x1p-52, 0x3f800001}, {-1 - 0x3p-24, 0xbf800002},
		// Subnormal results are rounded in the same way.
		{0x1p-149, 1}, {0x1p-150, 0}, {-0x1p-150, 0x80000000}, {0x1.0000000000001p-150, 1},
		{0x3p-150, 2}, {0x5p-150, 2}, {0x1p-1074, 0}, {-0x1p-1074, 0x80000000},
		{0x1.fffffdp-127, 0x007fffff}, {0x1.fffffep-127, 0x00800000}, {0x1p-126, 0x00800000},
		// Half a step behind the greatest number is a tie with an infinity, which is even.
		{math.MaxFloat32, 0x7f7fffff}, {0x1.fffffefffffffp127, 0x7f7fffff}, {0x1.ffffffp127, 0x7f800000},
		{-0x1.ffffffp127, 0xff800000}, {math.MaxFloat64, 0x7f800000},
		{math.Inf(1), 0x7f800000}, {math.Inf(-1), 0xff800000}, {math.NaN(), 0x7fc00000},
	} {
		wantBits(t, impl.NarrowNumber(c.x), c.bits, "NarrowNumber", c.x)
		wide := complex(c.x, 2)
		wantComplex(t, impl.NarrowComplex(wide), complex(math.Float32frombits(c.bits), 2), "NarrowComplex", wide)
		wide = complex(-0.5, c.x)
		wantComplex(t, impl.NarrowComplex(wide), complex(-0.5, math.Float32frombits(c.bits)), "NarrowComplex", wide)
	}
}

// The nearest number is at least as near as both of its neighbours.
func TestNarrowNumberIsNearest(t *testing.T) {
	r := fixedRandom()
	for range 10000 {
		x := math.Ldexp(r.Float64()+1, r.Intn(250)-125)
		got := impl.NarrowNumber(x)
		miss := math.Abs(float64(got) - x)
		for _, to := range []float32{infinity, -infinity} {
			beside := float64(math.Nextafter32(got, to))
			if math.Abs(beside-x) < miss {
				t.Errorf("NarrowNumber(%v): got %v, but %v is nearer", x, got, beside)
			}
		}
	}
}

func TestSubnormal(t *testing.T) {
	for _, c := range []struct {
		x    float32
		want bool
	}{
		{0, false}, {negZero, false}, {leastNumber, true}, {-leastNumber, true},
		{mostSubnorm, true}, {-mostSubnorm, true}, {leastNormal, false}, {-leastNormal, false},
		{1, false}, {-3, false}, {mostNumber, false}, {infinity, false}, {-infinity, false}, {notNum, false},
	} {
		wantEqual(t, impl.IsSubnormal(c.x), c.want, "IsSubnormal", c.x)
		flushed := c.x
		if c.want {
			flushed = float32(math.Copysign(0, float64(c.x)))
		}
		wantNumber(t, impl.FlushNumber(c.x), flushed, "FlushNumber", c.x)
	}
}
