package tests

import (
	"math"
	"testing"

	"loop.example/g01328/impl"
)

// The bits in this file were computed from the document's text by another program, in another language.

func TestSineTurns(t *testing.T) {
	for _, c := range []struct {
		x    float32
		bits uint32
	}{
		{0, 0}, {negZero, 0x80000000}, {0.25, 0x3f800000}, {0.5, 0x80000000}, {0.75, 0xbf800000},
		{1, 0}, {-1, 0}, {-0.5, 0x80000000}, {-0.25, 0xbf800000}, {0.125, 0x3f3504f3},
		{0.1, 0x3f167918}, {-0.1, 0xbf167918}, {0.3, 0x3f737870}, {0.7, 0xbf737870},
		{12.3, 0x3f73786a}, {-1000.7, 0x3f7379fe},
		{leastNumber, 6}, {leastNormal, 0x01c90fdb},
		// The part of these turns is rounded to 1, half a turn is taken away twice, and the sign turned.
		{-leastNumber, 0x80000000}, {-1e-20, 0x80000000},
		{0x1.fffffep22, 0x80000000}, {0x1.fffffep51, 0}, {-0x1.fffffep51, 0},
		{wholeNumbers, 0}, {-wholeNumbers, 0}, {mostNumber, 0}, {-mostNumber, 0},
		{infinity, 0x7fc00000}, {-infinity, 0x7fc00000}, {notNum, 0x7fc00000},
	} {
		wantBits(t, impl.SineTurns(c.x), c.bits, "SineTurns", c.x)
	}
	for i := range 4001 {
		x := float32(i-2000) / 512
		want := math.Sin(2 * math.Pi * float64(x))
		if miss := math.Abs(float64(impl.SineTurns(x)) - want); !(miss < 1e-7) {
			t.Errorf("SineTurns(%v): got %v, want %v, nearly", x, impl.SineTurns(x), want)
		}
	}
}

func TestPhasorOf(t *testing.T) {
	for _, c := range []struct {
		turns  float64
		re, im uint32
	}{
		{0, 0x3f800000, 0}, {math.Copysign(0, -1), 0x3f800000, 0x80000000},
		{0.25, 0, 0x3f800000}, {0.5, 0xbf800000, 0}, {0.75, 0, 0xbf800000}, {1, 0x3f800000, 0},
		{-1, 0x3f800000, 0}, {-0.25, 0, 0xbf800000}, {0.125, 0x3f3504f3, 0x3f3504f3},
		{0.1, 0x3f4f1bbd, 0x3f167918}, {0.3, 0xbe9e377a, 0x3f737871}, {0.6, 0xbf4f1bbd, 0xbf167918},
		{0.9, 0x3f4f1bbd, 0xbf167918}, {-0.1, 0x3f4f1bbd, 0xbf167918}, {12.3, 0xbe9e377a, 0x3f737871},
		// Four quarters: the part of these turns is rounded to 1.
		{-1e-20, 0x3f800000, 0}, {-0x1p-1074, 0x3f800000, 0},
		{0x1p-1074, 0x3f800000, 0}, {0x1p-149, 0x3f800000, 6},
		{0x1.fffffffffffffp51, 0xbf800000, 0}, {-0x1.fffffffffffffp51, 0xbf800000, 0},
		{0x1p52, 0x3f800000, 0}, {-0x1p52, 0x3f800000, 0}, {1e300, 0x3f800000, 0},
		{math.Inf(1), 0x7fc00000, 0x7fc00000}, {math.Inf(-1), 0x7fc00000, 0x7fc00000},
		{math.NaN(), 0x7fc00000, 0x7fc00000},
	} {
		got := impl.PhasorOf(c.turns)
		wantBits(t, real(got), c.re, "real part of PhasorOf", c.turns)
		wantBits(t, imag(got), c.im, "imaginary part of PhasorOf", c.turns)
	}
	for i := range 4001 {
		turns := float64(i-2000) / 300
		sine, cosine := math.Sincos(2 * math.Pi * turns)
		got := impl.PhasorOf(turns)
		miss := max(math.Abs(float64(real(got))-cosine), math.Abs(float64(imag(got))-sine))
		if !(miss < 1e-7) {
			t.Errorf("PhasorOf(%v): got %v, want %v %v, nearly", turns, got, cosine, sine)
		}
	}
}

func TestAngleTurns(t *testing.T) {
	for _, c := range []struct {
		y, x float32
		bits uint32
	}{
		{0, 1, 0}, {negZero, 1, 0}, {0, -1, 0x3f000000}, {negZero, -1, 0x3f000000},
		{1, 0, 0x3e800000}, {-1, 0, 0xbe800000}, {1, negZero, 0x3e800000}, {-1, negZero, 0xbe800000},
		{1, 1, 0x3e000000}, {-1, -1, 0xbec00000}, {1, -1, 0x3ec00000}, {-1, 1, 0xbe000000},
		{3, 4, 0x3dd1bfae}, {-5, 2, 0xbe41fcb3}, {1, 3, 0x3d51bfae}, {2, -7, 0x3ee95275}, {-1, 3, 0xbd51bfae},
		{leastNumber, leastNumber, 0x3e000000}, {leastNumber, 1, 0}, {1, leastNumber, 0x3e800000},
		{-leastNumber, -1, 0xbf000000}, {mostNumber, leastNumber, 0x3e800000}, {mostNumber, mostNumber, 0x3e000000},
		{0, 0, 0}, {negZero, 0, 0}, {0, negZero, 0}, {negZero, negZero, 0},
		{infinity, 1, 0x7fc00000}, {1, -infinity, 0x7fc00000}, {infinity, infinity, 0x7fc00000},
		{notNum, 1, 0x7fc00000}, {0, notNum, 0x7fc00000}, {0, infinity, 0x7fc00000},
	} {
		wantBits(t, impl.AngleTurns(c.y, c.x), c.bits, "AngleTurns", c.y, c.x)
		wantBits(t, impl.AngleOf(complex(c.x, c.y)), c.bits, "AngleOf", c.x, c.y)
	}
	for y := -25; y <= 25; y++ {
		for x := -25; x <= 25; x++ {
			want := math.Atan2(float64(y), float64(x)) / (2 * math.Pi)
			got := impl.AngleTurns(float32(y), float32(x))
			if miss := math.Abs(float64(got) - want); !(miss < 1e-7) {
				t.Errorf("AngleTurns(%v, %v): got %v, want %v, nearly", y, x, got, want)
			}
		}
	}
}

func TestAngleOfPhasor(t *testing.T) {
	wantComplex(t, impl.PhasorOf(0.25), complex(0, 1), "PhasorOf", 0.25)
	wantNumber(t, impl.AngleOf(impl.PhasorOf(0.25)), 0.25, "AngleOf PhasorOf", 0.25)
	for i := -499; i < 500; i++ {
		turns := float64(i) / 1000
		if miss := math.Abs(float64(impl.AngleOf(impl.PhasorOf(turns))) - turns); !(miss < 1e-7) {
			t.Errorf("AngleOf(PhasorOf(%v)): misses it by %v", turns, miss)
		}
	}
}
