package tests

import (
	"math"
	"testing"

	"loop.example/g01328/impl"
)

// The bits in this file were computed from the document's text by another program, in another language.

func TestTenthsOf(t *testing.T) {
	for _, c := range []struct {
		power  float32
		tenths int64
	}{
		{1, 0}, {10, 100}, {100, 200}, {1000, 300}, {2, 30}, {0.5, -30}, {3, 48}, {0.1, -100}, {0.0001, -400},
		{0.75, -12}, {1.5, 18}, {1.4999999, 18}, {leastNumber, -4485}, {mostNumber, 3853},
		// The least number that is rounded up to one tenth, and the one below it.
		{math.Float32frombits(0x3f817b70), 1}, {math.Float32frombits(0x3f817b6f), 0},
		{math.Float32frombits(0x3f7d11d1), 0},
	} {
		tenths, ok := impl.TenthsOf(c.power)
		wantPair(t, tenths, ok, c.tenths, true, "TenthsOf", c.power)
	}
	for _, power := range []float32{0, negZero, -leastNumber, -1, infinity, -infinity, notNum} {
		tenths, ok := impl.TenthsOf(power)
		wantPair(t, tenths, ok, 0, false, "TenthsOf", power)
	}
}

func TestLogNumber(t *testing.T) {
	for _, c := range []struct {
		x    float32
		bits uint32
	}{
		{1, 0}, {2, 0x3f317218}, {0.5, 0xbf317218}, {10, 0x40135d8e}, {2.7182817, 0x3f7fffff},
		{0.75, 0xbe934b11}, {1.5, 0x3ecf991f}, {3, 0x3f8c9f54},
		{0.9999999, 0xb4000001}, {1.0000001, 0x33ffffff},
		{leastNumber, 0xc2ce8ed0}, {leastNormal, 0xc2aeac50}, {mostNumber, 0x42b17218},
		{0, 0xff800000}, {negZero, 0xff800000}, {infinity, 0x7f800000},
		{-leastNumber, 0x7fc00000}, {-1, 0x7fc00000}, {-infinity, 0x7fc00000}, {notNum, 0x7fc00000},
	} {
		wantBits(t, impl.LogNumber(c.x), c.bits, "LogNumber", c.x)
	}
	for i := 1; i < 3000; i++ {
		x := float32(i) / 64
		want := math.Log(float64(x))
		if miss := math.Abs(float64(impl.LogNumber(x)) - want); !(miss <= 1e-7*max(1, math.Abs(want))) {
			t.Errorf("LogNumber(%v): got %v, want %v, nearly", x, impl.LogNumber(x), want)
		}
	}
}

func TestExpNumber(t *testing.T) {
	for _, c := range []struct {
		x    float32
		bits uint32
	}{
		{0, 0x3f800000}, {negZero, 0x3f800000}, {1, 0x402df854}, {-1, 0x3ebc5ab2}, {0.5, 0x3fd3094c},
		{10, 0x46ac14ee}, {-10, 0x383e6bce}, {0.001, 0x3f8020c9}, {3.3, 0x41d8e6af}, {leastNumber, 0x3f800000},
		{88.72283, 0x7f7fff84}, {88.72284, 0x7f800000}, {88.7229, 0x7f800000},
		{-87.33654, 0x00800026}, {-87.4, 0x00782140}, {-103.2, 1}, {-103.97, 1}, {-103.98, 0}, {-104, 0},
		{200, 0x7f800000}, {200.00002, 0x7f800000}, {-200, 0}, {-200.00002, 0},
		{mostNumber, 0x7f800000}, {-mostNumber, 0}, {infinity, 0x7f800000}, {-infinity, 0}, {notNum, 0x7fc00000},
	} {
		wantBits(t, impl.ExpNumber(c.x), c.bits, "ExpNumber", c.x)
	}
	for i := -2500; i <= 2500; i++ {
		x := float32(i) / 32
		want := math.Exp(float64(x))
		if miss := math.Abs(float64(impl.ExpNumber(x)) - want); !(miss <= 1e-7*want) {
			t.Errorf("ExpNumber(%v): got %v, want %v, nearly", x, impl.ExpNumber(x), want)
		}
	}
}
