package tests

import (
	"testing"

	"loop.example/g01328/impl"
)

func wantSum(t *testing.T, got float32, ok bool, want float32, what string, args ...any) {
	t.Helper()
	wantTrue(t, ok, what, args...)
	wantNumber(t, got, want, what, args...)
}

func wantComplexSum(t *testing.T, got complex64, ok bool, want complex64, what string, args ...any) {
	t.Helper()
	wantTrue(t, ok, what, args...)
	wantComplex(t, got, want, what, args...)
}

func TestSumNumbers(t *testing.T) {
	for _, c := range []struct {
		list []float32
		want float32
	}{
		{nil, 0}, {[]float32{}, 0}, {[]float32{1, 2, 3.5}, 6.5},
		// A sum begins with +0, so it is never -0.
		{[]float32{negZero}, 0}, {[]float32{negZero, negZero}, 0}, {[]float32{1, -1, negZero}, 0},
		// Each sum is rounded, from left to right.
		{[]float32{0x1p24, 1, 1}, 0x1p24}, {[]float32{1, 1, 0x1p24}, 0x1p24 + 2}, {[]float32{0x1p24, 3}, 0x1p24 + 4},
		{[]float32{1e30, 1, -1e30}, 0}, {[]float32{leastNumber, leastNumber}, 2 * leastNumber},
		{[]float32{leastNormal, -leastNumber}, mostSubnorm},
		{[]float32{mostNumber, mostNumber, -mostNumber}, infinity},
		{[]float32{infinity, -infinity}, notNum}, {[]float32{1, notNum, 1}, notNum},
		{repeated[float32](1, 256), 256},
	} {
		got, ok := impl.SumNumbers(c.list)
		wantSum(t, got, ok, c.want, "SumNumbers", c.list)
	}
	got, ok := impl.SumNumbers(repeated[float32](1, 257))
	wantPair(t, got, ok, 0, false, "SumNumbers of 257")
}

func TestDotNumbers(t *testing.T) {
	for _, c := range []struct {
		a, b []float32
		want float32
	}{
		{nil, nil, 0}, {nil, []float32{}, 0}, {[]float32{1, 2}, []float32{3, 4}, 11},
		{[]float32{-1}, []float32{0}, 0}, {[]float32{negZero}, []float32{5}, 0},
		// The product is rounded before it is added: fused with the sum, it would leave 2 to the power of -24.
		{[]float32{-1 - 0x1p-11, 1 + 0x1p-12}, []float32{1, 1 + 0x1p-12}, 0},
		{[]float32{0x1p100, -0x1p100}, []float32{0x1p100, 0x1p100}, notNum},
		{[]float32{leastNumber}, []float32{0.5}, 0}, {[]float32{leastNumber}, []float32{0.75}, leastNumber},
		{[]float32{0}, []float32{infinity}, notNum}, {[]float32{0x1p24, 1, 1}, []float32{1, 1, 1}, 0x1p24},
		{repeated[float32](2, 256), repeated[float32](3, 256), 1536},
	} {
		got, ok := impl.DotNumbers(c.a, c.b)
		wantSum(t, got, ok, c.want, "DotNumbers", c.a, c.b)
	}
	for _, c := range [][2][]float32{
		{{1}, nil}, {nil, {1}}, {{1, 2}, {1}}, {{1}, {1, 2}},
		{repeated[float32](1, 257), repeated[float32](1, 257)},
		{repeated[float32](1, 256), repeated[float32](1, 257)},
	} {
		got, ok := impl.DotNumbers(c[0], c[1])
		wantPair(t, got, ok, 0, false, "DotNumbers", len(c[0]), len(c[1]))
	}
}

func TestSumComplex(t *testing.T) {
	minusZero := complex(negZero, negZero)
	for _, c := range []struct {
		list []complex64
		want complex64
	}{
		{nil, 0}, {[]complex64{}, 0}, {[]complex64{1, complex(2, 3)}, complex(3, 3)},
		{[]complex64{minusZero}, 0}, {[]complex64{complex(0x1p24, 1), complex(1, 1), complex(1, 0x1p24)}, complex(0x1p24, 0x1p24+2)},
		{[]complex64{complex(infinity, 1), complex(-infinity, 1)}, complex(notNum, 2)},
		{repeated[complex64](complex(1, -1), 256), complex(256, -256)},
	} {
		got, ok := impl.SumComplex(c.list)
		wantComplexSum(t, got, ok, c.want, "SumComplex", c.list)
	}
	got, ok := impl.SumComplex(repeated[complex64](1, 257))
	wantPair(t, got, ok, 0, false, "SumComplex of 257")
}

func TestDotComplex(t *testing.T) {
	i := complex64(complex(0, 1))
	fine := complex64(complex(1+0x1p-12, 1+0x1p-11))
	for _, c := range []struct {
		a, b           []complex64
		dot, conjugate complex64
	}{
		{nil, nil, 0, 0}, {[]complex64{}, nil, 0, 0},
		{[]complex64{i}, []complex64{i}, -1, 1},
		{[]complex64{complex(1, 2), 3}, []complex64{complex(3, -1), i}, complex(5, 8), complex(1, -4)},
		// The parts of a product are narrowed once, and not their products.
		{[]complex64{fine}, []complex64{complex(1+0x1p-12, 1)}, complex(0x1p-24, 2+0x1p-10), complex(2+0x1p-10, -0x1p-11-0x1p-23)},
		{[]complex64{0x1p24, 1, 1}, []complex64{1, 1, 1}, 0x1p24, 0x1p24},
		{[]complex64{complex(negZero, negZero)}, []complex64{1}, 0, 0},
		{[]complex64{complex(notNum, 0)}, []complex64{1}, complex(notNum, notNum), complex(notNum, notNum)},
		{repeated(i, 256), repeated(i, 256), -256, 256},
	} {
		got, ok := impl.DotComplex(c.a, c.b)
		wantComplexSum(t, got, ok, c.dot, "DotComplex", c.a, c.b)
		got, ok = impl.DotConjugate(c.a, c.b)
		wantComplexSum(t, got, ok, c.conjugate, "DotConjugate", c.a, c.b)
	}
	for _, c := range [][2][]complex64{
		{{1}, nil}, {nil, {1}}, {{1, 2}, {1}}, {{1}, {1, 2}},
		{repeated(i, 257), repeated(i, 257)}, {repeated(i, 256), repeated(i, 257)}, {repeated(i, 257), repeated(i, 256)},
	} {
		got, ok := impl.DotComplex(c[0], c[1])
		wantPair(t, got, ok, 0, false, "DotComplex", len(c[0]), len(c[1]))
		got, ok = impl.DotConjugate(c[0], c[1])
		wantPair(t, got, ok, 0, false, "DotConjugate", len(c[0]), len(c[1]))
	}
}

func TestPowersOf(t *testing.T) {
	for _, c := range []struct {
		list []complex64
		want float32
	}{
		{nil, 0}, {[]complex64{}, 0}, {[]complex64{complex(3, 4), 1}, 26},
		// The powers are added with 64 bits, and narrowed in the end.
		{[]complex64{4096, 1, 1}, 0x1p24 + 2}, {[]complex64{complex(0x1p-75, 0), complex(0, 0x1p-75)}, leastNumber},
		{[]complex64{0x1p64}, infinity}, {[]complex64{complex(0, infinity)}, infinity},
		{[]complex64{complex(infinity, notNum)}, notNum},
		{repeated[complex64](complex(1, 1), 256), 512},
	} {
		got, ok := impl.PowersOf(c.list)
		wantSum(t, got, ok, c.want, "PowersOf", c.list)
	}
	got, ok := impl.PowersOf(repeated[complex64](1, 257))
	wantPair(t, got, ok, 0, false, "PowersOf 257")
}
