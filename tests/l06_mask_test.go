package tests

import (
	"testing"

	"loop.example/g01328/impl"
)

// Promise 7: masks have 1, 3 or 5 numbers, whose sum is about 1.
func TestIsMask(t *testing.T) {
	for _, mask := range [][]float32{
		{1}, {0.25, 0.5, 0.25}, {0, 0.5, 0.5}, {-1, 3, -1}, {0.0625, 0.25, 0.375, 0.25, 0.0625}, repeated[float32](0.2, 5), repeated[float32](1.0/3, 3),
		{1.0009999}, {0.9990001}, {0.999}, {0.9995, negZero, 0}, {leastNumber, 1, -leastNumber},
		// The numbers are added in order, and so the greatest ones leave just the 1 behind them.
		{mostNumber, -mostNumber, 1},
	} {
		wantTrue(t, impl.IsMask(mask), "IsMask", mask)
	}
	// 1.001 as a 32-bit number is a bit too great.
	for bits, want := range map[uint32]bool{0x3f8020c4: true, 0x3f8020c5: false, 0x3f7fbe77: true, 0x3f7fbe76: false} {
		x, _ := impl.FromBits(int64(bits))
		wantEqual(t, impl.IsMask([]float32{x}), want, "IsMask", x)
		wantEqual(t, impl.IsMask([]float32{0, 0, x, 0, 0}), want, "IsMask of five", x)
	}
	for _, mask := range notMasks() {
		wantEqual(t, impl.IsMask(mask), false, "IsMask", mask)
	}
}

// maskCase is a ring with two masks, and what they make of it.
type maskCase struct {
	list, want []complex64
	even, odd  []float32
}

// Promise 7: rings that masks make, to the last bit.
func TestMaskOnce(t *testing.T) {
	one := []float32{1}
	places := []complex64{1, 10, 100, 1000, 10000, 100000}
	for _, c := range []maskCase{
		{list: []complex64{0, 2}, even: one, odd: []float32{0, 0.5, 0.5}, want: []complex64{0, 1, 2, 1}},
		{list: angle(), even: one, odd: one, want: []complex64{0, 0, 4, 4, 4 + 4i, 4 + 4i}},
		// Each place shows which number it has been multiplied by.
		{list: places, even: []float32{2, -3, 4, -5, 3}, odd: []float32{0.5, 0.25, 0.25}, want: []complex64{-279746, 50002.75, 202537, 28, 25372, 280, 253720, 2800, -462797, 28000, 372025, 30000.25}},
		{list: []complex64{1, 1i, 100}, even: []float32{0.5, 0, 0.5}, odd: []float32{2, -1, 0}, want: []complex64{50 + 0.5i, 199, 50.5, 2 - 1i, 0.5 + 0.5i, -100 + 2i}},
		// Five numbers go around two points more than twice.
		{list: []complex64{0, 16}, even: []float32{0.0625, 0.25, 0.5, 0.125, 0.0625}, odd: one, want: []complex64{6, 0, 10, 16}},
		{list: []complex64{0, 16}, even: one, odd: []float32{0.5, 0.25, 0.25}, want: []complex64{0, 12, 16, 4}},
		{
			list: []complex64{0.1, 0.2 + 1i, 0.7i}, even: []float32{0.3, 0.3, 0.4}, odd: []float32{0.1, 0.2, 0.4, 0.2, 0.1},
			want: hexPoints("3de147af/3f1c28f6,3dccccce/3f028f5c,3db851ec/3f147ae2,3de147af/3f1c28f6,3dccccce/3f028f5c,3db851ed/3f147ae2"),
		},
		// Sums begin with +0.
		{list: zeros(2), even: one, odd: []float32{0, 1, 0}, want: make([]complex64, 4)},
		{list: []complex64{farPoint, 0}, even: one, odd: []float32{0, 0.5, 0.5}, want: []complex64{farPoint, farPoint / 2, 0, farPoint / 2}},
	} {
		got, ok := impl.MaskOnce(c.list, c.even, c.odd)
		wantPoints(t, got, ok, c.want, "MaskOnce", c.list, c.even, c.odd)
	}
	got, ok := impl.MaskOnce(line(64), one, one)
	wantTrue(t, ok && len(got) == impl.MaxRing, "MaskOnce of 64 points", len(got))
	got, ok = impl.MaskOnce(line(65), one, one)
	wantNoList(t, got, ok, "MaskOnce of 65 points")
	for _, mask := range notMasks() {
		got, ok := impl.MaskOnce(angle(), mask, one)
		wantNoList(t, got, ok, "MaskOnce, even", mask)
		got, ok = impl.MaskOnce(angle(), one, mask)
		wantNoList(t, got, ok, "MaskOnce, odd", mask)
	}
	for _, far := range [][]float32{{3, -1, -1}, {mostNumber, -mostNumber, 1}} {
		got, ok := impl.MaskOnce([]complex64{farPoint, -farPoint, 0}, far, one)
		wantNoList(t, got, ok, "MaskOnce, too far", far)
		got, ok = impl.MaskOnce([]complex64{0, complex(0, mostNumber), -farPoint}, one, far)
		wantNoList(t, got, ok, "MaskOnce, too far", far)
	}
}

// Promise 7: some masks make what other functions do with closed rings.
func TestMasksOfOtherFunctions(t *testing.T) {
	s := newSource()
	for range 300 {
		list := s.points(2 + s.below(12))
		got, ok := impl.MaskOnce(list, []float32{0.125, 0.75, 0.125}, []float32{0, 0.5, 0.5})
		want, _ := impl.CubicOnce(list, true, nil)
		wantAllNear(t, got, ok, want, "CubicOnce by masks", list)
		got, ok = impl.MaskOnce(list, []float32{1}, []float32{0, -0.0625, 0.5625, 0.5625, -0.0625})
		want, _ = impl.FourPoints(list, true, 0.0625)
		wantAllNear(t, got, ok, want, "FourPoints by masks", list)
		got, ok = impl.MaskOnce(list, []float32{0, 0.75, 0.25}, []float32{0, 0.25, 0.75})
		want, _ = impl.CutCorners(list, true, 0.25)
		wantAllNear(t, got, ok, want, "CutCorners by masks", list)
	}
}

func wantAllNear(t *testing.T, got []complex64, ok bool, want []complex64, what string, args ...any) {
	t.Helper()
	if !ok || len(got) != len(want) {
		t.Fatalf("%s%v: got %v %v, want %v", what, args, got, ok, want)
	}
	for i := range got {
		wantNear(t, got[i], want[i], what, args...)
	}
}
