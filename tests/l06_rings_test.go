package tests

import (
	"math"
	"slices"
	"testing"

	"loop.example/g01328/impl"
)

// zeros is a ring of negative zeros.
func zeros(count int) []complex64 {
	return repeated(complex(negZero, negZero), count)
}

// ringCase is a ring with the number that a function takes, and what it returns.
type ringCase struct {
	list   []complex64
	closed bool
	by     float32
	want   []complex64
}

// Promise 7: rings have 2 to MaxRing points, any ones.
func TestIsRing(t *testing.T) {
	for _, list := range [][]complex64{
		{0, 1}, {0, 0}, {1i, 1i, 1i}, angle(), line(impl.MaxRing), zeros(2), {-farPoint, farPoint}, {complex(leastNumber, -mostNumber), 0},
	} {
		wantTrue(t, impl.IsRing(list), "IsRing", list)
	}
	for _, list := range notRings() {
		wantEqual(t, impl.IsRing(list), false, "IsRing", list)
	}
	wantEqual(t, [...]int{impl.MaxRing, impl.MaxSpots, impl.MaxFacets}, [...]int{128, 256, 256}, "limits of masks")
}

// Promise 7: there is nothing of lists that are no rings.
func TestNothingOfOtherRings(t *testing.T) {
	for _, list := range notRings() {
		for _, closed := range []bool{false, true} {
			for _, n := range []int64{0, 1} {
				wantNothing(t, ofRings(list, closed, 0, n, nil, []float32{1}, []float32{1}), "list that is no ring", list, closed, n)
				wantNothing(t, ofRings(list, closed, 0.25, n, nil, []float32{0.25, 0.5, 0.25}, []float32{1}), "list that is no ring", list, closed, n)
			}
		}
	}
}

// Promise 7, and the chapter's example: rings with cut corners, to the last bit.
func TestCutCorners(t *testing.T) {
	for _, c := range []ringCase{
		{angle(), false, 0.25, []complex64{0, 1, 3, 4 + 1i, 4 + 3i, 4 + 4i}}, {angle(), true, 0.25, []complex64{1, 3, 4 + 1i, 4 + 3i, 3 + 3i, 1 + 1i}},
		{angle(), false, 0.3, hexPoints("00000000/00000000,3f99999a/00000000,40333333/00000000,40800000/3f99999a,40800000/40333333,40800000/40800000")},
		// The share 0 doubles points, and 1/2 makes the middles twice.
		{angle(), false, 0, []complex64{0, 0, 4, 4, 4 + 4i, 4 + 4i}}, {angle(), true, 0, []complex64{0, 4, 4, 4 + 4i, 4 + 4i, 0}},
		{angle(), false, 0.5, []complex64{0, 2, 2, 4 + 2i, 4 + 2i, 4 + 4i}}, {angle(), true, 0.5, []complex64{2, 2, 4 + 2i, 4 + 2i, 2 + 2i, 2 + 2i}},
		// Rings of two points: closed, there and back.
		{[]complex64{0, 4 + 8i}, false, 0.25, []complex64{0, 1 + 2i, 3 + 6i, 4 + 8i}}, {[]complex64{0, 4 + 8i}, true, 0.25, []complex64{1 + 2i, 3 + 6i, 3 + 6i, 1 + 2i}},
		{[]complex64{3i, 3i}, false, 0.4, repeated[complex64](3i, 4)}, {[]complex64{3i, 3i}, true, 0.4, repeated[complex64](3i, 4)},
		// +0 and -0 make +0, but a zero less +0 keeps its sign.
		{zeros(2), false, 0, hexPoints("80000000/80000000,00000000/00000000,80000000/80000000,80000000/80000000")},
		{zeros(2), true, 0, hexPoints("00000000/00000000,80000000/80000000,00000000/00000000,80000000/80000000")},
		{zeros(2), true, negZero, hexPoints("80000000/80000000,00000000/00000000,80000000/80000000,00000000/00000000")},
		{[]complex64{0, farPoint}, false, 0.5, []complex64{0, farPoint / 2, farPoint / 2, farPoint}},
	} {
		got, ok := impl.CutCorners(c.list, c.closed, c.by)
		wantPoints(t, got, ok, c.want, "CutCorners", c.list, c.closed, c.by)
		got, ok = impl.CutTimes(c.list, c.closed, c.by, 1)
		wantPoints(t, got, ok, c.want, "CutTimes, once", c.list, c.closed, c.by)
	}
}

// notCutShares are no shares by which corners are cut.
func notCutShares() []float32 {
	return []float32{-leastNumber, -0.25, above(0.5), 0.75, 1, mostNumber, -mostNumber, infinity, -infinity, notNum}
}

// Promise 7: corners are cut by shares from 0 to 1/2, up to MaxRing points, and not where points are too far from each other.
func TestCutCornersFails(t *testing.T) {
	for _, closed := range []bool{false, true} {
		for _, share := range notCutShares() {
			got, ok := impl.CutCorners(angle(), closed, share)
			wantNoList(t, got, ok, "CutCorners", closed, share)
			for _, times := range []int64{0, 1, 6} {
				got, ok = impl.CutTimes(angle(), closed, share, times)
				wantNoList(t, got, ok, "CutTimes", closed, share, times)
			}
		}
		got, ok := impl.CutCorners(line(64), closed, 0.25)
		wantTrue(t, ok && len(got) == impl.MaxRing, "CutCorners of 64 points", closed, len(got))
		got, ok = impl.CutCorners(line(65), closed, 0.25)
		wantNoList(t, got, ok, "CutCorners of 65 points", closed)
		for _, list := range [][]complex64{{-farPoint, farPoint}, {0, farPoint, -farPoint}, {complex(0, mostNumber), complex(0, -mostNumber), 0}} {
			for _, share := range []float32{0, 0.25} {
				got, ok := impl.CutCorners(list, closed, share)
				wantNoList(t, got, ok, "CutCorners, too far", list, closed, share)
				got, ok = impl.CutTimes(list, closed, share, 2)
				wantNoList(t, got, ok, "CutTimes, too far", list, closed, share)
			}
		}
	}
	// Only the way from the last point to the first one is too far.
	list := []complex64{-farPoint, 0, farPoint}
	_, ok := impl.CutCorners(list, false, 0.25)
	wantTrue(t, ok, "CutCorners, not closed", list)
	got, ok := impl.CutCorners(list, true, 0.25)
	wantNoList(t, got, ok, "CutCorners, closed", list)
}

// Promise 7: corners are cut again and again, 0 to 6 times.
func TestCutTimes(t *testing.T) {
	for _, closed := range []bool{false, true} {
		for times := range int64(7) {
			// Each time makes the ring twice as long, and MaxRing is reached exactly.
			count := 2 << (6 - times)
			got, ok := impl.CutTimes(line(count), closed, 0.25, times)
			wantTrue(t, ok && len(got) == impl.MaxRing, "CutTimes, up to the limit", closed, times, len(got))
			got, ok = impl.CutTimes(line(count+1), closed, 0.25, times)
			wantNoList(t, got, ok, "CutTimes, above the limit", closed, times)
			want, isCut := line(2), true
			for range times {
				want, isCut = impl.CutCorners(want, closed, 0.3)
			}
			got, ok = impl.CutTimes(line(2), closed, 0.3, times)
			wantTrue(t, isCut, "CutCorners, again and again", closed, times)
			wantPoints(t, got, ok, want, "CutTimes", closed, times)
		}
		got, ok := impl.CutTimes(angle(), closed, 0.25, 0)
		wantPoints(t, got, ok, angle(), "CutTimes, not once", closed)
		for _, times := range []int64{-1, 7, 64, 1 << 32, 1<<32 + 1, math.MinInt64, math.MaxInt64} {
			got, ok := impl.CutTimes(line(2), closed, 0.25, times)
			wantNoList(t, got, ok, "CutTimes", closed, times)
		}
	}
	got, ok := impl.CutTimes(angle(), false, 0.5, 2)
	wantPoints(t, got, ok, []complex64{0, 1, 1, 2, 2, 3 + 1i, 3 + 1i, 4 + 2i, 4 + 2i, 4 + 3i, 4 + 3i, 4 + 4i}, "CutTimes, twice")
}

// Promise 7: rings with points between their points, to the last bit.
func TestFourPoints(t *testing.T) {
	for _, c := range []ringCase{
		{line(4), false, 0.0625, []complex64{0, 0.4375, 1, 1.5, 2, 2.5625, 3}},
		{angle(), false, 0.0625, []complex64{0, 2 - 0.25i, 4, 4.25 + 2i, 4 + 4i}}, {angle(), true, 0.0625, []complex64{0, 1.75 - 0.5i, 4, 4.5 + 2.25i, 4 + 4i, 1.75 + 2.25i}},
		{angle(), true, 0.1, hexPoints("00000000/00000000,3fccccce/bf4ccccd,40800000/00000000,4099999a/4019999a,40800000/40800000,3fccccce/4019999a")},
		{angle(), true, 0, []complex64{0, 2, 4, 4 + 2i, 4 + 4i, 2 + 2i}}, {angle(), false, negZero, []complex64{0, 2, 4, 4 + 2i, 4 + 4i}},
		{[]complex64{0, 2, 2 + 2i, 4 + 2i}, false, -0.5, []complex64{0, 1 + 1i, 2, 2 + 1i, 2 + 2i, 3 + 1i, 4 + 2i}},
		// Rings of two points.
		{[]complex64{0, 2 + 4i}, false, 0.25, []complex64{0, 1 + 2i, 2 + 4i}}, {[]complex64{0, 2 + 4i}, true, 0.25, []complex64{0, 1 + 2i, 2 + 4i, 1 + 2i}},
		{[]complex64{1, 2 + 5i}, true, 0.3, []complex64{1, 1.5 + 2.5i, 2 + 5i, 1.5 + 2.5i}},
		{zeros(2), true, 0, hexPoints("80000000/80000000,00000000/00000000,80000000/80000000,00000000/00000000")},
		{zeros(2), false, negZero, hexPoints("80000000/80000000,80000000/80000000,80000000/80000000")},
		// The points themselves are the same, as far away as they may be.
		{[]complex64{farPoint, -farPoint}, false, 1, []complex64{farPoint, 0, -farPoint}},
	} {
		got, ok := impl.FourPoints(c.list, c.closed, c.by)
		wantPoints(t, got, ok, c.want, "FourPoints", c.list, c.closed, c.by)
	}
	for _, closed := range []bool{false, true} {
		for _, tight := range wildNumbers() {
			got, ok := impl.FourPoints(angle(), closed, tight)
			wantNoList(t, got, ok, "FourPoints", closed, tight)
		}
		got, ok := impl.FourPoints(angle(), closed, mostNumber)
		wantNoList(t, got, ok, "FourPoints, too far", closed)
		got, ok = impl.FourPoints([]complex64{farPoint, farPoint}, closed, 0)
		wantNoList(t, got, ok, "FourPoints, too far", closed)
		got, ok = impl.FourPoints(line(65), closed, 0.0625)
		wantNoList(t, got, ok, "FourPoints of 65 points", closed)
	}
	got, ok := impl.FourPoints(line(64), true, 0.0625)
	wantTrue(t, ok && len(got) == impl.MaxRing, "FourPoints of 64 points, closed", len(got))
	got, ok = impl.FourPoints(line(64), false, 0.0625)
	wantTrue(t, ok && len(got) == 127, "FourPoints of 64 points", len(got))
}

// sharpCase is a ring with points that stay, and what CubicOnce returns.
type sharpCase struct {
	list   []complex64
	closed bool
	sharp  []int64
	want   []complex64
}

// Promise 7: rounder rings, to the last bit.
func TestCubicOnce(t *testing.T) {
	for _, c := range []sharpCase{
		{angle(), false, nil, []complex64{0, 2, 3.5 + 0.5i, 4 + 2i, 4 + 4i}}, {angle(), true, nil, []complex64{1 + 0.5i, 2, 3.5 + 0.5i, 4 + 2i, 3.5 + 3i, 2 + 2i}},
		{angle(), true, []int64{0}, []complex64{0, 2, 3.5 + 0.5i, 4 + 2i, 3.5 + 3i, 2 + 2i}}, {angle(), true, []int64{1, 2}, []complex64{1 + 0.5i, 2, 4, 4 + 2i, 4 + 4i, 2 + 2i}},
		{angle(), true, []int64{0, 1, 2}, []complex64{0, 2, 4, 4 + 2i, 4 + 4i, 2 + 2i}},
		{angle(), false, []int64{1}, []complex64{0, 2, 4, 4 + 2i, 4 + 4i}}, {angle(), false, []int64{0, 2}, []complex64{0, 2, 3.5 + 0.5i, 4 + 2i, 4 + 4i}},
		{[]complex64{0.1, 0.2 + 0.7i, 0.4i}, true, nil, hexPoints("3dcccccd/3e0ccccd,3e19999a/3eb33333,3e266667/3f133333,3dcccccd/3f0ccccd,3d19999a/3ec66667,3d4ccccd/3e4ccccd")},
		// Rings of two points.
		{[]complex64{0, 4i}, false, nil, []complex64{0, 2i, 4i}}, {[]complex64{0, 4i}, true, nil, []complex64{1i, 2i, 3i, 2i}}, {[]complex64{0, 4i}, true, []int64{1}, []complex64{1i, 2i, 4i, 2i}},
		{zeros(2), true, nil, zeros(4)}, {zeros(2), true, []int64{0}, zeros(4)}, {zeros(3), false, nil, zeros(5)},
		{[]complex64{0, farPoint, 0}, false, []int64{1}, []complex64{0, farPoint / 2, farPoint, farPoint / 2, 0}},
		// The least numbers are added before they are halved.
		{repeated(complex(leastNumber, 0), 2), true, nil, repeated(complex(leastNumber, 0), 4)},
	} {
		got, ok := impl.CubicOnce(c.list, c.closed, c.sharp)
		wantPoints(t, got, ok, c.want, "CubicOnce", c.list, c.closed, c.sharp)
	}
}

// Promise 7: what is sharp is a set of indices, and rings stay small and near enough.
func TestCubicOnceFails(t *testing.T) {
	for _, closed := range []bool{false, true} {
		for _, sharp := range [][]int64{
			{-1}, {3}, {0, 3}, {-1, 0}, {1, 0}, {0, 0}, {1, 1}, {2, 2}, {0, 2, 1}, {0, 1, 2, 3}, {0, 1, 2, 2}, {1 << 32}, {math.MaxInt64}, {math.MinInt64}, make([]int64, 1000),
		} {
			got, ok := impl.CubicOnce(angle(), closed, sharp)
			wantNoList(t, got, ok, "CubicOnce", closed, sharp)
		}
		got, ok := impl.CubicOnce(line(65), closed, nil)
		wantNoList(t, got, ok, "CubicOnce of 65 points", closed)
		got, ok = impl.CubicOnce([]complex64{farPoint, farPoint}, closed, nil)
		wantNoList(t, got, ok, "CubicOnce, too far", closed)
	}
	got, ok := impl.CubicOnce(line(64), true, []int64{0, 63})
	wantTrue(t, ok && len(got) == impl.MaxRing, "CubicOnce of 64 points, closed", len(got))
	got, ok = impl.CubicOnce(line(64), false, []int64{0, 63})
	wantTrue(t, ok && len(got) == 127, "CubicOnce of 64 points", len(got))
	// The points before and behind are too far, only for a point that is not sharp.
	list := []complex64{farPoint, -farPoint, farPoint}
	got, ok = impl.CubicOnce(list, false, nil)
	wantNoList(t, got, ok, "CubicOnce of", list)
	got, ok = impl.CubicOnce(list, false, []int64{1})
	wantPoints(t, got, ok, []complex64{farPoint, 0, -farPoint, 0, farPoint}, "CubicOnce, sharp, of", list)
}

// Promise 7: where points come at last, and the slopes there, to the last bit.
func TestLimitsOfPoints(t *testing.T) {
	for _, c := range []struct {
		list         []complex64
		closed       bool
		i            int64
		point, slope complex64
	}{
		{[]complex64{0, 3, 6}, false, 1, 3, 3}, {angle(), false, 0, 0, 2}, {angle(), false, 1, hexPoints("40555555/3f2aaaab")[0], 2 + 2i}, {angle(), false, 2, 4 + 4i, 2i},
		{angle(), true, 0, hexPoints("3faaaaab/3f2aaaab")[0], -2i}, {angle(), true, 1, hexPoints("40555555/3f2aaaab")[0], 2 + 2i}, {angle(), true, 2, hexPoints("40555555/402aaaab")[0], -2},
		// Rings of two points.
		{[]complex64{0, 3 - 6i}, false, 0, 0, 1.5 - 3i}, {[]complex64{0, 3 - 6i}, false, 1, 3 - 6i, 1.5 - 3i},
		{[]complex64{0, 3 - 6i}, true, 0, 1 - 2i, 0}, {[]complex64{0, 3 - 6i}, true, 1, 2 - 4i, 0},
		{zeros(3), true, 1, complex(negZero, negZero), 0}, {zeros(3), false, 0, complex(negZero, negZero), 0},
		{line(impl.MaxRing), false, 127, 127, 0.5}, {line(impl.MaxRing), true, 127, 634.0 / 6, -63},
		// At an end, no number is too great for a point, but it may be for a slope.
		{[]complex64{farPoint, 0, farPoint}, false, 0, farPoint, -farPoint / 2}, {[]complex64{farPoint, 0, farPoint}, false, 2, farPoint, farPoint / 2},
	} {
		got, ok := impl.LimitPoint(c.list, c.closed, c.i)
		wantPoint(t, got, ok, c.point, "LimitPoint", c.list, c.closed, c.i)
		got, ok = impl.LimitSlope(c.list, c.closed, c.i)
		wantPoint(t, got, ok, c.slope, "LimitSlope", c.list, c.closed, c.i)
	}
	for _, closed := range []bool{false, true} {
		for _, i := range []int64{-1, 3, 128, 1 << 32, 1<<32 + 1, math.MinInt64, math.MaxInt64} {
			got, ok := impl.LimitPoint(angle(), closed, i)
			wantNoPoint(t, got, ok, "LimitPoint", closed, i)
			got, ok = impl.LimitSlope(angle(), closed, i)
			wantNoPoint(t, got, ok, "LimitSlope", closed, i)
		}
		got, ok := impl.LimitPoint([]complex64{0, complex(0, 1e38), 0}, closed, 1)
		wantNoPoint(t, got, ok, "LimitPoint, too far", closed)
		got, ok = impl.LimitSlope([]complex64{farPoint, 0, -farPoint}, closed, 1)
		wantNoPoint(t, got, ok, "LimitSlope, too far", closed)
	}
}

// Promise 7: how rough rings are, to the last bit.
func TestRoughOfRing(t *testing.T) {
	zigzag := []complex64{0, 1, 5, 6, 9i}
	for _, c := range []struct {
		list   []complex64
		closed bool
		want   uint32
	}{
		{angle(), false, 0x40b504f3}, {angle(), true, 0x410f1bbd}, {zigzag, false, 0x41366d96}, {zigzag, true, 0x4197ca11},
		{line(9), false, 0}, {line(3), true, 0x40400000}, {repeated[complex64](7i, 5), true, 0}, {zeros(4), true, 0},
		// Of two points, none has both, or both have the other one twice.
		{[]complex64{0, 3 + 4i}, false, 0}, {[]complex64{0, 3 + 4i}, true, bitsOf(10)}, {[]complex64{-farPoint, farPoint}, false, 0},
	} {
		got, ok := impl.RoughOfRing(c.list, c.closed)
		wantTrue(t, ok, "RoughOfRing", c.list, c.closed)
		wantBits(t, got, c.want, "RoughOfRing", c.list, c.closed)
	}
	for _, closed := range []bool{false, true} {
		// A point times 2 is too far, and so is one that is that far in both parts.
		for _, list := range [][]complex64{{farPoint, farPoint, farPoint}, {0, complex(0, 1.8e38), 0}, {0, complex(1.3e38, 1.3e38), 0}} {
			got, ok := impl.RoughOfRing(list, closed)
			wantPair(t, got, ok, 0, false, "RoughOfRing, too far", list, closed)
		}
	}
	got, ok := impl.RoughOfRing([]complex64{-farPoint, farPoint}, true)
	wantPair(t, got, ok, 0, false, "RoughOfRing of two, too far")
}

// wantOnLine is for points that are on a line through a.
func wantOnLine(t *testing.T, list []complex64, ok bool, a, way complex64, what string, args ...any) {
	t.Helper()
	wantTrue(t, ok, what, args...)
	for _, point := range list {
		p := complex128(point - a)
		far := (real(p)*float64(imag(way)) - imag(p)*float64(real(way))) / float64(impl.LongOf(way))
		wantAbout(t, float32(far), 0, 1e-4, what, append(args, point)...)
	}
}

// ringOnLine has points in any order on a line through a.
func (s *source) ringOnLine(a, way complex64) []complex64 {
	list := make([]complex64, 2+s.below(15))
	for i := range list {
		list[i] = a + impl.ScaleComplex(way, 2*place(s.word()))
	}
	return list
}

// Promise 7: lines stay lines.
func TestLinesStayLines(t *testing.T) {
	s := newSource()
	for range 300 {
		a, way := s.point(), s.point()
		list, share, tight := s.ringOnLine(a, way), s.time()/2, place(s.word())
		for _, closed := range []bool{false, true} {
			got, ok := impl.CutCorners(list, closed, share)
			wantOnLine(t, got, ok, a, way, "CutCorners", list, closed, share)
			got, ok = impl.CutTimes(list[:2], closed, share, 6)
			wantOnLine(t, got, ok, a, way, "CutTimes", list[:2], closed, share)
			got, ok = impl.FourPoints(list, closed, tight)
			wantOnLine(t, got, ok, a, way, "FourPoints", list, closed, tight)
			got, ok = impl.CubicOnce(list, closed, []int64{1})
			wantOnLine(t, got, ok, a, way, "CubicOnce", list, closed)
			for i := range int64(len(list)) {
				point, ok := impl.LimitPoint(list, closed, i)
				wantOnLine(t, []complex64{point}, ok, a, way, "LimitPoint", list, closed, i)
				slope, ok := impl.LimitSlope(list, closed, i)
				wantOnLine(t, []complex64{slope}, ok, 0, way, "LimitSlope", list, closed, i)
			}
		}
		masks := [2][]float32{{0.125, 0.75, 0.125}, {-0.0625, 0.5625, 0.5625, -0.0625, 0}}
		got, ok := impl.MaskOnce(list, masks[0], masks[1])
		wantOnLine(t, got, ok, a, way, "MaskOnce", list)
	}
}

// Promise 7: points on the real axis stay there, with nothing beside them.
func TestAxesStayAxes(t *testing.T) {
	s := newSource()
	for range 200 {
		list := s.ringOnLine(0, 1)
		share, tight := s.time()/2, place(s.word())
		for _, closed := range []bool{false, true} {
			cut, _ := impl.CutCorners(list, closed, share)
			four, _ := impl.FourPoints(list, closed, tight)
			cubic, _ := impl.CubicOnce(list, closed, nil)
			masked, _ := impl.MaskOnce(list, []float32{1}, []float32{0, 0.5, 0.5})
			all := slices.Concat(cut, four, cubic, masked)
			wantTrue(t, len(all) >= 7*len(list)-1, "rings of the axis", list, closed, len(all))
			for _, point := range all {
				wantTrue(t, imag(point) == 0, "point of the axis", list, closed, point)
			}
		}
	}
}

// Promise 7: points at equal ways along a line stay there at last, and are not rough.
func TestEvenLines(t *testing.T) {
	for count := 3; count <= 64; count++ {
		list := line(count)
		rough, ok := impl.RoughOfRing(list, false)
		wantOne(t, rough, ok, 0, "RoughOfRing of a line", count)
		for i := range int64(count) {
			point, ok := impl.LimitPoint(list, false, i)
			wantPoint(t, point, ok, complex(float32(i), 0), "LimitPoint of a line", count, i)
		}
		four, ok := impl.FourPoints(list, false, 0.0625)
		wantTrue(t, ok, "FourPoints of a line", count)
		for i := 3; i+3 < len(four); i++ {
			wantComplex(t, four[i], complex(float32(i)/2, 0), "FourPoints of a line", count, i)
		}
	}
}

// Promise 7: a ring that is made rounder has the same limits, nearly.
func TestRounderRingsHaveTheSameLimits(t *testing.T) {
	s := newSource()
	for range 200 {
		list, closed := s.points(3+s.below(8)), s.below(2) == 0
		rounder := list
		for range 3 {
			rounder, _ = impl.CubicOnce(rounder, closed, nil)
		}
		for i := range list {
			want, _ := impl.LimitPoint(list, closed, int64(i))
			got, ok := impl.LimitPoint(rounder, closed, int64(8*i))
			wantTrue(t, ok, "LimitPoint of a rounder ring", list, closed, i)
			wantNear(t, got, want, "LimitPoint of a rounder ring", list, closed, i)
		}
	}
}
