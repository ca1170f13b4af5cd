package tests

import (
	"math"
	"slices"
	"testing"

	"loop.example/g01328/impl"
)

// Promise 6: paths have 2 to MaxPath points, no two neighbours of which are the same.
func TestIsPath(t *testing.T) {
	for _, points := range [][]complex64{
		{0, 1}, {0, 1, 0}, {0, 1, 0, 1}, hook(), bend(), line(impl.MaxPath), sawtooth(impl.MaxPath),
		{0, complex(leastNumber, 0)}, {0, complex(0, -leastNumber)}, {-farPoint, farPoint}, {complex(mostNumber, mostNumber), complex(-mostNumber, -mostNumber)},
		{1, complex(above(1), 0), 1},
	} {
		wantTrue(t, impl.IsPath(points), "IsPath", points)
	}
	for _, points := range notPaths() {
		wantEqual(t, impl.IsPath(points), false, "IsPath", points)
	}
	wantEqual(t, impl.MaxPath, 48, "MaxPath")
	wantEqual(t, impl.MaxSteps, 256, "MaxSteps")
}

// Promise 6: only paths are fitted.
func TestNothingOfOtherPoints(t *testing.T) {
	for _, points := range notPaths() {
		wantNothing(t, ofPaths(points, 1, 1, 1, 1, 3), "points that are no path", points)
	}
	for i, x := range ofPaths(sawtooth(impl.MaxPath), 1, 1, 1, 1, impl.MaxPath).single {
		wantTrue(t, x-x == 0, "numbers of the longest path", i)
	}
}

// Promise 6, and the chapter's example: parameters, to the last bit.
func TestParamsOf(t *testing.T) {
	tiny := complex(leastNumber, 0)
	for _, c := range []struct {
		points []complex64
		power  float32
		want   string
	}{
		{line(3), 0, "00000000,3f000000,3f800000"}, {line(3), 0.5, "00000000,3f000000,3f800000"}, {line(3), 1, "00000000,3f000000,3f800000"},
		{bend(), 0, "00000000,3f000000,3f800000"}, {bend(), negZero, "00000000,3f000000,3f800000"}, {bend(), 0.25, "00000000,3ef6cc53,3f800000"},
		{bend(), 0.5, "00000000,3eed9eb9,3f800000"}, {bend(), 1, "00000000,3edb6db7,3f800000"},
		{[]complex64{0, tiny}, 0, "00000000,3f800000"}, {[]complex64{0, tiny}, 1, "00000000,3f800000"}, {[]complex64{0, tiny, 1}, 1, "00000000,00000001,3f800000"},
		{[]complex64{3i, 3i - 7}, 0.3, "00000000,3f800000"}, {[]complex64{0, 1, 0}, 1, "00000000,3f000000,3f800000"},
		// The last one is 1, even if the lengths are too great for a number.
		{[]complex64{-farPoint, farPoint}, 1, "00000000,3f800000"}, {[]complex64{0, 1, farPoint}, 1, "00000000,00000000,3f800000"},
	} {
		got, ok := impl.ParamsOf(c.points, c.power)
		wantNumbers(t, got, ok, hexNumbers(c.want), "ParamsOf", c.points, c.power)
	}
	for _, power := range notTimes() {
		got, ok := impl.ParamsOf(bend(), power)
		wantNoList(t, got, ok, "ParamsOf", power)
	}
	for _, points := range [][]complex64{{-farPoint, farPoint, 0}, {0, farPoint, 0}} {
		got, ok := impl.ParamsOf(points, 1)
		wantNoList(t, got, ok, "ParamsOf, too far", points)
	}
}

// Promise 6: parameters grow from 0 to 1, evenly for the power 0, and like lengths for the power 1, nearly.
func TestParamsGrow(t *testing.T) {
	s := newSource()
	for range 300 {
		points := s.points(2 + s.below(impl.MaxPath-1))
		power := s.time()
		for _, power := range []float32{0, power, 1} {
			params, ok := impl.ParamsOf(points, power)
			wantTrue(t, ok && len(params) == len(points) && params[0] == 0 && params[len(params)-1] == 1, "ParamsOf", points, power)
			wantTrue(t, slices.IsSorted(params), "growing ParamsOf", points, power)
			sum := 0.0
			for i := 1; i < len(points); i++ {
				sum += math.Pow(float64(impl.LongOf(points[i]-points[i-1])), float64(power))
			}
			part := 0.0
			for i := 1; i < len(points); i++ {
				part += math.Pow(float64(impl.LongOf(points[i]-points[i-1])), float64(power))
				wantAbout(t, params[i], float32(part/sum), 1e-5, "ParamsOf", points, power, i)
			}
		}
	}
	longest, ok := impl.ParamsOf(line(impl.MaxPath), 1)
	wantTrue(t, ok && len(longest) == impl.MaxPath, "ParamsOf the longest path", longest)
}

// Promise 6: points at equal ways, to the last bit.
func TestResamplePath(t *testing.T) {
	for _, c := range []struct {
		points []complex64
		count  int64
		want   []complex64
	}{
		{[]complex64{0, 1, 4}, 2, []complex64{0, 4}}, {[]complex64{0, 1, 4}, 3, []complex64{0, 2, 4}}, {[]complex64{0, 1, 4}, 5, []complex64{0, 1, 2, 3, 4}},
		{bend(), 3, []complex64{0, 3 + 0.5i, 3 + 4i}}, {bend(), 8, []complex64{0, 1, 2, 3, 3 + 1i, 3 + 2i, 3 + 3i, 3 + 4i}},
		{[]complex64{1i, 3}, 2, []complex64{1i, 3}}, {[]complex64{1i, 3}, 4, hexPoints("00000000/3f800000,3f800001/3f2aaaaa,40000001/3eaaaaa8,40400000/00000000")},
		// There and back, over the same legs again.
		{[]complex64{0, 1, 0}, 2, []complex64{0, 0}}, {[]complex64{0, 1, 0}, 3, []complex64{0, 1, 0}}, {[]complex64{0, 2, 0}, 5, []complex64{0, 1, 2, 1, 0}},
		{[]complex64{0, 2, 0, 2, 0, 2}, 6, []complex64{0, 2, 0, 2, 0, 2}}, {[]complex64{0, 2, 0, 2}, 4, []complex64{0, 2, 0, 2}},
		// Where a leg has just been gone, the point is told by this one, and not by the next one.
		{[]complex64{1, 1e-9, 1}, 3, []complex64{1, 0, 1}},
		{[]complex64{0, farPoint}, 2, []complex64{0, farPoint}}, {[]complex64{0, 0x1p126, 0}, 3, []complex64{0, 0x1p126, 0}},
	} {
		got, ok := impl.ResamplePath(c.points, c.count)
		wantPoints(t, got, ok, c.want, "ResamplePath", c.points, c.count)
	}
	for _, count := range []int64{1, 49, 0, -1, 1<<32 + 2, math.MinInt64, math.MaxInt64} {
		got, ok := impl.ResamplePath(bend(), count)
		wantNoList(t, got, ok, "ResamplePath", count)
	}
	for _, points := range [][]complex64{{-farPoint, farPoint}, {0, farPoint, 0}} {
		got, ok := impl.ResamplePath(points, 2)
		wantNoList(t, got, ok, "ResamplePath, too far", points)
	}
}

// Promise 6: points at equal ways lie on the path, and the way between two of them is no longer than it is told, nearly.
func TestResampledPathsAreEven(t *testing.T) {
	s := newSource()
	for range 200 {
		points, count := s.points(2+s.below(impl.MaxPath-1)), int64(2+s.below(impl.MaxPath-1))
		got, ok := impl.ResamplePath(points, count)
		wantTrue(t, ok && len(got) == int(count), "ResamplePath", points, count)
		wantComplex(t, got[0], points[0], "first point of ResamplePath", points, count)
		wantComplex(t, got[count-1], points[len(points)-1], "last point of ResamplePath", points, count)
		long := float32(0)
		for i := 1; i < len(points); i++ {
			long += impl.LongOf(points[i] - points[i-1])
		}
		step := long / float32(count-1)
		for k := 1; k < len(got); k++ {
			wantTrue(t, impl.LongOf(got[k]-got[k-1]) < step+1e-3, "step of ResamplePath", points, count, k)
		}
		for k, point := range got {
			wantTrue(t, farFromPath(points, point) < 1e-4, "ResamplePath beside the path", points, count, k)
		}
	}
	got, ok := impl.ResamplePath(sawtooth(impl.MaxPath), impl.MaxPath)
	wantTrue(t, ok && len(got) == 48, "ResamplePath, longest", got)
	for i, point := range sawtooth(impl.MaxPath) {
		wantNear(t, got[i], point, "ResamplePath of equal legs", i)
	}
}

// farFromPath is how far a point is from a path, nearly.
func farFromPath(points []complex64, z complex64) float64 {
	far := math.Inf(1)
	for i := 1; i < len(points); i++ {
		p, way := complex128(points[i-1]), complex128(points[i]-points[i-1])
		rest := complex128(z) - p
		t := (real(rest)*real(way) + imag(rest)*imag(way)) / (real(way)*real(way) + imag(way)*imag(way))
		rest -= complex(min(max(t, 0), 1), 0) * way
		far = min(far, math.Hypot(real(rest), imag(rest)))
	}
	return far
}

// beside is a path with the one beside it.
type beside struct {
	points   []complex64
	by, most float32
	want     []complex64
}

// Promise 6, and the chapter's example: paths beside paths, to the last bit.
func TestOffsetPath(t *testing.T) {
	roof := []complex64{0, 3 + 1i, 6}
	for _, c := range []beside{
		{[]complex64{0, 1}, 1, 0.5, []complex64{1i, 1 + 1i}}, {[]complex64{0, 1}, -2, 0.5, []complex64{-2i, 1 - 2i}}, {[]complex64{0, 3 + 4i}, 5, 1, []complex64{-4 + 3i, -1 + 7i}},
		{hook(), 1, 0.5, []complex64{1i, 1 + 1i, 1 + 2i}}, {hook(), -1, 0.5, []complex64{-1i, 3 - 1i, 3 + 2i}},
		// Both normals are at a right angle, and so 1 plus their dot is 1.
		{hook(), 1, 1, []complex64{1i, 1 + 1i, 1 + 2i}}, {hook(), 1, above(1), []complex64{1i, 2 + 1i, 1, 1 + 2i}},
		// They are the same, and so it is 2.
		{line(3), 1, 2, []complex64{1i, 1 + 1i, 2 + 1i}}, {line(3), 1, above(2), []complex64{1i, 1 + 1i, 1 + 1i, 2 + 1i}}, {line(3), 1, mostNumber, []complex64{1i, 1 + 1i, 1 + 1i, 2 + 1i}},
		// They are opposite, and so it is 0, less than any most.
		{[]complex64{0, 1, 0}, 1, 0.5, []complex64{1i, 1 + 1i, 1 - 1i, -1i}}, {[]complex64{0, 1, 0}, 1, leastNumber, []complex64{1i, 1 + 1i, 1 - 1i, -1i}},
		{bend(), 0, 1, bend()}, {bend(), negZero, 1, bend()}, {bend(), 0.5, 0.25, []complex64{0.5i, 2.5 + 0.5i, 2.5 + 4i}},
		{roof, 1, 0.125, hexPoints("bea1e89b/3f72dce8,40400000/40037640,40ca1e8a/3f72dce8")},
		{roof, 1, 1.9, hexPoints("bea1e89b/3f72dce8,402bc2ed/3ff96e74,40543d13/3ff96e74,40ca1e8a/3f72dce8")},
		{[]complex64{0, 1}, mostNumber, 1, []complex64{complex(0, mostNumber), complex(1, mostNumber)}},
		{[]complex64{-farPoint, 0}, 1, 1, []complex64{complex(-mostNumber, 1), 1i}},
	} {
		got, ok := impl.OffsetPath(c.points, c.by, c.most)
		wantPoints(t, got, ok, c.want, "OffsetPath", c.points, c.by, c.most)
	}
}

// Promise 6: numbers with which there are no paths beside paths, and paths that would be too far away.
func TestOffsetPathFails(t *testing.T) {
	for _, most := range []float32{0, negZero, -leastNumber, -1, infinity, -infinity, notNum} {
		for _, points := range [][]complex64{{0, 1}, hook()} {
			got, ok := impl.OffsetPath(points, 1, most)
			wantNoList(t, got, ok, "OffsetPath", points, most)
		}
	}
	for _, by := range wildNumbers() {
		got, ok := impl.OffsetPath(hook(), by, 1)
		wantNoList(t, got, ok, "OffsetPath", by)
	}
	for _, c := range []beside{
		{[]complex64{complex(0, mostNumber), complex(1, mostNumber)}, mostNumber, 1, nil}, {[]complex64{-farPoint, farPoint}, 1, 1, nil},
		{[]complex64{0, 1, complex(0, 1e-3)}, mostNumber, leastNumber, nil},
	} {
		got, ok := impl.OffsetPath(c.points, c.by, c.most)
		wantNoList(t, got, ok, "OffsetPath, too far", c)
	}
}

// Promise 6: each leg of a path beside a path is beside one of the path, at the distance that is told, nearly.
func TestOffsetPathsAreBeside(t *testing.T) {
	s := newSource()
	for range 300 {
		points, by := s.points(2+s.below(impl.MaxPath-1)), place(s.word())
		most := s.time() + 0.125
		got, ok := impl.OffsetPath(points, by, most)
		wantTrue(t, ok, "OffsetPath", points, by, most)
		// A corner that is not sharp has one point, another one two.
		at := 0
		for i := 1; i < len(points); i++ {
			way := points[i] - points[i-1]
			normal := complex128(complex(-imag(way), real(way)))
			for k := range 2 {
				from := complex128(got[at+k]) - complex128(points[i-1])
				far := (real(from)*real(normal) + imag(from)*imag(normal)) / math.Hypot(real(normal), imag(normal))
				wantAbout(t, float32(far), by, 2e-3, "how far OffsetPath is", points, by, most, i, k)
			}
			at++
			if i+1 < len(points) && isSharp(points[i-1], points[i], points[i+1], most) {
				at++
			}
		}
		wantEqual(t, len(got), at+1, "points of OffsetPath", points, by, most)
	}
	// All inner points become two, and so there are more than a path may have.
	got, ok := impl.OffsetPath(sawtooth(impl.MaxPath), 0.1, 2)
	wantTrue(t, ok && len(got) == 94, "OffsetPath of the longest path", len(got))
}

func isSharp(a, b, c complex64, most float32) bool {
	unit := func(x complex64) complex64 { return complex(real(x)/impl.LongOf(x), imag(x)/impl.LongOf(x)) }
	n, o := unit(b-a), unit(c-b)
	return 1+(float32(real(n)*real(o))+float32(imag(n)*imag(o))) < most
}
