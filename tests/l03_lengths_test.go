package tests

import (
	"math"
	"slices"
	"testing"

	"loop.example/g01328/impl"
)

// inPieces is what a function of a curve and pieces returns, by its bits.
type inPieces struct {
	curve  impl.Curve
	pieces int64
	want   uint32
}

// Promise 4, and the chapter's example: chords, to the last bit.
func TestChordLong(t *testing.T) {
	_, _, quarter := someCurves()
	for _, c := range []inPieces{
		{plain(0, 2), 1, 0x40000000}, {plain(0, 2), 4, 0x40000000}, {plain(0, 2), 64, 0x40000000},
		{arch(), 1, 0x40000000}, {arch(), 2, 0x400f1bbd}, {arch(), 64, 0x4012e9f2},
		{heavy(), 3, 0x4092443a}, {heavy(), 64, 0x409674d5}, {quarter, 64, 0x3fc90e8e},
		{standing(), 7, 0}, {thereAndBack(), 1, 0}, {thereAndBack(), 2, 0x40000000},
		{plain(0, farPoint), 1, bitsOf(mostNumber)},
	} {
		got, ok := impl.ChordLong(c.curve, c.pieces)
		wantTrue(t, ok, "ChordLong", c.curve, c.pieces)
		wantBits(t, got, c.want, "ChordLong", c.curve, c.pieces)
	}
	wantEqual(t, impl.MaxPieces, 64, "MaxPieces")
	wantEqual(t, impl.MaxWorkers, 8, "MaxWorkers")
	wantEqual(t, impl.MaxMeets, 24, "MaxMeets")
}

// Promise 4: nothing is measured in other pieces, of curves that are not valid, or where a point or a length is not finite.
func TestPiecesThatThereAreNot(t *testing.T) {
	for _, pieces := range notPieces() {
		wantNothing(t, ofPieces(bowl(), pieces), "pieces", pieces)
		wantNothing(t, ofBends(bowl(), 2, pieces), "pieces", pieces)
	}
	for _, c := range append(notCurves(), tooFar()) {
		wantNothing(t, ofPieces(c, 2), "curve", c)
		wantNothing(t, ofBends(c, 0, 2), "curve", c)
	}
	for _, pieces := range []int64{1, 2, 64} {
		var o outcome
		o.addNumber(impl.ChordLong(tooWide(), pieces))
		o.addNumbers(impl.LongTable(tooWide(), pieces))
		o.addNumbers(impl.LongsShared([]impl.Curve{tooWide()}, pieces, 1))
		o.addNumber(impl.TimeAlong(tooWide(), pieces, 0))
		o.addNumbers(impl.EvenTimes(tooWide(), pieces, 2))
		o.addNumber(impl.FarBetween(tooWide(), plain(farPoint, -farPoint), pieces))
		o.addNumber(impl.AreaUnder(plain(farPoint, complex(0, mostNumber)), pieces))
		wantNothing(t, o, "too far away", pieces)
	}
}

// Promise 4: frames, to the last bit.
func TestFrameLong(t *testing.T) {
	_, _, quarter := someCurves()
	for _, c := range []inPieces{
		{plain(0, 1, 1+2i), 0, 0x40400000}, {plain(0, 3+4i), 0, 0x40a00000}, {heavy(), 0, 0x41013e35}, {arch(), 0, 0x403504f3},
		{quarter, 0, 0x40000000}, {standing(), 0, 0}, {thereAndBack(), 0, 0x40800000}, {plain(0, farPoint), 0, bitsOf(mostNumber)},
		{tooFar(), 0, 0}, {tooLight(), 0, 0x3f800000},
	} {
		got, ok := impl.FrameLong(c.curve)
		wantTrue(t, ok, "FrameLong", c.curve)
		wantBits(t, got, c.want, "FrameLong", c.curve)
	}
	for _, c := range append(notCurves(), tooWide(), plain(0, complex(mostNumber, mostNumber)), plain(farPoint, -farPoint)) {
		got, ok := impl.FrameLong(c)
		wantPair(t, got, ok, 0, false, "FrameLong", c)
	}
}

// Promise 4: lengths of parts, each as near as is told, and how many there are.
func TestNearLong(t *testing.T) {
	difference := float32(0x1.a82798p-1)
	for _, c := range []struct {
		curve impl.Curve
		near  float32
		want  uint32
		count int64
	}{
		{plain(0, 2), 0.5, 0x40000000, 1}, {plain(0, 2), leastNumber, 0x40000000, 1}, {standing(), 1, 0, 1},
		{arch(), mostNumber, 0x401a827a, 1}, {arch(), difference, 0x401a827a, 1}, {arch(), below(difference), 0x4014cf1c, 2},
		{arch(), 0.1, 0x4014cf1c, 2}, {arch(), 0.001, 0x4012f5dd, 14}, {arch(), 1e-6, 0x4012eb05, 128},
		{arch(), leastNumber, 0x4012eaef, 256}, {heavy(), 0.1, 0x4096b6ec, 4}, {heavy(), 0.001, 0x409677db, 19},
		{heavy(), leastNumber, 0x40967772, 250}, {tooLight(), leastNumber, 0x3f800000, 1},
	} {
		got, count, ok := impl.NearLong(c.curve, c.near)
		wantTrue(t, ok, "NearLong", c.curve, c.near)
		wantBits(t, got, c.want, "NearLong", c.curve, c.near)
		wantEqual(t, count, c.count, "parts of NearLong", c.curve, c.near)
	}
	for _, near := range []float32{0, negZero, -leastNumber, -1, infinity, -infinity, notNum} {
		long, count, ok := impl.NearLong(plain(0, 2), near)
		wantPair(t, long, ok, 0, false, "NearLong", near)
		wantEqual(t, count, 0, "parts of NearLong", near)
	}
	light := tooLight()
	light.Points, light.Weights = append(light.Points, 0), append(light.Weights, leastNumber)
	// The frame and the way between the ends of the last curve are numbers, but not their sum.
	for _, c := range append(notCurves(), tooWide(), light, plain(0, farPoint)) {
		long, count, ok := impl.NearLong(c, 0.5)
		wantPair(t, long, ok, 0, false, "NearLong", c)
		wantEqual(t, count, 0, "parts of NearLong", c)
	}
}

// Promise 4: tables of lengths.
func TestLongTable(t *testing.T) {
	for _, c := range []struct {
		curve  impl.Curve
		pieces int64
		want   []float32
	}{
		{plain(0, 2), 2, []float32{0, 1, 2}}, {plain(0, 2), 1, []float32{0, 2}}, {standing(), 3, []float32{0, 0, 0, 0}},
		{plain(0, 0, 4), 2, []float32{0, 1, 4}}, {thereAndBack(), 1, []float32{0, 0}},
		{thereAndBack(), 3, hexNumbers("00000000,3f638e38,3f638e38,3fe38e38")},
	} {
		got, ok := impl.LongTable(c.curve, c.pieces)
		wantNumbers(t, got, ok, c.want, "LongTable", c.curve, c.pieces)
	}
}

// Promise 4: lengths grow along curves, and chords are no longer than frames, nearly.
func TestLengthsGrow(t *testing.T) {
	s := newSource()
	for range 300 {
		c, pieces := s.curve(1, 7), int64(1+s.below(impl.MaxPieces))
		table, ok := impl.LongTable(c, pieces)
		wantTrue(t, ok && len(table) == int(pieces)+1 && slices.IsSorted(table), "LongTable", c, pieces)
		chords, ok := impl.ChordLong(c, pieces)
		wantTrue(t, ok && sameBits(chords, table[pieces]), "ChordLong", c, pieces)
		frame, _ := impl.FrameLong(c)
		wantTrue(t, chords < frame+1e-4, "chords in frames", c, pieces)
		near, count, ok := impl.NearLong(c, 0.001)
		wantTrue(t, ok && count >= 1 && count <= 256, "NearLong", c, count)
		wantTrue(t, near > chords-0.1 && near < frame+1e-4, "NearLong", c, near, chords, frame)
	}
}

// Promise 4, and the chapter's example: times at which shares have been gone.
func TestTimeAlong(t *testing.T) {
	for _, c := range []struct {
		curve  impl.Curve
		pieces int64
		share  float32
		want   uint32
	}{
		{plain(0, 2), 4, 0.5, 0x3f000000}, {plain(0, 2), 1, 0.75, 0x3f400000}, {plain(0, 2), 64, 1, 0x3f800000},
		{plain(0, 2), 3, 0, 0}, {plain(0, 2), 3, negZero, 0}, {plain(0, 0, 4), 2, 0.125, 0x3e800000},
		{plain(0, 0, 4), 2, 0.25, 0x3f000000}, {plain(0, 0, 4), 2, 0.5, 0x3f2aaaab}, {plain(0, 0, 4), 2, 0.875, 0x3f6aaaaa},
		{standing(), 5, 0, 0}, {standing(), 5, negZero, 0}, {standing(), 5, 0.5, 0}, {standing(), 5, 1, 0}, {thereAndBack(), 1, 1, 0},
		// The piece in the middle is not gone at all: the one before it ends there.
		{thereAndBack(), 3, 0.5, 0x3eaaaaab}, {thereAndBack(), 3, above(0.5), 0x3f2aaaac},
		// The first piece has no length that a number tells.
		{plain(0, 0, 0, 0, 0, 0, 0, 0x1p-110), 64, 0, 0}, {plain(0, 0, 0, 0, 0, 0, 0, 0x1p-110), 64, 0x1p-39, 0x3c880000},
	} {
		got, ok := impl.TimeAlong(c.curve, c.pieces, c.share)
		wantTrue(t, ok, "TimeAlong", c.curve, c.pieces, c.share)
		wantBits(t, got, c.want, "TimeAlong", c.curve, c.pieces, c.share)
	}
	for _, share := range notTimes() {
		got, ok := impl.TimeAlong(plain(0, 2), 4, share)
		wantPair(t, got, ok, 0, false, "TimeAlong", share)
	}
}

// Promise 4: times of equal ways.
func TestEvenTimes(t *testing.T) {
	for _, c := range []struct {
		curve         impl.Curve
		pieces, count int64
		want          []float32
	}{
		{plain(0, 2), 4, 3, []float32{0, 0.5, 1}}, {plain(0, 2), 1, 2, []float32{0, 1}}, {standing(), 3, 4, []float32{0, 0, 0, 0}},
		{arch(), 8, 5, hexNumbers("00000000,3e688ab8,3f000000,3f45dd52,3f800000")},
		{heavy(), 64, 4, hexNumbers("00000000,3e859836,3f1705b4,3f800000")},
	} {
		got, ok := impl.EvenTimes(c.curve, c.pieces, c.count)
		wantNumbers(t, got, ok, c.want, "EvenTimes", c.curve, c.pieces, c.count)
	}
	got, ok := impl.EvenTimes(heavy(), 64, impl.MaxPieces)
	wantTrue(t, ok && len(got) == 64 && got[63] == 1 && slices.IsSorted(got), "EvenTimes", got)
	for k := range got {
		want, _ := impl.TimeAlong(heavy(), 64, float32(k)/63)
		wantNumber(t, got[k], want, "EvenTimes and TimeAlong", k)
	}
	for _, count := range []int64{1, 65, 0, -1, 1<<32 + 2, math.MinInt64, math.MaxInt64} {
		got, ok := impl.EvenTimes(plain(0, 2), 4, count)
		wantNoList(t, got, ok, "EvenTimes", count)
	}
}

// Promise 4: parts of a curve between even times are equally long, nearly.
func TestEvenTimesAreEven(t *testing.T) {
	s := newSource()
	for range 100 {
		c := s.curve(1, 7)
		times, ok := impl.EvenTimes(c, 64, 5)
		wantTrue(t, ok, "EvenTimes", c)
		whole, _ := impl.ChordLong(c, 64)
		for k := range 4 {
			part, ok := impl.PartOfCurve(c, times[k], times[k+1])
			long, _ := impl.ChordLong(part, 64)
			wantTrue(t, ok, "PartOfCurve", c, times)
			wantAbout(t, long, whole/4, whole/40, "part between even times", c, k)
		}
	}
}

// nearest is a time, and how near a curve is then, by their bits.
type nearest struct {
	curve     impl.Curve
	z         complex64
	pieces    int64
	time, far uint32
}

// Promise 4: nearest points, to the last bit.
func TestNearestOn(t *testing.T) {
	for _, c := range []nearest{
		{plain(0, 2), 1 + 3i, 4, 0x3f001b25, 0x40400000}, {plain(0, 2), 1 + 3i, 1, 0x3f001a92, 0x40400000},
		{plain(0, 2), 1 + 3i, 3, 0x3f001a88, 0x40400000}, {arch(), 1 + 0.25i, 4, 0x3f000232, 0x3e800000},
		{heavy(), 2 + 1i, 1, 0x3f037f80, 0x3e25d08b}, {heavy(), 2 + 1i, 4, 0x3f037fc3, 0x3e25d083}, {heavy(), 2 + 1i, 64, 0x3f037d70, 0x3e25d099},
		// Nearest at an end, and there nearer than half way between the last times.
		{plain(0, 2), -1, 4, 0, 0x3f800000}, {plain(0, 2), 3, 4, 0x3f800000, 0x3f800000}, {plain(0, 2), 0, 64, 0, 0}, {plain(0, 2), 1, 2, 0x3f000000, 0},
		// As near at both ends: the first one is taken.
		{arch(), 1 - 5i, 1, 0, 0x40a32b2b}, {arch(), 1 - 5i, 2, 0, 0x40a32b2b}, {arch(), 1 - 5i, 5, 0, 0x40a32b2b},
		// As near everywhere.
		{standing(), 4 + 3i, 4, 0x3e7ffe0e, 0x40800000},
		// Too far away for a number, but for the last time.
		{plain(complex(-mostNumber, 0), farPoint), farPoint, 1, 0x3f800000, 0},
	} {
		at, far, ok := impl.NearestOn(c.curve, c.z, c.pieces)
		wantTrue(t, ok, "NearestOn", c.curve, c.z, c.pieces)
		wantBits(t, at, c.time, "time of NearestOn", c.curve, c.z, c.pieces)
		wantBits(t, far, c.far, "distance of NearestOn", c.curve, c.z, c.pieces)
	}
	for _, z := range append(wildPoints(), -farPoint) {
		at, far, ok := impl.NearestOn(plain(farPoint, complex(mostNumber, 1)), z, 2)
		wantPair(t, at, ok, 0, false, "time of NearestOn", z)
		wantPair(t, far, ok, 0, false, "distance of NearestOn", z)
	}
}

// Promise 4: there is no nearest time where one of those that are looked at has no point: the former, the latter, or the last one.
func TestNearestOnFails(t *testing.T) {
	for _, c := range []struct {
		z      float32
		pieces int64
		fine   bool
	}{{42, 1, true}, {35, 1, false}, {0, 1, false}, {1, 3, true}, {221, 3, false}, {998, 5, false}, {1, 2, false}} {
		z := complex(c.z/4000, 0)
		at, far, ok := impl.NearestOn(patchy(), z, c.pieces)
		wantEqual(t, ok, c.fine, "NearestOn", c)
		if !c.fine {
			wantPair(t, at, ok, 0, false, "time of NearestOn", c)
			wantPair(t, far, ok, 0, false, "distance of NearestOn", c)
		}
	}
	got, ok := impl.ChordLong(patchy(), 1)
	wantOne(t, got, ok, 1, "ChordLong between times with points")
	got, ok = impl.ChordLong(patchy(), 2)
	wantPair(t, got, ok, 0, false, "ChordLong")
}

// Promise 4: no time of pieces is nearer, and the distance is that at the time.
func TestNearestIsNear(t *testing.T) {
	s := newSource()
	for range 300 {
		c, z, pieces := s.curve(1, 7), s.point(), int64(1+s.below(impl.MaxPieces))
		at, far, ok := impl.NearestOn(c, z, pieces)
		point, _ := impl.CurveAt(c, at)
		wantTrue(t, ok, "NearestOn", c, z, pieces)
		wantNumber(t, far, impl.LongOf(point-z), "distance of NearestOn", c, z, pieces)
		for k := range pieces + 1 {
			other, _ := impl.CurveAt(c, float32(k)/float32(pieces))
			wantTrue(t, far <= impl.LongOf(other-z), "nearer than NearestOn", c, z, pieces, k)
		}
	}
}
