package tests

import (
	"math"
	"slices"
	"testing"

	"loop.example/g01328/impl"
)

// leastNear is the least number that is near enough for meets.
const leastNear = float32(0x1p-10)

// bowl is the curve of the chapter's example.
func bowl() impl.Curve { return plain(0, 1+2i, 2) }

// wave bends to the right, and then to the left.
func wave() impl.Curve { return plain(0, 1+2i, 2-2i, 3) }

// standing is a curve that stands still.
func standing() impl.Curve { return plain(3i, 3i, 3i) }

// thereAndBack goes to 1, and the same way back.
func thereAndBack() impl.Curve { return plain(0, 2, 0) }

// tooFar is a valid curve, but has no point at the time 0.
func tooFar() impl.Curve {
	return impl.Curve{Points: []complex64{farPoint, farPoint, farPoint}, Weights: []float32{2, 2, 2}}
}

// tooLight is a valid curve that cannot be cut: its weights blend to 0.
func tooLight() impl.Curve {
	return impl.Curve{Points: []complex64{0, 1}, Weights: []float32{leastNumber, leastNumber}}
}

// patchy is a valid curve without points at some times: its weight is the least one whose quotient of 1 is a number, and a blend rounds to less now and then.
func patchy() impl.Curve {
	const weight = 0x1p-128 + 0x1p-149
	return impl.Curve{Points: []complex64{0, 1}, Weights: []float32{weight, weight}}
}

// tooWide is a valid curve whose ends are farther from each other than any number.
func tooWide() impl.Curve { return plain(-farPoint, 0, farPoint) }

func square() []complex64 { return []complex64{0, 2, 2 + 2i, 2i} }

// star goes twice around 0.
func star() []complex64 { return []complex64{3i, -2 - 3i, 3 + 1i, -3 + 1i, 2 - 3i} }

// notPieces are numbers of pieces that there cannot be.
func notPieces() []int64 {
	return []int64{0, 65, -1, 1 << 32, 1<<32 + 1, math.MinInt64, math.MaxInt64}
}

// notNear are numbers with which no meets are looked for.
func notNear() []float32 {
	return []float32{0, negZero, leastNumber, 0x1.fffffep-11, -leastNear, -1, infinity, -infinity, notNum}
}

func above(x float32) float32 { return math.Nextafter32(x, infinity) }

func below(x float32) float32 { return math.Nextafter32(x, -infinity) }

func (o *outcome) addNumber(x float32, ok bool) {
	o.single = append(o.single, x, truth(ok))
}

func (o *outcome) addMeets(meets []impl.Meet, ok bool) {
	var numbers []float32
	for _, meet := range meets {
		numbers = append(numbers, meet.S, meet.T)
	}
	o.addNumbers(numbers, ok)
}

// ofPieces has the results of all functions that take a curve and pieces.
func ofPieces(c impl.Curve, pieces int64) outcome {
	var o outcome
	o.addNumber(impl.ChordLong(c, pieces))
	o.addNumbers(impl.LongsShared([]impl.Curve{c}, pieces, 2))
	o.addNumbers(impl.LongTable(c, pieces))
	o.addNumber(impl.TimeAlong(c, pieces, 0.5))
	o.addNumbers(impl.EvenTimes(c, pieces, 3))
	at, far, ok := impl.NearestOn(c, 1, pieces)
	o.addNumber(at, ok)
	o.addNumber(far, ok)
	o.addNumber(impl.AreaUnder(c, pieces))
	o.addNumber(impl.FarBetween(c, arch(), pieces))
	o.addNumber(impl.FarBetween(arch(), c, pieces))
	return o
}

// ofBends has those of all that take a plain curve of a degree of at least 2.
func ofBends(c impl.Curve, time float32, pieces int64) outcome {
	var o outcome
	o.addNumber(impl.BendOf(c, time))
	o.addNumbers(impl.FlexesOf(c, pieces))
	o.addNumbers(impl.EdgesOfCurve(c, pieces))
	o.addNumber(impl.BentEnergy(c, pieces))
	return o
}

// ofDirections has those of all that take any curve and a time.
func ofDirections(c impl.Curve, time float32) outcome {
	var o outcome
	o.addPoint(impl.WayAt(c, time))
	o.addPoint(impl.BesideAt(c, time, 1))
	return o
}

// ofMeets has those of all that look for meets of a curve.
func ofMeets(c impl.Curve, near float32) outcome {
	var o outcome
	o.addNumbers(impl.LineMeets(c, 0.5i, 1+0.5i, near))
	o.addMeets(impl.MeetsOf(c, arch(), near))
	o.addMeets(impl.MeetsOf(arch(), c, near))
	o.addMeets(impl.SelfMeets(c, near))
	return o
}

// ofFrames has those of all that look at the points of a curve.
func ofFrames(c impl.Curve, near float32) outcome {
	var o outcome
	o.addNumber(impl.FrameLong(c))
	long, count, ok := impl.NearLong(c, near)
	o.addNumber(long, ok)
	o.addNumber(float32(count), ok)
	low, high, ok := impl.FrameBox(c)
	o.addPoint(low, ok)
	o.addPoint(high, ok)
	return o
}

// ofLoops has those of all that take a loop.
func ofLoops(points []complex64, z complex64) outcome {
	var o outcome
	o.addNumber(impl.TurnsOfLoop(points))
	times, ok := impl.WindingAt(points, z)
	o.addNumber(float32(times), ok)
	o.addNumber(impl.AreaOfLoop(points))
	return o
}

// wantNothing is for functions that fail: all that they return is zero.
func wantNothing(t *testing.T, o outcome, what string, args ...any) {
	t.Helper()
	for i, x := range o.single {
		if !sameBits(x, 0) {
			t.Errorf("%s%v: result %d is %v, want nothing", what, args, i, x)
		}
	}
}

func wantMeets(t *testing.T, got []impl.Meet, ok bool, want []impl.Meet, what string, args ...any) {
	t.Helper()
	if !ok || !slices.Equal(got, want) {
		t.Errorf("%s%v: got %v %v, want %v", what, args, got, ok, want)
	}
}

// wantOne compares a number that there must be.
func wantOne(t *testing.T, got float32, ok bool, want float32, what string, args ...any) {
	t.Helper()
	if !ok || !sameBits(got, want) {
		t.Errorf("%s%v: got %v (%08x) %v, want %v", what, args, got, bitsOf(got), ok, want)
	}
}

func wantAbout(t *testing.T, got, want, by float32, what string, args ...any) {
	t.Helper()
	if !(got >= want-by && got <= want+by) {
		t.Errorf("%s%v: got %v, want about %v", what, args, got, want)
	}
}
