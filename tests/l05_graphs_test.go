package tests

import (
	"math"
	"testing"

	"loop.example/g01328/impl"
)

// Promise 6: graphs have 2 to MaxPath places, each greater than the one before, and as many numbers.
func TestIsGraph(t *testing.T) {
	for _, g := range [][2][]float32{
		{row(2), row(2)}, {row(48), row(48)}, {{-mostNumber, mostNumber}, {mostNumber, -mostNumber}}, {{0, leastNumber}, {0, 0}},
		{{-leastNumber, negZero, leastNumber}, {1, 1, 1}}, {{1, above(1), 3}, {5, -5, 5}},
	} {
		wantTrue(t, impl.IsGraph(g[0], g[1]), "IsGraph", g)
	}
	for _, g := range notGraphs() {
		wantEqual(t, impl.IsGraph(g[0], g[1]), false, "IsGraph", g)
		wantNothing(t, ofGraphs(g[0], g[1], make([]float32, len(g[0])), 0.5), "no graph", g)
		wantNothing(t, ofGraphs(g[0], g[1], make([]float32, len(g[1])), 0.5), "no graph", g)
	}
}

// tellings are numbers that are told of each point of a graph.
type tellings struct {
	x, y []float32
	want string
}

// Promise 6: bends, to the last bit.
func TestNaturalBends(t *testing.T) {
	for _, c := range []tellings{
		{row(2), []float32{5, -3}, "00000000,00000000"}, {row(3), []float32{0, 1, 0}, "00000000,c0400000,00000000"},
		{row(4), []float32{0, 1, 0, 1}, "00000000,c0800000,40800000,00000000"}, {[]float32{0, 1, 3, 4}, []float32{0, 1, 0, 2}, "00000000,c0280000,40580000,00000000"},
		{row(5), []float32{3, 5, 7, 9, 11}, "00000000,00000000,00000000,00000000,00000000"},
		{[]float32{0, leastNumber}, []float32{0, mostNumber}, "00000000,00000000"}, {[]float32{-mostNumber, mostNumber}, []float32{0, 1}, "00000000,00000000"},
	} {
		got, ok := impl.NaturalBends(c.x, c.y)
		wantNumbers(t, got, ok, hexNumbers(c.want), "NaturalBends", c)
	}
	got, ok := impl.NaturalBends(row(3), []float32{0, mostNumber, -mostNumber})
	wantNoList(t, got, ok, "NaturalBends, too steep")
	got, ok = impl.NaturalBends([]float32{0, leastNumber, 1}, []float32{0, mostNumber, 0})
	wantNoList(t, got, ok, "NaturalBends, too steep")
}

// Promise 6: the rows of the bends are solved, nearly, and both ends do not bend.
func TestNaturalBendsSolve(t *testing.T) {
	s := newSource()
	for range 300 {
		x, y := s.graph()
		bends, ok := impl.NaturalBends(x, y)
		wantEqual(t, ok, impl.IsGraph(x, y), "NaturalBends", x, y)
		if !ok {
			wantNoList(t, bends, ok, "NaturalBends", x, y)
			continue
		}
		last := len(x) - 1
		wantTrue(t, len(bends) == len(x) && sameBits(bends[0], 0) && sameBits(bends[last], 0), "ends of NaturalBends", x, y)
		for i := 1; i < last; i++ {
			h, k := float64(x[i]-x[i-1]), float64(x[i+1]-x[i])
			right := 6 * (float64(y[i+1]-y[i])/k - float64(y[i]-y[i-1])/h)
			left := h*float64(bends[i-1]) + 2*(h+k)*float64(bends[i]) + k*float64(bends[i+1])
			wantTrue(t, math.Abs(left-right) < 1e-4*(1+math.Abs(right)), "row of NaturalBends", x, y, i, left, right)
		}
	}
}

// inGraph is a number of a curve at a place, by its bits.
type inGraph struct {
	at   float32
	want uint32
}

// Promise 6: curves that bend, to the last bit.
func TestBentAt(t *testing.T) {
	x, y := []float32{0, 1, 3, 4}, []float32{0, 1, 0, 2}
	bends := hexNumbers("00000000,c0280000,40580000,00000000")
	for _, c := range []inGraph{
		{0, 0}, {0.5, 0x3f2a0000}, {1, 0x3f800000}, {2, 0x3ea00000}, {2.5, 0xbda00000}, {3, 0}, {3.25, 0x3ea18000}, {4, 0x40000000}, {negZero, 0},
	} {
		got, ok := impl.BentAt(x, y, bends, c.at)
		wantTrue(t, ok, "BentAt", c.at)
		wantBits(t, got, c.want, "BentAt", c.at)
	}
	// Without bends it is straight.
	got, ok := impl.BentAt(row(2), []float32{2, 4}, []float32{0, 0}, 0.25)
	wantOne(t, got, ok, 2.5, "BentAt")
	// Places have the greatest distance that a number tells, or a greater one.
	got, ok = impl.BentAt([]float32{0, mostNumber}, row(2), make([]float32, 2), mostNumber)
	wantOne(t, got, ok, 1, "BentAt, far")
	got, ok = impl.BentAt([]float32{-mostNumber, mostNumber}, row(2), make([]float32, 2), 0)
	wantPair(t, got, ok, 0, false, "BentAt, too far")
	got, ok = impl.BentAt(row(2), []float32{mostNumber, mostNumber}, []float32{-mostNumber, -mostNumber}, 0.5)
	wantPair(t, got, ok, 0, false, "BentAt, too great")
}

// Promise 6: there are curves from the first to the last place, with as many finite numbers as points.
func TestPlacesOutsideGraphs(t *testing.T) {
	x, y := []float32{-1, 0.5, 2}, []float32{3, 4, 5}
	curveAt := func(told []float32, at float32) outcome {
		var o outcome
		o.addNumber(impl.BentAt(x, y, told, at))
		o.addNumber(impl.SteadyAt(x, y, told, at))
		return o
	}
	for _, at := range []float32{below(-1), -2, above(2), 3, mostNumber, -mostNumber, infinity, -infinity, notNum} {
		wantNothing(t, curveAt(make([]float32, 3), at), "place", at)
	}
	for _, count := range []int{0, 1, 2, 4, 48, 49} {
		wantNothing(t, curveAt(make([]float32, count), 0.5), "numbers that are told", count)
	}
	for _, wild := range wildNumbers() {
		for i := range 3 {
			told := make([]float32, 3)
			told[i] = wild
			wantNothing(t, curveAt(told, -1), "numbers that are told", told)
			wantNothing(t, curveAt(told, 2), "numbers that are told", told)
		}
	}
	for _, at := range []float32{-1, 0.5, 2} {
		got := curveAt(make([]float32, 3), at)
		wantTrue(t, got.single[1] == 1 && got.single[3] == 1, "place", at)
	}
}

// Promise 6: curves go through their graphs, and do not jump or break beside a point.
func TestCurvesGoThroughGraphs(t *testing.T) {
	s := newSource()
	for range 200 {
		x, y := s.graph()
		bends, hasBends := impl.NaturalBends(x, y)
		slopes, hasSlopes := impl.SteadySlopes(x, y)
		if !hasBends || !hasSlopes {
			continue
		}
		for i, at := range x {
			got, ok := impl.BentAt(x, y, bends, at)
			wantTrue(t, ok && got == y[i], "BentAt a point", x, y, i)
			got, ok = impl.SteadyAt(x, y, slopes, at)
			wantTrue(t, ok && got == y[i], "SteadyAt a point", x, y, i)
		}
	}
	long := row(impl.MaxPath)
	got, ok := impl.BentAt(long, sawHeights(), make([]float32, 48), 46.5)
	wantOne(t, got, ok, 0.5, "BentAt, longest graph")
}

func sawHeights() []float32 {
	heights := make([]float32, impl.MaxPath)
	for i := range heights {
		heights[i] = float32(i % 2)
	}
	return heights
}

// Promise 6: a natural curve is as steep before a point as behind it, and bends as it is told, nearly.
func TestBentAtIsSmooth(t *testing.T) {
	x, y := []float32{0, 1, 3, 4, 6}, []float32{0, 1, 0, 2, 1}
	bends, ok := impl.NaturalBends(x, y)
	wantTrue(t, ok, "NaturalBends")
	for i := 1; i < len(x)-1; i++ {
		const step = 0.0625
		var at [5]float64
		for k := range at {
			got, ok := impl.BentAt(x, y, bends, x[i]+step*float32(k-2))
			wantTrue(t, ok, "BentAt", i, k)
			at[k] = float64(got)
		}
		// Slopes of a parabola through three points at one side; what is left out of a cubic is small.
		before, behind := (3*at[2]-4*at[1]+at[0])/(2*step), (4*at[3]-3*at[2]-at[4])/(2*step)
		wantAbout(t, float32(before), float32(behind), 0.03, "slopes beside a point", i)
		wantAbout(t, float32((at[1]-2*at[2]+at[3])/(step*step)), bends[i], 0.2, "bend at a point", i)
	}
}

// Promise 6: slopes that make no waves, to the last bit.
func TestSteadySlopes(t *testing.T) {
	for _, c := range []tellings{
		{row(2), []float32{2, 5}, "40400000,40400000"}, {row(2), []float32{1, 1}, "00000000,00000000"}, {row(2), []float32{0, negZero}, "00000000,00000000"},
		{row(3), []float32{0, 1, 0}, "3f800000,00000000,bf800000"}, {row(3), []float32{0, 0, 1}, "00000000,00000000,3f800000"},
		{row(4), []float32{0, 1, 1, 2}, "3f800000,00000000,00000000,3f800000"},
		{row(6), []float32{0, 1, 2, 4, 8, 16}, "3f800000,3f800000,3fc00000,40400000,40c00000,41000000"},
		// Too steep for the first leg.
		{row(3), []float32{0, 1, 11}, "3f09624f,403ce72d,41200000"},
		// For the second leg, the sum of squares is 9, and then just more than 9.
		{row(4), []float32{1, 0, 1, 6}, "bf800000,00000000,40400000,40a00000"}, {row(4), []float32{1, 0, 1, 6.5}, "bf800000,00000000,40400000,40b00000"},
		{row(4), []float32{0, 65, 90, 185}, "42820000,42340000,42700000,42be0000"},
		// The product of both slopes is too small for a number.
		{row(3), []float32{0, 1e-30, 2e-30}, "0da24260,00000000,0da24260"},
	} {
		got, ok := impl.SteadySlopes(c.x, c.y)
		wantNumbers(t, got, ok, hexNumbers(c.want), "SteadySlopes", c)
	}
	got, ok := impl.SteadySlopes(row(2), []float32{-mostNumber, mostNumber})
	wantNoList(t, got, ok, "SteadySlopes, too steep")
	got, ok = impl.SteadySlopes([]float32{0, leastNumber}, row(2))
	wantNoList(t, got, ok, "SteadySlopes, too steep")
}

// Promise 6: curves with slopes, to the last bit.
func TestSteadyAt(t *testing.T) {
	x, y, slopes := row(3), []float32{0, 1, 11}, hexNumbers("3f09624f,403ce72d,41200000")
	for _, c := range []inGraph{
		{0, 0}, {0.25, 0x3dbf33d4}, {0.5, 0x3e4ae2ce}, {1, 0x3f800000}, {1.5, 0x40a3ce73}, {1.75, 0x4102b6b6}, {2, 0x41300000},
	} {
		got, ok := impl.SteadyAt(x, y, slopes, c.at)
		wantTrue(t, ok, "SteadyAt", c.at)
		wantBits(t, got, c.want, "SteadyAt", c.at)
	}
	// It is a sum, which begins with +0.
	got, ok := impl.SteadyAt(row(2), []float32{negZero, negZero}, []float32{-1, 1}, 0)
	wantOne(t, got, ok, 0, "SteadyAt")
	got, ok = impl.SteadyAt(row(2), []float32{mostNumber, mostNumber}, make([]float32, 2), 0.5)
	wantOne(t, got, ok, mostNumber, "SteadyAt, great")
	got, ok = impl.SteadyAt(row(2), []float32{mostNumber, mostNumber}, []float32{mostNumber, -mostNumber}, 0.5)
	wantPair(t, got, ok, 0, false, "SteadyAt, too great")
	got, ok = impl.SteadyAt([]float32{-mostNumber, mostNumber}, row(2), make([]float32, 2), -mostNumber)
	wantPair(t, got, ok, 0, false, "SteadyAt, too far")
}

// Promise 6: curves with steady slopes make no waves: between two points, they stay between both, nearly.
func TestSteadyAtMakesNoWaves(t *testing.T) {
	s := newSource()
	for range 200 {
		x, y := s.graph()
		slopes, ok := impl.SteadySlopes(x, y)
		if !ok {
			continue
		}
		for i := 1; i < len(x); i++ {
			low, high := min(y[i-1], y[i]), max(y[i-1], y[i])
			before := y[i-1]
			for k := 1; k <= 8; k++ {
				at := min(x[i-1]+float32((x[i]-x[i-1])*float32(k)/8), x[i])
				got, ok := impl.SteadyAt(x, y, slopes, at)
				wantTrue(t, ok && got > low-1e-5 && got < high+1e-5, "SteadyAt between", x, y, i, k)
				steady := got >= before-1e-5
				if y[i] < y[i-1] {
					steady = got <= before+1e-5
				}
				wantTrue(t, steady, "SteadyAt, wave", x, y, i, k, got, before)
				before = got
			}
		}
	}
}
