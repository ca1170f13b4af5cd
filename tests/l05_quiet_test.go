package tests

import (
	"math"
	"testing"

	"loop.example/g01328/impl"
)

// quieted is a list, and what it becomes with a weight.
type quieted struct {
	list   []float32
	weight float32
	want   string
}

// Promise 6: quiet lists, to the last bit.
func TestQuietList(t *testing.T) {
	for _, c := range []quieted{
		{[]float32{1, 2, 3}, 0, "3f800000,40000000,40400000"}, {[]float32{1, 2, 3}, 5, "3f800000,40000000,40400000"},
		{[]float32{0, 1, 0}, 1, "3e924924,3edb6db7,3e924925"}, {[]float32{0, 4, 0, 4}, 0.5, "3f2aaaab,40000000,40000000,40555555"},
		{[]float32{0, 0, 8, 0, 0}, 2, "3f376720,3ff48985,402fc2d9,3ff48986,3f376725"},
		// Nothing is added, but +0 times a number is taken away.
		{[]float32{negZero, 1, -2}, 0, "00000000,3f800000,c0000000"}, {[]float32{-1, negZero, 2, negZero}, negZero, "bf800000,00000000,40000000,80000000"},
		{[]float32{mostNumber, -mostNumber, mostNumber}, 0, "7f7fffff,ff7fffff,7f7fffff"},
	} {
		got, ok := impl.QuietList(c.list, c.weight)
		wantNumbers(t, got, ok, hexNumbers(c.want), "QuietList", c.list, c.weight)
	}
	for _, weight := range append(wildNumbers(), -leastNumber, -1, -mostNumber) {
		got, ok := impl.QuietList([]float32{0, 1, 0}, weight)
		wantNoList(t, got, ok, "QuietList", weight)
	}
	for _, weight := range []float32{mostNumber, mostNumber / 8, 1e30} {
		got, ok := impl.QuietList([]float32{0, 1, 0}, weight)
		wantNoList(t, got, ok, "QuietList, too heavy", weight)
	}
	got, ok := impl.QuietList([]float32{mostNumber, 0, mostNumber}, 1)
	wantNoList(t, got, ok, "QuietList, too great")
}

// Promise 6: how rough lists are.
func TestRoughOf(t *testing.T) {
	for _, c := range []struct {
		list []float32
		want float32
	}{
		{[]float32{0, 1, 0}, 4}, {[]float32{1, 2, 3}, 0}, {[]float32{0, 1, 0, 1}, 8}, {[]float32{5, 5, 5, 5, 6}, 1}, {[]float32{1, 0, 2, 7, -1}, 9 + 9 + 169},
		{[]float32{negZero, negZero, negZero}, 0}, {row(impl.MaxPath), 0}, {sawHeights(), 4 * 46}, {[]float32{1e19, 0, 0}, 1e19 * 1e19},
	} {
		got, ok := impl.RoughOf(c.list)
		wantOne(t, got, ok, c.want, "RoughOf", c.list)
	}
	for _, list := range [][]float32{{mostNumber, 0, 0}, {0, 1e19, 0}, {mostNumber, mostNumber, mostNumber}} {
		got, ok := impl.RoughOf(list)
		wantPair(t, got, ok, 0, false, "RoughOf, too rough", list)
	}
}

// Promise 6: only lists of 3 to MaxPath finite numbers are made quiet.
func TestListsThatAreNotQuiet(t *testing.T) {
	for _, list := range notQuiet() {
		wantNothing(t, ofQuiet(list, 1), "list", list)
		wantNothing(t, ofQuiet(list, 0), "list", list)
	}
	for _, count := range []int{3, impl.MaxPath} {
		got := ofQuiet(row(count), 1)
		wantTrue(t, got.single[0] == 1 && got.single[3] == 1, "list of", count)
		for i, x := range got.numbers[0] {
			wantAbout(t, x, float32(i), 1e-3, "QuietList of an even list", count, i)
		}
	}
}

// badness is what a quiet list makes least.
func badness(list, quiet []float32, weight float32) float64 {
	sum := 0.0
	for i, x := range quiet {
		sum += math.Pow(float64(x)-float64(list[i]), 2)
	}
	for i := 1; i < len(quiet)-1; i++ {
		sum += float64(weight) * math.Pow(float64(quiet[i-1])-2*float64(quiet[i])+float64(quiet[i+1]), 2)
	}
	return sum
}

// Promise 6: quiet lists are no rougher, nearly, and the more weight there is, the quieter they are; no other list is better, nearly.
func TestQuietListsAreQuiet(t *testing.T) {
	s := newSource()
	for range 300 {
		list := s.numbers(3 + s.below(impl.MaxPath-2))
		before, ok := impl.RoughOf(list)
		wantTrue(t, ok, "RoughOf", list)
		for _, weight := range []float32{0, s.time(), 1, 4, 16, 64} {
			quiet, ok := impl.QuietList(list, weight)
			wantTrue(t, ok && len(quiet) == len(list), "QuietList", list, weight)
			rough, ok := impl.RoughOf(quiet)
			wantTrue(t, ok && rough <= before*1.0001+1e-4, "RoughOf QuietList", list, weight, rough, before)
			before = rough
			best := badness(list, quiet, weight)
			for i, x := range quiet {
				other := append([]float32{}, quiet...)
				other[i] = x + 0.01
				wantTrue(t, best < badness(list, other, weight)+1e-4, "QuietList and a greater number", list, weight, i)
				other[i] = x - 0.01
				wantTrue(t, best < badness(list, other, weight)+1e-4, "QuietList and a lesser number", list, weight, i)
			}
		}
	}
}
