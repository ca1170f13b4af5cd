package tests

import (
	"math"
	"slices"
	"strconv"
	"strings"
	"testing"

	"loop.example/g01328/impl"
)

func TestNumbersText(t *testing.T) {
	for _, c := range []struct {
		list []float32
		text string
	}{
		{nil, "none"}, {[]float32{}, "none"}, {[]float32{1}, "3f800000"}, {[]float32{1, -2}, "3f800000,c0000000"},
		{[]float32{0, negZero, leastNumber, -leastNumber}, "00000000,80000000,00000001,80000001"},
		{[]float32{mostSubnorm, leastNormal, mostNumber}, "007fffff,00800000,7f7fffff"},
		{[]float32{infinity, -infinity, notNum}, "7f800000,ff800000,7fc00000"},
		{repeated(negZero, 256), strings.Repeat("80000000,", 255) + "80000000"},
	} {
		text, ok := impl.NumbersText(c.list)
		wantPair(t, text, ok, c.text, true, "NumbersText", c.list)
		list, ok := impl.ReadNumbers(c.text)
		if !ok || !slices.EqualFunc(list, c.list, sameBits) {
			t.Errorf("ReadNumbers(%q): got %v %v, want %v", c.text, list, ok, c.list)
		}
	}
	text, ok := impl.NumbersText([]float32{math.Float32frombits(0xff800001)})
	wantPair(t, text, ok, "7fc00000", true, "NumbersText of another not-a-number")
	text, ok = impl.NumbersText(repeated[float32](1, 257))
	wantPair(t, text, ok, "", false, "NumbersText of 257")
}

func TestReadNumbersFails(t *testing.T) {
	for _, s := range []string{
		"", "3f80000", "3f8000000", "3F800000", "3f80000g", "0x3f8000", "+3f80000", "-3f80000", " 3f800000", "3f800000 ",
		",", "3f800000,", ",3f800000", "3f800000,,3f800000", "3f800000, 3f800000", "3f800000;3f800000", "3f800000c0000000",
		"None", "none,none", "none,3f800000", "3f800000,none", "nonenone", "none ", "nan", "1",
		"7fc00001", "7f800001", "7fffffff", "ffc00000", "ff800001", "ffffffff",
		"3f8000\u00e9", "3f80000\xff", "3f80000\x00", "\u0663f80000", "3f800000\n", "`f800000", "3f80000/", "3f80000:",
		strings.Repeat("3f800000,", 256) + "3f800000", strings.Repeat(",", 255), strings.Repeat("0", 1<<20),
	} {
		list, ok := impl.ReadNumbers(s)
		if ok || len(list) != 0 {
			t.Errorf("ReadNumbers(%.40q): got %v %v, want a failure", s, list, ok)
		}
	}
}

func TestComplexText(t *testing.T) {
	for _, c := range []struct {
		list []complex64
		text string
	}{
		{nil, "none"}, {[]complex64{}, "none"}, {[]complex64{1}, "3f80000000000000"},
		{[]complex64{1, complex(0, -2)}, "3f80000000000000,00000000c0000000"},
		{[]complex64{complex(negZero, leastNumber)}, "8000000000000001"},
		{[]complex64{complex(notNum, -infinity), complex(infinity, notNum)}, "7fc00000ff800000,7f8000007fc00000"},
		{repeated[complex64](complex(1, negZero), 256), strings.Repeat("3f80000080000000,", 255) + "3f80000080000000"},
	} {
		text, ok := impl.ComplexText(c.list)
		wantPair(t, text, ok, c.text, true, "ComplexText", c.list)
		list, ok := impl.ReadComplex(c.text)
		if !ok || !slices.EqualFunc(list, c.list, sameParts) {
			t.Errorf("ReadComplex(%q): got %v %v, want %v", c.text, list, ok, c.list)
		}
	}
	text, ok := impl.ComplexText(repeated[complex64](1, 257))
	wantPair(t, text, ok, "", false, "ComplexText of 257")
}

func TestReadComplexFails(t *testing.T) {
	for _, s := range []string{
		"", "3f800000", "3f8000000000000", "3f800000000000000", "3F80000000000000", "3f800000 0000000", "3f800000,00000000",
		",", "3f80000000000000,", ",3f80000000000000", "3f80000000000000,,3f80000000000000", "none,3f80000000000000",
		"7fc0000100000000", "000000007fc00001", "ffc0000000000000", "00000000ffffffff",
		"3f8000\u00e900000000", "3f80000\u00e90000000", "3f80000\xff00000000", "none\n", "NONE",
		strings.Repeat("3f80000000000000,", 256) + "3f80000000000000", strings.Repeat("0", 1<<20),
	} {
		list, ok := impl.ReadComplex(s)
		if ok || len(list) != 0 {
			t.Errorf("ReadComplex(%.40q): got %v %v, want a failure", s, list, ok)
		}
	}
}

// Promise 2: what is written is read back to the last bit.
func TestTextsAreReadBack(t *testing.T) {
	r := fixedRandom()
	for range 2000 {
		numbers := make([]float32, r.Intn(8))
		points := make([]complex64, r.Intn(8))
		for i := range numbers {
			numbers[i] = math.Float32frombits(r.Uint32())
		}
		for i := range points {
			points[i] = complex(math.Float32frombits(r.Uint32()), math.Float32frombits(r.Uint32()))
		}
		text, _ := impl.NumbersText(numbers)
		readNumbers, ok := impl.ReadNumbers(text)
		if !ok || !slices.EqualFunc(readNumbers, numbers, sameBits) {
			t.Fatalf("ReadNumbers(%q): got %v %v, want %v", text, readNumbers, ok, numbers)
		}
		text, _ = impl.ComplexText(points)
		readPoints, ok := impl.ReadComplex(text)
		if !ok || !slices.EqualFunc(readPoints, points, sameParts) {
			t.Fatalf("ReadComplex(%q): got %v %v, want %v", text, readPoints, ok, points)
		}
	}
}

// A text that a reader takes is the one that is written for what it reads.
func TestOnlyWrittenTextsAreRead(t *testing.T) {
	starts := []string{"none", "3f800000", "7fc00000", "3f80000080000000", "-12", "0,7,-1000000000000000", "3f800000,00000000"}
	changes := "0123456789abcdefgnoe,-+ A\x00\xff"
	r := fixedRandom()
	for range 60000 {
		s := []byte(starts[r.Intn(len(starts))])
		for range 1 + r.Intn(3) {
			s[r.Intn(len(s))] = changes[r.Intn(len(changes))]
		}
		if r.Intn(4) == 0 {
			s = s[:r.Intn(len(s)+1)]
		}
		text := string(s)
		if list, ok := impl.ReadNumbers(text); ok {
			again, ok := impl.NumbersText(list)
			wantPair(t, again, ok, text, true, "NumbersText of ReadNumbers", text)
		}
		if list, ok := impl.ReadComplex(text); ok {
			again, ok := impl.ComplexText(list)
			wantPair(t, again, ok, text, true, "ComplexText of ReadComplex", text)
		}
		if list, ok := impl.ReadList(text); ok {
			again, ok := impl.ListText(list)
			wantPair(t, again, ok, text, true, "ListText of ReadList", text)
		}
		if n, ok := impl.ReadDecimal(text); ok {
			wantEqual(t, impl.Decimal(n), text, "Decimal of ReadDecimal", text)
		}
	}
}

func TestIsName(t *testing.T) {
	for _, s := range []string{"a", "z", "ring", "abcdefgh", "none"} {
		wantEqual(t, impl.IsName(s), true, "IsName", s)
	}
	for _, s := range []string{
		"", "abcdefghi", "A", "Ring", "a1", "a b", " a", "a ", "`", "{", "a-b", "\u00e9", "a\u00e9", "\xff", "a\xff", "a\x00",
		strings.Repeat("a", 1<<20),
	} {
		wantEqual(t, impl.IsName(s), false, "IsName", s)
	}
}

func TestDecimal(t *testing.T) {
	for _, c := range []struct {
		n    int64
		text string
	}{
		{0, "0"}, {7, "7"}, {-4, "-4"}, {10, "10"}, {-120, "-120"},
		{1000000000000000, "1000000000000000"}, {-1000000000000000, "-1000000000000000"},
	} {
		wantEqual(t, impl.Decimal(c.n), c.text, "Decimal", c.n)
		n, ok := impl.ReadDecimal(c.text)
		wantPair(t, n, ok, c.n, true, "ReadDecimal", c.text)
	}
	// Decimal takes all integers, while ReadDecimal has limits.
	wantEqual(t, impl.Decimal(1000000000000001), "1000000000000001", "Decimal")
	wantEqual(t, impl.Decimal(math.MaxInt64), "9223372036854775807", "Decimal")
	wantEqual(t, impl.Decimal(math.MinInt64), "-9223372036854775808", "Decimal")
	for _, s := range []string{
		"", "-", "+", "+1", "-0", "00", "01", "-01", " 1", "1 ", "1\n", "1_0", "0x1", "1.0", "1e3", "a", "none", "--1", "1-", "1,2",
		"1000000000000001", "-1000000000000001", "9223372036854775807", "-9223372036854775808",
		"9223372036854775808", "18446744073709551617", "\uff11", "\xff", "1\x00", strings.Repeat("1", 1<<20),
	} {
		n, ok := impl.ReadDecimal(s)
		wantPair(t, n, ok, 0, false, "ReadDecimal", s)
	}
}

func TestListText(t *testing.T) {
	const most = 1000000000000000
	for _, c := range []struct {
		list []int64
		text string
	}{
		{nil, "none"}, {[]int64{}, "none"}, {[]int64{0}, "0"}, {[]int64{3, -4, 3}, "3,-4,3"},
		{[]int64{most, -most}, "1000000000000000,-1000000000000000"},
		{repeated[int64](-most, 64), strings.Repeat("-1000000000000000,", 63) + "-1000000000000000"},
	} {
		text, ok := impl.ListText(c.list)
		wantPair(t, text, ok, c.text, true, "ListText", c.list)
		list, ok := impl.ReadList(c.text)
		if !ok || !slices.Equal(list, c.list) {
			t.Errorf("ReadList(%q): got %v %v, want %v", c.text, list, ok, c.list)
		}
	}
	for _, list := range [][]int64{
		repeated[int64](1, 65), {most + 1}, {-most - 1}, {1, most + 1, 2}, {math.MaxInt64}, {math.MinInt64},
	} {
		text, ok := impl.ListText(list)
		wantPair(t, text, ok, "", false, "ListText", list)
	}
	for _, s := range []string{
		"", ",", "1,", ",1", "1,,2", "1, 2", "1;2", "01", "1,-0", "+1", "none,1", "1,none", "None", "1\n",
		strconv.Itoa(most + 1), strconv.Itoa(-most - 1), strings.Repeat("1,", 64) + "1", strings.Repeat("1,", 1<<20),
	} {
		list, ok := impl.ReadList(s)
		if ok || len(list) != 0 {
			t.Errorf("ReadList(%.40q): got %v %v, want a failure", s, list, ok)
		}
	}
}

func TestCheckOf(t *testing.T) {
	for _, c := range []struct {
		start int64
		s     string
		want  int64
	}{
		{0, "", 0}, {65002, "", 65002}, {0, "a", 248}, {0, "ab", 18272}, {0, "\x00", 151},
		{65002, "\xff", 64550}, {65002, "\x00", 64295}, {1, "\xff", 1265},
	} {
		got, ok := impl.CheckOf(c.start, c.s)
		wantPair(t, got, ok, c.want, true, "CheckOf", c.start, c.s)
	}
	for _, start := range []int64{-1, 65003, math.MaxInt64, math.MinInt64} {
		got, ok := impl.CheckOf(start, "a")
		wantPair(t, got, ok, 0, false, "CheckOf", start)
	}
	// A text can be checked part by part, and bytes count, not runes.
	first, _ := impl.CheckOf(17, "\xe9\x00\u00e9")
	second, ok := impl.CheckOf(first, "end")
	whole, _ := impl.CheckOf(17, "\xe9\x00\u00e9end")
	wantPair(t, second, ok, whole, true, "CheckOf in parts")
	long, ok := impl.CheckOf(0, strings.Repeat("\xff", 1<<20))
	wantTrue(t, ok && 0 <= long && long < 65003, "CheckOf a long text", long)
}
