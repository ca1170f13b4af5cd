package tests

import (
	"fmt"
	"math"
	"slices"
	"strings"
	"testing"

	"loop.example/g01328/impl"
)

// evenOf is a spline with the knots 0, 1, 2 and so on.
func evenOf(degree int64, points ...complex64) impl.Spline {
	s := impl.Spline{Degree: degree, Points: points}
	for i := range int64(len(points)) + degree + 1 {
		s.Knots = append(s.Knots, float32(min(max(i-degree, 0), int64(len(points))-degree)))
	}
	return s
}

// freshDesk is a new desk, told without the program.
func freshDesk() impl.Desk {
	return impl.Desk{Curve: arch(), Spline: evenOf(2, 0, 1, 2, 3), Sheet: floor(), Ring: angle()}
}

// leastDesk has as few points and spots as a desk can have.
func leastDesk() impl.Desk {
	return impl.Desk{Curve: plain(0, 1), Spline: evenOf(1, 0, 1), Sheet: floor(), Ring: []complex64{0, 1}}
}

// mostDesk has as many points and spots as a desk can have.
func mostDesk() impl.Desk {
	return impl.Desk{Curve: plain(line(8)...), Spline: evenOf(5, line(24)...), Sheet: impl.Sheet{Across: 6, Along: 6, Spots: somewhere(36)}, Ring: line(128)}
}

// oddDesk has numbers at the edges of the format.
func oddDesk() impl.Desk {
	tiny := complex(leastNumber, negZero)
	return impl.Desk{
		Curve:  impl.Curve{Points: []complex64{tiny, farPoint, -tiny}, Weights: []float32{leastNumber, 1, mostNumber}},
		Spline: impl.Spline{Degree: 1, Knots: []float32{negZero, 0, leastNumber, 1, 1}, Points: []complex64{tiny, -farPoint, 0.1}},
		Sheet:  sheet(2, 3, negZero, leastNumber, mostNumber, -mostNumber, 0, 0.1, 1, 2, 3, -leastNormal, 0, negZero, 4, 5, 6, 7, 8, 9),
		Ring:   []complex64{tiny, tiny, farPoint, -farPoint},
	}
}

func someDesks() []impl.Desk {
	heavyDesk := impl.Desk{Curve: heavy(), Spline: twice(), Sheet: roof(), Ring: square()}
	return []impl.Desk{freshDesk(), leastDesk(), mostDesk(), oddDesk(), heavyDesk, {Curve: wave(), Spline: cubic(), Sheet: folded(spot(1, 2, 3)), Ring: star()}}
}

// notDesks have one part that is not valid.
func notDesks() []impl.Desk {
	list := []impl.Desk{{}}
	add := func(change func(d *impl.Desk)) {
		d := freshDesk()
		change(&d)
		list = append(list, d)
	}
	for _, c := range notCurves() {
		add(func(d *impl.Desk) { d.Curve = c })
	}
	for _, s := range notSplines() {
		add(func(d *impl.Desk) { d.Spline = s })
	}
	for _, s := range notSheets() {
		add(func(d *impl.Desk) { d.Sheet = s })
	}
	for _, ring := range notRings() {
		add(func(d *impl.Desk) { d.Ring = ring })
	}
	return list
}

func copyDesk(d impl.Desk) impl.Desk {
	return impl.Desk{Curve: copyCurve(d.Curve), Spline: copySpline(d.Spline), Sheet: copySheet(d.Sheet), Ring: slices.Clone(d.Ring)}
}

func sameSheets(a, b impl.Sheet) bool {
	return a.Across == b.Across && a.Along == b.Along && sameSpots(a.Spots, b.Spots)
}

func sameDesks(a, b impl.Desk) bool {
	return sameCurves(a.Curve, b.Curve) && sameSplines(a.Spline, b.Spline) && sameSheets(a.Sheet, b.Sheet) && samePoints(a.Ring, b.Ring)
}

func wantDesk(t *testing.T, got impl.Desk, ok bool, want impl.Desk, what string, args ...any) {
	t.Helper()
	if !ok || !sameDesks(got, want) {
		t.Errorf("%s%.80q: got %v %v, want %v", what, args, got, ok, want)
	}
}

func wantNoDesk(t *testing.T, got impl.Desk, ok bool, what string, args ...any) {
	t.Helper()
	if ok || !sameDesks(got, impl.Desk{}) {
		t.Errorf("%s%.80q: got %v %v, want none", what, args, got, ok)
	}
}

// hexOf writes numbers by their bits, without the program.
func hexOf(numbers ...float32) string {
	var words []string
	for _, x := range numbers {
		words = append(words, fmt.Sprintf("%08x", bitsOf(x)))
	}
	return strings.Join(words, ",")
}

func hexOfPoints(points ...complex64) string {
	var words []string
	for _, z := range points {
		words = append(words, hexOf(real(z))+hexOf(imag(z)))
	}
	return strings.Join(words, ",")
}

func hexOfSpots(list ...impl.Spot) string {
	var words []string
	for _, p := range list {
		words = append(words, hexOf(p.X, p.Y, p.Z))
	}
	return strings.Join(words, ",")
}

// textOfCurve, textOfSpline and textOfSheet write what is valid, or not, without the program.
func textOfCurve(c impl.Curve) string {
	return orNone(hexOfPoints(c.Points...)) + ";" + orNone(hexOf(c.Weights...))
}

func textOfSpline(s impl.Spline) string {
	return fmt.Sprint(s.Degree) + ";" + orNone(hexOf(s.Knots...)) + ";" + orNone(hexOfPoints(s.Points...))
}

func textOfSheet(s impl.Sheet) string {
	return fmt.Sprintf("%d,%d;", s.Across, s.Along) + orNone(hexOfSpots(s.Spots...))
}

func orNone(s string) string {
	if s == "" {
		return "none"
	}
	return s
}

// nearlyText has texts that differ little from a text: cut off, with a byte more or less, or another one.
func nearlyText(text string) []string {
	list := []string{" " + text, text + " ", text + "\n", text + ";", ";" + text, text + ",", text + text, text + ";none", "none;" + text, strings.ToUpper(text), strings.ReplaceAll(text, ";", ","), strings.ReplaceAll(text, ",", ";")}
	for i := range text {
		list = append(list, text[:i], text[i+1:], text[:i]+text[i+1:])
		for _, b := range "0189af;,- none\x00\xffAG+" {
			list = append(list, text[:i]+string(b)+text[i+1:], text[:i]+string(b)+text[i:])
		}
	}
	return slices.DeleteFunc(list, func(s string) bool { return s == text })
}

// checkOf is the check number of a line behind one with another check number, told without the program.
func checkOf(start int, line string) int {
	for _, b := range []byte(line) {
		start = (859*start + int(b) + 151) % 65003
	}
	return start
}

// journalOf is a journal, told without the program.
func journalOf(lines ...string) string {
	check, journal := 0, ""
	for _, l := range lines {
		check = checkOf(check, l)
		journal += fmt.Sprintf("%d %s\n", check, l)
	}
	return journal
}

func (o *outcome) addDesk(d impl.Desk, ok bool) {
	o.addCurve(d.Curve, ok)
	o.addSpline(d.Spline, ok)
	o.addSheet(d.Sheet, ok)
	o.addPoints(d.Ring, ok)
}

func (o *outcome) addLines(lines []string, ok bool) {
	o.single = append(o.single, truth(ok), float32(len(lines)))
	for _, l := range lines {
		o.addBytes(l, ok)
	}
}

// desk has any valid parts, of which the ring may be too large to be made round.
func (s *source) desk() impl.Desk {
	d := impl.Desk{Curve: s.curve(1, 7), Spline: s.spline(12), Sheet: s.sheet()}
	d.Ring = s.points(2 + s.below(30))
	return d
}

// numberWord is a number now and then too great or too small for a time, and seldom none.
func (s *source) numberWord() string {
	switch s.below(12) {
	case 0:
		words := []string{"", "none", "7fc00000", "7f800000", "3f80000", "3F000000", "3f000000,3f000000", "0", "3f00000000000000"}
		return words[s.below(len(words))]
	case 1:
		return hexOf(s.time() * 4)
	case 2:
		return hexOf(-s.time())
	}
	return hexOf(s.time())
}

// countWord is a small integer, and seldom none.
func (s *source) countWord() string {
	if s.below(12) == 0 {
		words := []string{"", "-1", "02", "+2", "none", "2,3", "1000000000000001", "3f800000"}
		return words[s.below(len(words))]
	}
	return fmt.Sprint(s.below(8))
}

func (s *source) pointWord() string {
	if s.below(12) == 0 {
		words := []string{"", "none", "3f800000", "7f80000000000000", "000000007fc00000", "3f80000000000000,3f80000000000000"}
		return words[s.below(len(words))]
	}
	return hexOfPoints(s.point())
}

// partWord is a text of a part, and seldom of another one.
func (s *source) partWord(part string) string {
	switch s.below(8) {
	case 0:
		part = "curve"
	case 1:
		part = "ring"
	}
	switch part {
	case "curve":
		return textOfCurve(s.curve(1, 7))
	case "spline":
		return textOfSpline(s.spline(12))
	case "sheet":
		return textOfSheet(s.sheet())
	}
	return orNone(hexOfPoints(s.points(s.below(20))...))
}

// deskLine is a line of any form, and seldom of none.
func (s *source) deskLine() string {
	part := []string{"curve", "spline", "sheet", "ring"}[s.below(4)]
	switch form := s.below(24); form {
	case 0:
		return part + " " + s.partWord(part)
	case 1, 2:
		return part
	case 3, 4, 5, 6, 7:
		return []string{"at ", "slope ", "along ", "run ", "basis "}[form-3] + s.numberWord()
	case 8, 9, 10, 11:
		return []string{"raise", "back", "turn", "cubic"}[form-8]
	case 12, 13:
		return []string{"points ", "limit "}[form-12] + s.countWord()
	case 14, 15:
		return "knot " + s.numberWord()
	case 16, 17, 18, 19:
		x := s.numberWord()
		return []string{"part ", "spot ", "normal ", "part "}[form-16] + x + " " + s.numberWord()
	case 20, 21:
		n := s.countWord()
		return "corner " + n + " " + s.pointWord()
	case 22:
		x := hexOf(s.time() / 2)
		return "round " + x + " " + s.countWord()
	}
	lines := []string{"", " ", "at", "turn now", "curve  ", "raise 1", "round " + hexOf(0.25), "Ring", "points 2 3", "sheet ", "part " + hexOf(0, 1), "cubic\r", "limit"}
	return lines[s.below(len(lines))]
}

func (s *source) deskLines(count int) []string {
	lines := make([]string, count)
	for i := range lines {
		lines[i] = s.deskLine()
	}
	return lines
}

// script has a newline behind each line.
func script(lines ...string) string {
	all := ""
	for _, l := range lines {
		all += l + "\n"
	}
	return all
}

// tooManyBytes are numbers of bytes of texts that are too long.
func tooManyBytes() []int { return []int{16001, 16002, 32000, 1 << 20} }

// notCounts are words that are no integers in decimal, or too great ones.
func notCounts() []string {
	return []string{"", "none", "+2", "02", "-0", "2,3", "2.0", "0x2", "2\n", "\uff12", "1000000000000001", "-1000000000000001", fmt.Sprint(uint64(math.MaxUint64) - 1), "3f800000", "two"}
}

// notNumberWords are words that are no texts of lists of one number.
func notNumberWords() []string {
	return []string{"", "none", "0", "1", "0.5", "3f00000", "3f0000000", "3F000000", "3f00000g", "3f000000,", ",3f000000", "3f000000,3f000000", "3f00000000000000", "3f000000\n", "\t3f000000", "7f800001", "ffffffff", "-3f00000", strings.Repeat("0", 1<<16)}
}
