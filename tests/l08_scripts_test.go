package tests

import (
	"slices"
	"strconv"
	"strings"
	"testing"

	"loop.example/g01328/impl"
)

// told carries out lines as the chapter's table tells them, with the functions of the chapters before. Its words are read without the program.
type told struct {
	d     impl.Desk
	words []string
	isNo  bool
}

// ensure notes that a line is answered with no.
func (w *told) ensure(ok bool) bool {
	w.isNo = w.isNo || !ok
	return ok
}

// hexWords reads numbers of the same count of digits, and notes where there are none.
func (w *told) hexWords(word string, digits int) []uint64 {
	var list []uint64
	if word == "none" {
		return nil
	}
	for part := range strings.SplitSeq(word, ",") {
		bits, err := strconv.ParseUint(part, 16, 64)
		if !w.ensure(err == nil && len(part) == digits && part == strings.ToLower(part)) {
			return nil
		}
		list = append(list, bits)
	}
	return list
}

func (w *told) number(i int) float32 {
	list := w.hexWords(w.words[i], 8)
	if !w.ensure(len(list) == 1) {
		return notNum
	}
	x, _ := impl.FromBits(int64(list[0]))
	return x
}

func (w *told) points(i int) []complex64 {
	var points []complex64
	for _, bits := range w.hexWords(w.words[i], 16) {
		re, _ := impl.FromBits(int64(bits >> 32))
		im, _ := impl.FromBits(int64(bits & 0xffffffff))
		points = append(points, complex(re, im))
	}
	return points
}

func (w *told) integer(i int) int64 {
	n, err := strconv.Atoi(w.words[i])
	w.ensure(err == nil && strconv.Itoa(n) == w.words[i])
	return int64(n)
}

func (w *told) pointText(z complex64, ok bool) string {
	w.ensure(ok)
	return hexOfPoints(z)
}

func (w *told) spotText(p impl.Spot, ok bool) string {
	w.ensure(ok)
	return hexOf(p.X, p.Y, p.Z)
}

// put puts something on the desk, if there is such a thing.
func put[T any](w *told, at *T, made T, ok bool) string {
	if w.ensure(ok) {
		*at = made
	}
	return "ok"
}

// parts are the lines that put parts on the desk, or tell them.
func (w *told) parts() (string, bool) {
	text := w.words[len(w.words)-1]
	switch w.words[0] + strconv.Itoa(len(w.words)) {
	case "curve2":
		made, ok := impl.ReadCurve(text)
		return put(w, &w.d.Curve, made, ok), true
	case "spline2":
		made, ok := impl.ReadSpline(text)
		return put(w, &w.d.Spline, made, ok), true
	case "sheet2":
		made, ok := impl.ReadSheet(text)
		return put(w, &w.d.Sheet, made, ok), true
	case "ring2":
		made := w.points(1)
		return put(w, &w.d.Ring, made, impl.IsRing(made)), true
	case "curve1":
		return textOfCurve(w.d.Curve), true
	case "spline1":
		return textOfSpline(w.d.Spline), true
	case "sheet1":
		return textOfSheet(w.d.Sheet), true
	case "ring1":
		return hexOfPoints(w.d.Ring...), true
	}
	return "", false
}

// uses are the lines that ask for points of curves and splines, and for other things.
func (w *told) uses() (string, bool) {
	switch w.words[0] + strconv.Itoa(len(w.words)) {
	case "at2":
		return w.pointText(impl.CurveAt(w.d.Curve, w.number(1))), true
	case "slope2":
		return w.pointText(impl.SlopeAt(w.d.Curve, w.number(1))), true
	case "points2":
		points, ok := impl.PointsOn(w.d.Curve, w.integer(1))
		w.ensure(ok)
		return hexOfPoints(points...), true
	case "along2":
		return w.pointText(impl.SplineAt(w.d.Spline, w.number(1))), true
	case "run2":
		return w.pointText(impl.SplineSlope(w.d.Spline, w.number(1))), true
	case "basis2":
		shares, ok := impl.BasisAt(w.d.Spline, w.number(1))
		w.ensure(ok)
		return hexOf(shares...), true
	case "spot3":
		return w.spotText(impl.SheetAt(w.d.Sheet, w.number(1), w.number(2))), true
	case "normal3":
		return w.spotText(impl.NormalAt(w.d.Sheet, w.number(1), w.number(2))), true
	case "limit2":
		return w.pointText(impl.LimitPoint(w.d.Ring, true, w.integer(1))), true
	}
	return "", false
}

// changes are the lines that change a part.
func (w *told) changes() (string, bool) {
	switch w.words[0] + strconv.Itoa(len(w.words)) {
	case "part3":
		made, ok := impl.PartOfCurve(w.d.Curve, w.number(1), w.number(2))
		return put(w, &w.d.Curve, made, ok), true
	case "raise1":
		made, ok := impl.RaiseCurve(w.d.Curve)
		return put(w, &w.d.Curve, made, ok), true
	case "back1":
		made, ok := impl.BackCurve(w.d.Curve)
		return put(w, &w.d.Curve, made, ok), true
	case "knot2":
		made, ok := impl.PutKnot(w.d.Spline, w.number(1))
		return put(w, &w.d.Spline, made, ok), true
	case "corner3":
		z := w.points(2)
		if !w.ensure(len(z) == 1) {
			return "", true
		}
		made, ok := impl.MoveCorner(w.d.Spline, w.integer(1), z[0])
		return put(w, &w.d.Spline, made, ok), true
	case "turn1":
		made, ok := impl.FlipSheet(w.d.Sheet)
		return put(w, &w.d.Sheet, made, ok), true
	case "round3":
		made, ok := impl.CutTimes(w.d.Ring, true, w.number(1), w.integer(2))
		put(w, &w.d.Ring, made, ok)
		return strconv.Itoa(len(w.d.Ring)), true
	case "cubic1":
		made, ok := impl.CubicOnce(w.d.Ring, true, nil)
		put(w, &w.d.Ring, made, ok)
		return strconv.Itoa(len(w.d.Ring)), true
	}
	return "", false
}

func afterLine(d impl.Desk, line string) (impl.Desk, string) {
	for _, kind := range []func(*told) (string, bool){(*told).parts, (*told).uses, (*told).changes} {
		w := &told{d: d, words: strings.Split(line, " ")}
		if output, ok := kind(w); ok && w.isNo {
			return d, "no"
		} else if ok {
			return w.d, output
		}
	}
	return d, "what"
}

// Promise 9: a desk outputs what the functions tell, line by line and as a script.
func TestDesksOutputWhatFunctionsTell(t *testing.T) {
	s := newSource()
	counts := map[string]int{}
	for range 400 {
		d := s.desk()
		if s.below(2) == 0 {
			d = freshDesk()
		}
		lines := s.deskLines(s.below(40))
		after, outputs := copyDesk(d), ""
		for _, l := range lines {
			next, output, ok := impl.DeskCommand(after, l)
			wantNext, wantOutput := afterLine(after, l)
			wantPair(t, output, ok, wantOutput, true, "output of", l)
			wantDesk(t, next, ok, wantNext, "desk after", l)
			wantTrue(t, impl.ValidDesk(next), "ValidDesk after", l)
			after, outputs = next, outputs+output+"\n"
			if output == "no" || output == "what" {
				counts[output]++
			} else {
				counts[strings.Fields(l)[0]]++
			}
		}
		got, text, ok := impl.RunDesk(d, script(lines...))
		wantDesk(t, got, ok, after, "RunDesk", lines)
		wantPair(t, text, ok, outputs, true, "outputs of RunDesk", lines)
	}
	wantEqual(t, len(counts), 23, "names of lines that are carried out")
	for name, count := range counts {
		wantTrue(t, count >= 20, "lines that are carried out", name, count)
	}
}

// Promise 9: each line of a script has an output, and an empty one has none.
func TestRunDesk(t *testing.T) {
	flipped := withSheet(sheet(2, 2, 0, 0, 0, 0, 2, 0, 4, 0, 0, 4, 2, 0))
	for _, c := range []struct {
		script, outputs string
		after           impl.Desk
	}{
		{"", "", freshDesk()}, {"\n", "what\n", freshDesk()}, {"\n\n\n", "what\nwhat\nwhat\n", freshDesk()}, {"turn\n", "ok\n", flipped}, {"turn\nturn\n", "ok\nok\n", freshDesk()}, {"turn\n\n", "ok\nwhat\n", flipped},
		{"\nturn\n", "what\nok\n", flipped}, {"turn\r\n", "what\n", freshDesk()}, {" turn\n", "what\n", freshDesk()}, {"at 3f000000\ncubic\nbasis 00000000\n", "3f8000003f000000\n6\n3f800000,00000000,00000000,00000000\n", withRing(1+0.5i, 2, 3.5+0.5i, 4+2i, 3.5+3i, 2+2i)},
		{"at 3f000000\nring none\nback\nat 3e800000\nwhat\nat \n", "3f8000003f000000\nno\nok\n3fc000003ec00000\nwhat\nno\n", withCurve(plain(2, 1+1i, 0))},
		{"\x00\n\xff\n\xe9 \n", "what\nwhat\nwhat\n", freshDesk()},
	} {
		got, text, ok := impl.RunDesk(freshDesk(), c.script)
		wantDesk(t, got, ok, c.after, "RunDesk", c.script)
		wantPair(t, text, ok, c.outputs, true, "outputs of RunDesk", c.script)
	}
	for _, s := range []string{"turn", "turn\nturn", "\n ", " ", "\nx", "turn\r", "turn\n\x00", "turn\x00"} {
		got, text, ok := impl.RunDesk(freshDesk(), s)
		wantNoDesk(t, got, ok, "RunDesk", s)
		wantEqual(t, text, "", "outputs of RunDesk", s)
	}
	for _, d := range notDesks() {
		for _, s := range []string{"", "\n", "turn\n", "ring " + hexOfPoints(0, 1) + "\n"} {
			got, text, ok := impl.RunDesk(d, s)
			wantNoDesk(t, got, ok, "RunDesk at no desk", s)
			wantEqual(t, text, "", "outputs of RunDesk at no desk", s)
		}
	}
}

// Promise 9: scripts of MaxScript bytes, and of one more.
func TestRunDeskReachesTheLimit(t *testing.T) {
	wantEqual(t, impl.MaxScript, 16000, "MaxScript")
	for _, c := range []struct{ script, outputs string }{
		{strings.Repeat("turn\n", 3200), strings.Repeat("ok\n", 3200)}, {strings.Repeat("\n", 16000), strings.Repeat("what\n", 16000)}, {strings.Repeat("x", 15999) + "\n", "what\n"},
		{"ring " + strings.Repeat("x", 15994) + "\n", "no\n"}, {strings.Repeat(" ", 15999) + "\n", "what\n"}, {strings.Repeat("x", 15998) + "\n", "what\n"},
		{strings.Repeat("ring\n", 3200), strings.Repeat("0000000000000000,4080000000000000,4080000040800000\n", 3200)},
	} {
		got, text, ok := impl.RunDesk(freshDesk(), c.script)
		wantDesk(t, got, ok, freshDesk(), "RunDesk of the limit", c.script[:10])
		wantTrue(t, ok && text == c.outputs, "outputs of RunDesk", c.script[:10], len(text))
		if len(c.script) == 16000 {
			for _, s := range []string{c.script + "\n", "\n" + c.script, c.script + c.script} {
				got, text, ok = impl.RunDesk(freshDesk(), s)
				wantNoDesk(t, got, ok, "RunDesk of too many bytes", s[:10])
				wantEqual(t, text, "", "outputs of RunDesk of too many bytes")
			}
		}
	}
	for _, count := range tooManyBytes() {
		got, text, ok := impl.RunDesk(freshDesk(), strings.Repeat("\n", count))
		wantNoDesk(t, got, ok, "RunDesk of too many bytes", count)
		wantEqual(t, text, "", "outputs of RunDesk of too many bytes", count)
	}
}

func wantCounts(t *testing.T, text string, wantBad, wantGood int64, wantOK bool) {
	t.Helper()
	bad, good, ok := impl.CountOutputs(text)
	if bad != wantBad || good != wantGood || ok != wantOK {
		t.Errorf("CountOutputs(%.60q): got %d %d %v, want %d %d %v", text, bad, good, ok, wantBad, wantGood, wantOK)
	}
}

// Promise 9: how many outputs are no or what.
func TestCountOutputs(t *testing.T) {
	for _, c := range []struct {
		text      string
		bad, good int64
	}{
		{"", 0, 0}, {"no\n", 1, 0}, {"what\n", 1, 0}, {"ok\n", 0, 1}, {"\n", 0, 1}, {"\n\n", 0, 2}, {"no\nwhat\nok\n6\nno\n", 3, 2}, {"ok\nno\n", 1, 1},
		{"no \n", 0, 1}, {" no\n", 0, 1}, {"No\n", 0, 1}, {"NO\nWHAT\n", 0, 2}, {"nono\n", 0, 1}, {"no no\n", 0, 1}, {"no what\n", 0, 1}, {"not\n", 0, 1}, {"n\no\n", 0, 2}, {"no\r\n", 0, 1}, {"what\x00\n", 0, 1}, {"\xff\n", 0, 1}, {"none\n", 0, 1}, {"no\n\nwhat\n", 2, 1},
		{strings.Repeat("no\n", 5333) + "\n", 5333, 1}, {strings.Repeat("what\n", 3200), 3200, 0}, {strings.Repeat("\n", 16000), 0, 16000}, {strings.Repeat("x", 15999) + "\n", 0, 1}, {strings.Repeat("ok\nno\n", 2666) + "no\n\n", 2667, 2667},
	} {
		wantCounts(t, c.text, c.bad, c.good, true)
		without := strings.TrimSuffix(c.text, "\n")
		if without != "" && !strings.HasSuffix(without, "\n") {
			wantCounts(t, without, 0, 0, false)
		}
	}
	for _, text := range []string{
		"no", "what", "ok", " ", "no\nwhat", "no\n ", "\nno", "no\n\r", "\n\x00", strings.Repeat("x", 16000), strings.Repeat("what\n", 3200) + "\n", strings.Repeat("\n", 16001), "\n" + strings.Repeat("what\n", 3200), strings.Repeat("no\n", 1<<18),
	} {
		wantCounts(t, text, 0, 0, false)
	}
	// The outputs of a script: lines that change nothing, and others.
	s := newSource()
	for range 100 {
		lines := s.deskLines(s.below(12))
		_, text, ok := impl.RunDesk(s.desk(), script(lines...))
		wantTrue(t, ok, "RunDesk", lines)
		outputs := strings.Split(text, "\n")
		wantEqual(t, len(outputs), len(lines)+1, "outputs of RunDesk", lines)
		others := slices.DeleteFunc(outputs[:len(lines)], func(output string) bool { return output == "no" || output == "what" })
		wantCounts(t, text, int64(len(lines)-len(others)), int64(len(others)), true)
	}
}
