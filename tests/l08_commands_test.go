package tests

import (
	"strings"
	"testing"

	"loop.example/g01328/impl"
)

// carried is a line at a desk, what it outputs, and the desk behind it.
type carried struct {
	line, output string
	after        impl.Desk
}

// withCurve, withSpline, withSheet and withRing are the new desk with another part.
func withCurve(c impl.Curve) impl.Desk {
	d := freshDesk()
	d.Curve = c
	return d
}

func withSpline(s impl.Spline) impl.Desk {
	d := freshDesk()
	d.Spline = s
	return d
}

func withSheet(s impl.Sheet) impl.Desk {
	d := freshDesk()
	d.Sheet = s
	return d
}

func withRing(ring ...complex64) impl.Desk {
	d := freshDesk()
	d.Ring = ring
	return d
}

func wantCarried(t *testing.T, d impl.Desk, line, output string, after impl.Desk) {
	t.Helper()
	got, text, ok := impl.DeskCommand(d, line)
	wantDesk(t, got, ok, after, "desk after", line)
	wantPair(t, text, ok, output, true, "output of", line)
}

// Promise 9: the chapter's examples, and what the lines tell that change nothing, worked out by hand.
func TestLinesThatTell(t *testing.T) {
	for line, output := range map[string]string{
		"at 3f000000": "3f8000003f000000", "at 00000000": "0000000000000000", "at 80000000": "0000000000000000", "at 3f800000": "4000000000000000", "at 3e800000": "3f0000003ec00000",
		"slope 3f000000": "4000000000000000", "slope 00000000": "4000000040000000", "slope 3f800000": "40000000c0000000",
		"points 2": "0000000000000000,4000000000000000", "points 3": "0000000000000000,3f8000003f000000,4000000000000000",
		"along 3f800000": "3fc0000000000000", "along 00000000": "0000000000000000", "along 40000000": "4040000000000000",
		"run 3f800000": "3f80000000000000", "run 00000000": "4000000000000000",
		"basis 00000000": "3f800000,00000000,00000000,00000000", "basis 3f800000": "00000000,3f000000,3f000000,00000000", "basis 40000000": "00000000,00000000,00000000,3f800000",
		"spot 3f000000 3f000000": "40000000,3f800000,00000000", "spot 00000000 3f800000": "00000000,40000000,00000000", "spot 3f800000 00000000": "40800000,00000000,00000000", "spot 3e800000 3f000000": "3f800000,3f800000,00000000",
		"normal 3f000000 3f000000": "00000000,00000000,3f800000", "limit 0": "3faaaaab3f2aaaab", "limit 1": "405555553f2aaaab",
		"curve":  "0000000000000000,3f8000003f800000,4000000000000000;3f800000,3f800000,3f800000",
		"spline": "2;00000000,00000000,00000000,3f800000,40000000,40000000,40000000;0000000000000000,3f80000000000000,4000000000000000,4040000000000000",
		"sheet":  "2,2;00000000,00000000,00000000,40800000,00000000,00000000,00000000,40000000,00000000,40800000,40000000,00000000",
		"ring":   "0000000000000000,4080000000000000,4080000040800000",
		// A line that could change the ring leaves it as it is.
		"round 00000000 0": "3",
	} {
		wantCarried(t, freshDesk(), line, output, freshDesk())
	}
	// The first number leads along a row, and the second one from row to row.
	wantCarried(t, withSheet(roof()), "spot 3f800000 00000000", "40800000,00000000,00000000", withSheet(roof()))
	wantCarried(t, withSheet(roof()), "spot 3f000000 00000000", "40000000,00000000,40000000", withSheet(roof()))
	wantCarried(t, withSheet(roof()), "spot 00000000 3f800000", "00000000,41000000,3f800000", withSheet(roof()))
	for _, d := range someDesks() {
		wantCarried(t, d, "curve", textOfCurve(d.Curve), d)
		wantCarried(t, d, "spline", textOfSpline(d.Spline), d)
		wantCarried(t, d, "sheet", textOfSheet(d.Sheet), d)
		wantCarried(t, d, "ring", hexOfPoints(d.Ring...), d)
	}
}

// Promise 9: lines that change a part, and no other one, worked out by hand.
func TestLinesThatChange(t *testing.T) {
	quarter := impl.Curve{Points: []complex64{1, 1 + 1i, 1i}, Weights: []float32{1, 0.70710677, 1}}
	flipped := sheet(2, 2, 0, 0, 0, 0, 2, 0, 4, 0, 0, 4, 2, 0)
	knots := []float32{0, 0, 0, 1, 1, 2, 2, 2}
	for _, c := range []carried{
		{"curve 3f80000000000000,3f8000003f800000,000000003f800000;3f800000,3f3504f3,3f800000", "ok", withCurve(quarter)},
		{"curve " + textOfCurve(mostDesk().Curve), "ok", withCurve(mostDesk().Curve)},
		{"curve " + textOfCurve(arch()), "ok", freshDesk()},
		{"spline 1;00000000,00000000,3f800000,3f800000;00000000bf800000,3f00000000000000", "ok", withSpline(evenOf(1, -1i, 0.5))},
		{"spline " + textOfSpline(mostDesk().Spline), "ok", withSpline(mostDesk().Spline)},
		{"sheet " + textOfSheet(roof()), "ok", withSheet(roof())}, {"sheet " + textOfSheet(mostDesk().Sheet), "ok", withSheet(mostDesk().Sheet)},
		{"ring 3f80000000000000,0000000040000000", "ok", withRing(1, 2i)}, {"ring " + hexOfPoints(line(128)...), "ok", withRing(line(128)...)},
		{"part 00000000 3f000000", "ok", withCurve(plain(0, 0.5+0.5i, 1+0.5i))}, {"part 3f000000 3f800000", "ok", withCurve(plain(1+0.5i, 1.5+0.5i, 2))},
		{"part 00000000 3f800000", "ok", freshDesk()}, {"part 80000000 3f800000", "ok", freshDesk()}, {"back", "ok", withCurve(plain(2, 1+1i, 0))},
		{"knot 3f800000", "ok", withSpline(impl.Spline{Degree: 2, Knots: knots, Points: []complex64{0, 1, 1.5, 2, 3}})},
		{"corner 1 000000003f800000", "ok", withSpline(evenOf(2, 0, 1i, 2, 3))}, {"corner 3 40e0000080000000", "ok", withSpline(evenOf(2, 0, 1, 2, complex(7, negZero)))},
		{"turn", "ok", withSheet(flipped)}, {"cubic", "6", withRing(1+0.5i, 2, 3.5+0.5i, 4+2i, 3.5+3i, 2+2i)},
		{"round 3e800000 1", "6", withRing(1, 3, 4+1i, 4+3i, 3+3i, 1+1i)}, {"round 3f000000 1", "6", withRing(2, 2, 4+2i, 4+2i, 2+2i, 2+2i)}, {"round 00000000 1", "6", withRing(0, 4, 4, 4+4i, 4+4i, 0)},
	} {
		wantCarried(t, freshDesk(), c.line, c.output, c.after)
	}
	raised, _ := impl.RaiseCurve(arch())
	wantCarried(t, freshDesk(), "raise", "ok", withCurve(raised))
	turned := impl.Sheet{Across: 2, Along: 3, Spots: spots(0, 0, 0, 0, 8, 1, 2, 0, 4, 2, 8, 5, 4, 0, 0, 4, 8, 1)}
	wantCarried(t, withSheet(roof()), "turn", "ok", withSheet(turned))
	wantCarried(t, withSheet(flipped), "normal 3f000000 3f000000", "00000000,00000000,bf800000", withSheet(flipped))
}

// someLines have a number in place of the words of commands: X for a number, N for an integer, Z for a point, T for a text.
func someLines() []string {
	return []string{
		"curve T", "spline T", "sheet T", "ring T", "curve", "spline", "sheet", "ring", "at X", "slope X", "part X X", "raise", "back", "points N", "along X", "run X", "basis X", "knot X",
		"corner N Z", "spot X X", "normal X X", "turn", "round X N", "cubic", "limit N",
	}
}

// withWords puts words that are right for the new desk into a line, and another one in place of the word with an index.
func withWords(form string, index int, other string) string {
	words := strings.Split(form, " ")
	for i, word := range words[1:] {
		switch word {
		case "T":
			words[i+1] = map[string]string{"curve": textOfCurve(bowl()), "spline": textOfSpline(chain()), "sheet": textOfSheet(roof()), "ring": hexOfPoints(square()...)}[words[0]]
		case "X":
			words[i+1] = hexOf(float32(i+1) / 2)
			if words[0] == "round" {
				words[i+1] = hexOf(0.25)
			}
		case "N":
			words[i+1] = "2"
		case "Z":
			words[i+1] = hexOfPoints(7)
		}
		if i == index {
			words[i+1] = other
		}
	}
	return strings.Join(words, " ")
}

// Promise 9: lines of no form are answered with what, and change nothing.
func TestLinesOfNoForm(t *testing.T) {
	lines := []string{
		"", " ", "  ", "   ", "\n", "\t", "\r", "\x00", "\xff", "none", "ok", "no", "what", "0", "desk", "turn\n", "\nturn", "turn\r", "turn\x00", "turn\xff", "cubic\t", "tur", "turns", "Turn", "TURN", "curve,", "curve;", "curve\t" + textOfCurve(arch()),
		"curve\u00a0" + textOfCurve(arch()), "at\n3f000000", "ringring", "cu rve", textOfCurve(arch()), strings.Repeat(" ", 1<<20), strings.Repeat("turn ", 1<<18), strings.Repeat("x", 1<<20),
	}
	for _, form := range someLines() {
		line := withWords(form, -1, "")
		got, output, ok := impl.DeskCommand(freshDesk(), line)
		wantTrue(t, ok && output != "no" && output != "what", "DeskCommand", line, output)
		wantTrue(t, impl.ValidDesk(got), "ValidDesk after", line)
		count := strings.Count(form, " ")
		lines = append(lines, " "+line, strings.ToUpper(form[:1])+line[1:], line+" 3f000000 3f000000 3f000000", strings.Replace(line, " ", "\t", 1)+"x")
		// Most names have a single form, and so a word more or less is none.
		if strings.Contains(" curve spline sheet ring ", " "+strings.Fields(form)[0]+" ") && count == 0 {
			lines = append(lines, line+" x y", line+"  ", line+"   ")
			continue
		}
		lines = append(lines, line+" ", line+"  ", line+" 3f000000", line+" 2", line+" x")
		if count > 0 && !strings.HasSuffix(form, "T") {
			lines = append(lines, line[:strings.LastIndex(line, " ")])
		}
		if count == 2 {
			lines = append(lines, strings.Fields(line)[0])
		}
	}
	for _, line := range lines {
		wantCarried(t, freshDesk(), line, "what", freshDesk())
	}
}

// Promise 9: lines with a word that is not what it must be are answered with no, and change nothing.
func TestLinesWithWrongWords(t *testing.T) {
	var lines []string
	for _, form := range someLines() {
		for i, kind := range strings.Split(form, " ")[1:] {
			var others []string
			switch kind {
			case "T":
				others = []string{"", "none", "none;none", "x", "0", ";", ";;", "\n", "3f000000", "2,2;none", hexOfPoints(1), textOfCurve(plain(1)), hexOfPoints(line(129)...), hexOfPoints(0, complex(infinity, 1)), hexOfPoints(0, complex(1, notNum)), strings.Repeat("3f80000000000000,", 300) + "3f80000000000000"}
				for _, part := range []string{textOfCurve(arch()), textOfSpline(twice()), textOfSheet(floor()), hexOfPoints(angle()...)} {
					others = append(others, part+"\n", part+";", ","+part, part[1:], part[:len(part)-1], strings.Replace(part, "0", "O", 1))
				}
			case "X":
				others = append(notNumberWords(), hexOf(-1), hexOf(2.0000002), hexOf(4), hexOf(-leastNumber), hexOf(mostNumber), hexOf(infinity), hexOf(-infinity), hexOf(notNum))
			case "N":
				others = append(notCounts(), "-1", "25", "128", "1000000000000000", "-1000000000000000")
			case "Z":
				others = []string{
					"", "none", "0", "1", "i", "3f800000", "3f80000000000000,", ",3f80000000000000", "3f80000000000000,3f80000000000000", "3f8000000000000", "3f800000000000000", "3F80000000000000", "3f80000000000000\n",
					"3f800000,00000000", hexOfPoints(complex(infinity, 0)), hexOfPoints(complex(0, -infinity)), hexOfPoints(complex(notNum, 0)), "000000007fc00001", "7f80000100000000", strings.Repeat("0", 1<<16),
				}
			}
			for _, other := range others {
				lines = append(lines, withWords(form, i, other))
			}
		}
	}
	wantTrue(t, len(lines) > 500, "lines", len(lines))
	for _, line := range lines {
		wantCarried(t, freshDesk(), line, "no", freshDesk())
	}
}

// Promise 9: lines with right words for which there is no result are answered with no, and change nothing.
func TestLinesThatFail(t *testing.T) {
	most := mostDesk()
	wide := withCurve(plain(-farPoint, farPoint))
	for line, d := range map[string]impl.Desk{
		// Times that are too late, in the wrong order, or not between knots.
		"at 3f800001": freshDesk(), "slope 3f800001": freshDesk(), "part 3f000000 3f000000": freshDesk(), "part 3f800000 00000000": freshDesk(), "part 00000000 00000000": freshDesk(), "part 00000000 80000000": freshDesk(), "part 00000000 3f800001": freshDesk(),
		"along 40000001": freshDesk(), "run 40000001": freshDesk(), "basis 40000001": freshDesk(), "knot 00000000": freshDesk(), "knot 80000000": freshDesk(), "knot 40000000": freshDesk(), "knot 3e99999a": withSpline(twice()),
		"spot 3f800001 00000000": freshDesk(), "spot 00000000 3f800001": freshDesk(), "normal 3f800001 00000000": freshDesk(), "normal 00000000 3f800001": freshDesk(), "normal 3f000000 3f000000": withSheet(folded(spot(1, 2, 3))),
		// Counts and indices that are one too small or too great.
		"points 1": freshDesk(), "points 25": freshDesk(), "points 0": freshDesk(), "points -2": freshDesk(), "corner 4 3f80000000000000": freshDesk(), "corner -1 3f80000000000000": freshDesk(), "limit 3": freshDesk(), "limit -1": freshDesk(),
		"round 3e800000 7": withRing(0, 1), "round 3e800000 -1": freshDesk(), "round 3e800000 6": freshDesk(), "round 3f000001 0": freshDesk(), "round bf000000 1": freshDesk(), "round 80000001 1": freshDesk(),
		"round 3e800000 1": withRing(line(65)...), "cubic": withRing(line(65)...), "raise": most, "knot 3f000000": most, "corner 24 3f80000000000000": most, "limit 128": most,
		// Results that are too great for numbers.
		"slope 00000000": wide, "slope 3f000000": wide, "run 00000000": withSpline(evenOf(1, -farPoint, farPoint)), "limit 0": withRing(farPoint, farPoint), "limit 2": withRing(0, 1),
		"normal 00000000 00000000": withSheet(oddDesk().Sheet), "at 00000000": withCurve(tooFar()), "points 2": withCurve(tooFar()), "part 3f000000 3f800000": withCurve(tooLight()), "at 3f000000": withCurve(tooLight()),
	} {
		wantCarried(t, d, line, "no", d)
	}
	// What has been read, or made, but is not valid is not put on the desk.
	for _, line := range []string{"ring none", "ring 3f80000000000000", "ring 3f80000000000000,7f80000000000000", "ring 7fc0000000000000,3f80000000000000", "ring " + hexOfPoints(line(129)...), "ring " + hexOfPoints(line(256)...), "ring " + hexOfPoints(line(257)...)} {
		wantCarried(t, freshDesk(), line, "no", freshDesk())
		wantCarried(t, mostDesk(), line, "no", mostDesk())
	}
	wantCarried(t, withRing(farPoint, -farPoint), "round 3e800000 1", "no", withRing(farPoint, -farPoint))
	wantCarried(t, withRing(farPoint, farPoint), "cubic", "no", withRing(farPoint, farPoint))
}

// Promise 9: each limit is reached exactly.
func TestLinesReachLimits(t *testing.T) {
	for _, c := range []struct {
		d            impl.Desk
		line, output string
	}{
		{withRing(line(64)...), "cubic", "128"}, {withRing(line(64)...), "round 3e800000 1", "128"}, {withRing(line(2)...), "round 3e800000 6", "128"}, {withRing(line(2)...), "round 00000000 0", "2"}, {mostDesk(), "round 00000000 0", "128"},
		{withRing(angle()...), "round 3f000000 5", "96"},
	} {
		d, output, ok := impl.DeskCommand(c.d, c.line)
		wantPair(t, output, ok, c.output, true, "output of", c.line)
		text, ok := impl.ComplexText(d.Ring)
		wantCarried(t, d, "ring", text, d)
		wantTrue(t, ok && impl.Decimal(int64(len(d.Ring))) == output, "points of Ring", len(d.Ring), output)
	}
	// A curve is raised up to the degree 7, and knots are put in up to 24 points.
	d := impl.NewDesk()
	for degree := 3; degree <= 8; degree++ {
		next, output, ok := impl.DeskCommand(d, "raise")
		if degree == 8 {
			wantPair(t, output, ok, "no", true, "raise once more")
			wantDesk(t, next, ok, d, "raise once more")
			break
		}
		wantPair(t, output, ok, "ok", true, "raise to", degree)
		wantEqual(t, len(next.Curve.Points), degree+1, "points of Curve")
		d = next
	}
	for count := 5; count <= 25; count++ {
		next, output, ok := impl.DeskCommand(d, "knot "+hexOf(float32(count)/32))
		if count == 25 {
			wantPair(t, output, ok, "no", true, "knot once more")
			wantDesk(t, next, ok, d, "knot once more")
			break
		}
		wantPair(t, output, ok, "ok", true, "knot", count)
		wantEqual(t, len(next.Spline.Points), count, "points of Spline")
		d = next
	}
	_, output, ok := impl.DeskCommand(d, "points 24")
	wantPair(t, output, ok, pointsText(t, d.Curve, 24), true, "points 24")
}

func pointsText(t *testing.T, c impl.Curve, count int64) string {
	t.Helper()
	points, ok := impl.PointsOn(c, count)
	wantTrue(t, ok, "PointsOn", count)
	return hexOfPoints(points...)
}

// Promise 9: no line is carried out at a desk that is not valid.
func TestLinesAtNoDesk(t *testing.T) {
	for _, d := range notDesks() {
		for _, line := range []string{"", "what", "turn", "ring", "curve", "at 3f000000", "at", "curve " + textOfCurve(arch()), "spline " + textOfSpline(twice()), "sheet " + textOfSheet(floor()), "ring " + hexOfPoints(0, 1)} {
			got, output, ok := impl.DeskCommand(d, line)
			wantNoDesk(t, got, ok, "DeskCommand at no desk", line)
			wantEqual(t, output, "", "output at no desk", line)
		}
	}
}
