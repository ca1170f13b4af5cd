package tests

import (
	"math"
	"math/rand"
	"slices"
	"strings"
	"testing"

	"loop.example/g01328/impl"
)

// deskArguments are what all functions of chapter 8 take.
type deskArguments struct {
	desk, second impl.Desk
	lines        []string
	text         string
}

// ofDesk has the results of all functions that take a desk, or a part of one.
func ofDesk(d impl.Desk, lines []string, text string) outcome {
	var o outcome
	o.single = append(o.single, truth(impl.ValidDesk(d)))
	o.addBytes(impl.CurveText(d.Curve))
	o.addBytes(impl.SplineText(d.Spline))
	o.addBytes(impl.SheetText(d.Sheet))
	for _, l := range lines {
		after, output, ok := impl.DeskCommand(d, l)
		o.addDesk(after, ok)
		o.addBytes(output, ok)
	}
	after, outputs, ok := impl.RunDesk(d, script(lines...))
	o.addDesk(after, ok)
	o.addBytes(outputs, ok)
	after, outputs, ok = impl.RunDesk(d, text)
	o.addDesk(after, ok)
	o.addBytes(outputs, ok)
	after, count, ok := impl.RunJournal(d, text)
	o.addDesk(after, ok)
	o.addNumber(float32(count), ok)
	return o
}

// ofTexts has those of all that take texts or lines.
func ofTexts(lines []string, text string) outcome {
	var o outcome
	for _, t := range append(slices.Clone(lines), text) {
		o.addCurve(impl.ReadCurve(t))
		o.addSpline(impl.ReadSpline(t))
		o.addSheet(impl.ReadSheet(t))
	}
	bad, good, ok := impl.CountOutputs(text)
	o.addNumber(float32(bad), ok)
	o.addNumber(float32(good), ok)
	o.addBytes(impl.JournalOf(lines))
	recovered, size, ok := impl.RecoverJournal(text)
	o.addNumber(float32(size), ok)
	o.addLines(recovered, ok)
	return o
}

// ofDesks has the results of all functions of chapter 8.
func ofDesks(a deskArguments) []outcome {
	var o outcome
	o.single = append(o.single, truth(impl.SameDesk(a.desk, a.second)), truth(impl.SameDesk(a.second, a.desk)))
	o.addDesk(impl.NewDesk(), true)
	return []outcome{o, ofDesk(a.desk, a.lines, a.text), ofDesk(a.second, a.lines, a.text), ofTexts(a.lines, a.text)}
}

func (a deskArguments) copy() deskArguments {
	a.desk, a.second = copyDesk(a.desk), copyDesk(a.second)
	a.lines = slices.Clone(a.lines)
	return a
}

// roomy returns equal arguments, of which each list has room behind it, and all that is in memory.
func (a deskArguments) roomy() (deskArguments, lists) {
	var memory lists
	a = a.copy()
	for _, d := range []*impl.Desk{&a.desk, &a.second} {
		d.Curve.Points, d.Curve.Weights = withRoom(d.Curve.Points, 71, &memory.points), withRoom(d.Curve.Weights, 81, &memory.numbers)
		d.Spline.Points, d.Spline.Knots = withRoom(d.Spline.Points, 72, &memory.points), withRoom(d.Spline.Knots, 82, &memory.numbers)
		d.Sheet.Spots = withRoom(d.Sheet.Spots, spot(91, 92, 93), &memory.spots)
		d.Ring = withRoom(d.Ring, 73, &memory.points)
	}
	return a, memory
}

func (s *source) deskArguments() deskArguments {
	a := deskArguments{desk: s.desk(), lines: s.deskLines(s.below(8))}
	a.second = copyDesk(a.desk)
	if s.below(2) == 0 {
		a.second.Ring[0] = 9
	}
	texts := []string{script(a.lines...), journalOf(a.lines...), textOfCurve(a.desk.Curve), textOfSpline(a.desk.Spline), textOfSheet(a.desk.Sheet)}
	a.text = texts[s.below(len(texts))]
	return a
}

// Promise 1: nothing is modified, results are new, and equal arguments have equal results.
func TestDesksArePure(t *testing.T) {
	s := newSource()
	for range 300 {
		wantPure(t, s.deskArguments(), ofDesks)
	}
	// Each form of lines, at each of some desks.
	var lines []string
	for _, form := range someLines() {
		lines = append(lines, withWords(form, -1, ""), withWords(form, 0, "?"), form+" ?")
	}
	for _, d := range someDesks() {
		wantPure(t, deskArguments{desk: d, second: freshDesk(), lines: lines, text: journalOf(lines...)}, ofDesks)
	}
}

// Promise 1: the list of lines stays as it is, with all that is behind it, and each call returns a list of lines of its own.
func TestLinesStay(t *testing.T) {
	all := []string{"turn", "", "back", "behind", "others"}
	old := slices.Clone(all)
	journal, ok := impl.JournalOf(all[:3])
	wantPair(t, journal, ok, journalOf("turn", "", "back"), true, "JournalOf")
	wantTrue(t, slices.Equal(all, old), "lines not modified", all)
	first, _, _ := impl.RecoverJournal(journal)
	second, _, _ := impl.RecoverJournal(journal)
	clear(first[:cap(first)])
	wantTrue(t, slices.Equal(second, old[:3]), "lines of their own", second)
}

// Promise 1: each new desk is another one.
func TestNewDesksAreNew(t *testing.T) {
	first, second := impl.NewDesk(), impl.NewDesk()
	for _, d := range []impl.Desk{first, second} {
		wantDesk(t, d, true, freshDesk(), "NewDesk")
		for _, list := range [][]complex64{d.Curve.Points, d.Spline.Points, d.Ring} {
			clear(list[:cap(list)])
		}
		clear(d.Curve.Weights)
		clear(d.Spline.Knots)
		clear(d.Sheet.Spots)
	}
	wantDesk(t, impl.NewDesk(), true, freshDesk(), "NewDesk once more")
}

// wildText is seldom one that is read.
func wildText(r *rand.Rand) string {
	parts := []string{"curve", "ring", "at", "part", "round", "knot", "turn", "cubic", " ", " ", "  ", "\n", "\n", ";", ",", "none", "3f800000", "3f000000", "0000000000000000", "3f80000000000000", "7fc00000", "0", "1", "2", "2,2", "-1", "0 \n", "248 a\n", "no\n", "what\n", "\x00", "\xff", "\u00e9", strings.Repeat("x", 500), strings.Repeat("0 \n", 200)}
	text := ""
	for range r.Intn(12) {
		text += parts[r.Intn(len(parts)-2*r.Intn(2))]
	}
	if r.Intn(4) == 0 {
		bytes := make([]byte, r.Intn(40))
		r.Read(bytes)
		text += string(bytes)
	}
	if r.Intn(3) == 0 {
		text += "\n"
	}
	return text
}

// wildDesk is seldom valid.
func wildDesk(r *rand.Rand) impl.Desk {
	d := someDesks()[r.Intn(6)]
	a := wildArguments(r)
	if r.Intn(4) == 0 {
		d.Curve = a.curve
	}
	if r.Intn(4) == 0 {
		d.Spline = a.spline
	}
	if r.Intn(4) == 0 {
		sizes := []int64{2, 3, 6, 7, 0, -2, 1 << 32, math.MaxInt64, math.MinInt64}
		d.Sheet = impl.Sheet{Across: sizes[r.Intn(len(sizes))], Along: sizes[r.Intn(len(sizes))], Spots: wildSpots(r, r.Intn(10))}
	}
	if r.Intn(4) == 0 {
		d.Ring = wildPointList(r, []int{0, 1, 2, 3, 128, 129}[r.Intn(6)])
	}
	return d
}

// otherwise has other not-a-numbers in place of those that there are.
func (a deskArguments) otherwise() deskArguments {
	a = a.copy()
	for _, d := range []impl.Desk{a.desk, a.second} {
		for _, list := range [][]complex64{d.Curve.Points, d.Spline.Points, d.Ring} {
			for i := range list {
				list[i] = otherComplex(list[i])
			}
		}
		for _, list := range [][]float32{d.Curve.Weights, d.Spline.Knots} {
			for i := range list {
				list[i] = otherwise(list[i])
			}
		}
		for i := range d.Sheet.Spots {
			d.Sheet.Spots[i] = otherSpot(d.Sheet.Spots[i])
		}
	}
	return a
}

// Promise 1: functions return for any desks, lines and texts, not-a-numbers are one value, and nothing that is returned is not finite.
func TestDesksAreTotal(t *testing.T) {
	r := fixedRandom()
	for range 1500 {
		a := deskArguments{desk: wildDesk(r), second: wildDesk(r), text: wildText(r)}
		for range r.Intn(4) {
			a.lines = append(a.lines, strings.TrimSuffix(wildText(r), "\n"))
		}
		want := ofDesks(a)
		wantTrue(t, sameOutcomes(ofDesks(a.otherwise()), want), "equal arguments", a)
		for _, o := range want {
			wantFinite(t, o, "finite results of", a)
			for _, list := range o.points {
				wantTrue(t, len(list) == 0 || impl.IsRing(list), "points of", a)
			}
			for _, x := range slices.Concat(o.numbers...) {
				wantTrue(t, x-x == 0, "finite numbers of", a)
			}
		}
		after, _, ok := impl.RunDesk(a.desk, a.text)
		wantEqual(t, impl.ValidDesk(after), ok, "ValidDesk of RunDesk", a)
	}
}

// Promise 1: nil and an empty list are the same value, and functions that fail return nothing.
func TestNoDesks(t *testing.T) {
	empty := impl.Desk{Curve: impl.Curve{Points: []complex64{}, Weights: []float32{}}, Spline: impl.Spline{Knots: []float32{}, Points: []complex64{}}, Sheet: impl.Sheet{Spots: []impl.Spot{}}, Ring: []complex64{}}
	lines := []string{"", "turn", "ring " + hexOfPoints(0, 1)}
	missing := deskArguments{lines: lines, text: journalOf(lines...)}
	wantTrue(t, sameOutcomes(ofDesks(deskArguments{desk: empty, second: empty, lines: lines, text: missing.text}), ofDesks(missing)), "nil and empty lists")
	for _, d := range []impl.Desk{{}, empty, {Ring: angle()}} {
		wantNothing(t, ofDesk(d, lines, missing.text), "desks of nothing")
	}
	wantNothing(t, ofTexts([]string{"\n"}, strings.Repeat("\n", impl.MaxScript+1)), "texts of nothing")
	for _, list := range [][]string{nil, {}} {
		journal, ok := impl.JournalOf(list)
		wantPair(t, journal, ok, "", true, "JournalOf of none")
	}
}
