package tests

import (
	"strings"
	"testing"

	"loop.example/g01328/impl"
)

// Promise 9: the texts of curves.
func TestCurveText(t *testing.T) {
	quarter := impl.Curve{Points: []complex64{1, 1 + 1i, 1i}, Weights: []float32{1, 0.70710677, 1}}
	for _, c := range []struct {
		of   impl.Curve
		text string
	}{
		{arch(), "0000000000000000,3f8000003f800000,4000000000000000;3f800000,3f800000,3f800000"},
		{quarter, "3f80000000000000,3f8000003f800000,000000003f800000;3f800000,3f3504f3,3f800000"},
		{plain(complex(negZero, -2), complex(leastNumber, mostNumber)), "80000000c0000000,000000017f7fffff;3f800000,3f800000"},
		{impl.Curve{Points: []complex64{0.1, -0.1}, Weights: []float32{leastNumber, mostNumber}}, "3dcccccd00000000,bdcccccd00000000;00000001,7f7fffff"},
		{plain(repeated[complex64](1i, 8)...), strings.Repeat("000000003f800000,", 7) + "000000003f800000;" + strings.Repeat("3f800000,", 7) + "3f800000"},
	} {
		text, ok := impl.CurveText(c.of)
		wantPair(t, text, ok, c.text, true, "CurveText", c.of)
		got, ok := impl.ReadCurve(c.text)
		wantCurve(t, got, ok, c.of, "ReadCurve", c.text)
	}
	for _, c := range notCurves() {
		text, ok := impl.CurveText(c)
		wantPair(t, text, ok, "", false, "CurveText", c)
		got, ok := impl.ReadCurve(textOfCurve(c))
		wantNoCurve(t, got, ok, "ReadCurve", textOfCurve(c))
	}
}

// Promise 9: the texts of splines.
func TestSplineText(t *testing.T) {
	for _, c := range []struct {
		of   impl.Spline
		text string
	}{
		{freshDesk().Spline, "2;00000000,00000000,00000000,3f800000,40000000,40000000,40000000;0000000000000000,3f80000000000000,4000000000000000,4040000000000000"},
		{evenOf(1, -1i, 0.5), "1;00000000,00000000,3f800000,3f800000;00000000bf800000,3f00000000000000"},
		{impl.Spline{Degree: 1, Knots: []float32{negZero, 0, leastNumber, 1, 1}, Points: []complex64{1, 2, complex(3, negZero)}}, "1;80000000,00000000,00000001,3f800000,3f800000;3f80000000000000,4000000000000000,4040000080000000"},
		{evenOf(5, repeated[complex64](0, 6)...), "5;" + strings.Repeat("00000000,", 6) + strings.Repeat("3f800000,", 5) + "3f800000;" + strings.Repeat("0000000000000000,", 5) + "0000000000000000"},
	} {
		text, ok := impl.SplineText(c.of)
		wantPair(t, text, ok, c.text, true, "SplineText", c.of)
		got, ok := impl.ReadSpline(c.text)
		wantSpline(t, got, ok, c.of, "ReadSpline", c.text)
	}
	for _, s := range append(notSplines(), evenOf(6, line(7)...), evenOf(3, line(25)...), evenOf(2, line(2)...)) {
		text, ok := impl.SplineText(s)
		wantPair(t, text, ok, "", false, "SplineText", s)
		got, ok := impl.ReadSpline(textOfSpline(s))
		wantNoSpline(t, got, ok, "ReadSpline", textOfSpline(s))
	}
}

// Promise 9: the texts of sheets.
func TestSheetText(t *testing.T) {
	for _, c := range []struct {
		of   impl.Sheet
		text string
	}{
		{floor(), "2,2;00000000,00000000,00000000,40800000,00000000,00000000,00000000,40000000,00000000,40800000,40000000,00000000"},
		{sheet(3, 2, 1, 2, 3, 4, 5, 6, 7, 8, 9, negZero, leastNumber, mostNumber, 0, 0, 0, -1, -2, -3), "3,2;3f800000,40000000,40400000,40800000,40a00000,40c00000,40e00000,41000000,41100000,80000000,00000001,7f7fffff,00000000,00000000,00000000,bf800000,c0000000,c0400000"},
		{impl.Sheet{Across: 2, Along: 6, Spots: repeated(spot(1, 0, 2), 12)}, "2,6;" + strings.Repeat("3f800000,00000000,40000000,", 11) + "3f800000,00000000,40000000"},
		{impl.Sheet{Across: 6, Along: 6, Spots: repeated(spot(0, 0, 1), 36)}, "6,6;" + strings.Repeat("00000000,00000000,3f800000,", 35) + "00000000,00000000,3f800000"},
	} {
		text, ok := impl.SheetText(c.of)
		wantPair(t, text, ok, c.text, true, "SheetText", c.of)
		got, ok := impl.ReadSheet(c.text)
		wantSheet(t, got, ok, c.of, "ReadSheet", c.text)
	}
	for _, s := range notSheets() {
		text, ok := impl.SheetText(s)
		wantPair(t, text, ok, "", false, "SheetText", s)
		got, ok := impl.ReadSheet(textOfSheet(s))
		wantNoSheet(t, got, ok, "ReadSheet", textOfSheet(s))
	}
}

// Promise 9: what is stored as a text is read back to the last bit.
func TestTextsOfDesksAreReadBack(t *testing.T) {
	s := newSource()
	desks := someDesks()
	for range 200 {
		desks = append(desks, s.desk())
	}
	for _, d := range desks {
		text, ok := impl.CurveText(d.Curve)
		wantPair(t, text, ok, textOfCurve(d.Curve), true, "CurveText", d.Curve)
		curve, ok := impl.ReadCurve(text)
		wantCurve(t, curve, ok, d.Curve, "ReadCurve", text)
		text, ok = impl.SplineText(d.Spline)
		wantPair(t, text, ok, textOfSpline(d.Spline), true, "SplineText", d.Spline)
		spline, ok := impl.ReadSpline(text)
		wantSpline(t, spline, ok, d.Spline, "ReadSpline", text)
		text, ok = impl.SheetText(d.Sheet)
		wantPair(t, text, ok, textOfSheet(d.Sheet), true, "SheetText", d.Sheet)
		sheet, ok := impl.ReadSheet(text)
		wantSheet(t, sheet, ok, d.Sheet, "ReadSheet", text)
	}
}

// Promise 9: of texts that are nearly those of something, only those are read that are the text of something else.
func TestNearlyTexts(t *testing.T) {
	for _, d := range someDesks() {
		if len(d.Ring) == 128 {
			continue
		}
		for _, text := range nearlyText(textOfCurve(d.Curve)) {
			got, ok := impl.ReadCurve(text)
			if ok {
				wantEqual(t, textOfCurve(got), text, "text of ReadCurve")
			} else {
				wantNoCurve(t, got, ok, "ReadCurve", text)
			}
		}
		for _, text := range nearlyText(textOfSpline(d.Spline)) {
			got, ok := impl.ReadSpline(text)
			if ok {
				wantEqual(t, textOfSpline(got), text, "text of ReadSpline")
			} else {
				wantNoSpline(t, got, ok, "ReadSpline", text)
			}
		}
		for _, text := range nearlyText(textOfSheet(d.Sheet)) {
			got, ok := impl.ReadSheet(text)
			if ok {
				wantEqual(t, textOfSheet(got), text, "text of ReadSheet")
			} else {
				wantNoSheet(t, got, ok, "ReadSheet", text)
			}
		}
	}
}

// Promise 9: texts with too many or too few words, in another order, or with another number in place of one.
func TestWrongTexts(t *testing.T) {
	points, ones := "0000000000000000,3f80000000000000", "3f800000,3f800000"
	knots := "00000000,00000000,3f800000,3f800000"
	spots := "00000000,00000000,00000000,40800000,00000000,00000000,00000000,40000000,00000000,40800000,40000000,00000000"
	for _, text := range []string{
		"", ";", ";;", "none", "none;none", "none;", ";none", points, points + ";", ";" + ones, ones + ";" + points, points + ";" + points, ones + ";" + ones, points + "," + ones,
		points + ";" + ones + ";", points + ";" + ones + ";none", ";" + points + ";" + ones, points + ";;" + ones, points + " ;" + ones, points + "; " + ones, points + ";" + ones + "\n",
		points + ";3f800000", points + ";" + ones + ",3f800000", points + ";none", "none;" + ones, points + ";3f800000,00000000", points + ";3f800000,80000000", points + ";bf800000,3f800000",
		points + ";7f800000,3f800000", points + ";7fc00000,3f800000", points + ";7f800001,3f800000", "7f80000000000000,3f80000000000000;" + ones, "000000007fc00000,3f80000000000000;" + ones,
		strings.ToUpper(points + ";" + ones), strings.Repeat(";", 1<<16), strings.Repeat(points+",", 1000) + points + ";" + ones,
	} {
		got, ok := impl.ReadCurve(text)
		wantNoCurve(t, got, ok, "ReadCurve", text)
	}
	for _, text := range []string{
		"", ";;", "none;none;none", "1;none;none", "1;" + knots, knots + ";" + points, "1;" + points + ";" + knots, knots + ";1;" + points, "1;" + knots + ";" + points + ";", ";" + knots + ";" + points,
		"0;" + knots + ";" + points, "2;" + knots + ";" + points, "-1;" + knots + ";" + points, "01;" + knots + ";" + points, "+1;" + knots + ";" + points, " 1;" + knots + ";" + points, "1,1;" + knots + ";" + points,
		"3f800000;" + knots + ";" + points, "1.0;" + knots + ";" + points, "1000000000000001;" + knots + ";" + points, "1;" + knots + ",3f800000;" + points, "1;00000000,3f800000,3f800000;" + points,
		"1;" + knots + ";" + points + ",3f80000000000000", "1;" + knots + ";3f80000000000000", "1;00000000,00000000,3f800000,7f800000;" + points, "1;00000000,00000000,00000000,00000000;" + points,
		"1;" + knots + ";0000000000000000,ff80000000000000", "1;" + knots + ";" + ones, strings.Repeat("1;", 1<<16), "6" + textOfSpline(whole())[1:], "4" + textOfSpline(whole())[1:],
	} {
		got, ok := impl.ReadSpline(text)
		wantNoSpline(t, got, ok, "ReadSpline", text)
	}
	for _, text := range []string{
		"", ";", "2,2", "2,2;", ";" + spots, "2,2;none", "none;none", "none;" + spots, "2;" + spots, "4;" + spots, "2,2,1;" + spots, "2,2,2;" + spots, "1,4;" + spots, "4,1;" + spots, "2,3;" + spots, "3,2;" + spots, "-2,-2;" + spots,
		"02,2;" + spots, "2,+2;" + spots, "2, 2;" + spots, "2;2;" + spots, spots + ";2,2", "2,2;" + spots + ";", "2,2;" + spots + ",00000000", "2,2;" + spots + ",00000000,00000000", "2,2;" + spots + ",00000000,00000000,00000000",
		"2,2;" + spots[9:], "2,2;" + spots[18:], "2,2;" + spots[27:], "2,2;7f800000" + spots[8:], "2,2;" + spots[:len(spots)-8] + "7fc00000", "2,2;" + points + "," + points + "," + points,
		"1000000000000000,1000000000000000;" + spots, "1000000000000000,1000000000000000;none", "1000000000000001,2;" + spots, "2,2;3f800000", "2,2;3f800000,3f800000", "0,0;none", "0,2;none",
		"7,2;" + strings.Repeat("00000000,", 41) + "00000000", "2,7;" + strings.Repeat("00000000,", 41) + "00000000", "9,9;" + strings.Repeat("00000000,", 242) + "00000000", strings.Repeat("2,", 1<<16) + "2;" + spots,
	} {
		got, ok := impl.ReadSheet(text)
		wantNoSheet(t, got, ok, "ReadSheet", text)
	}
}
