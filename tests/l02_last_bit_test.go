package tests

import (
	"testing"

	"loop.example/g01328/impl"
)

const manyCurves = 3000

func wordOf(ok bool) uint32 {
	if ok {
		return 1
	}
	return 0
}

func numberWords(numbers []float32, ok bool) []uint32 {
	words := []uint32{wordOf(ok)}
	for _, x := range numbers {
		words = append(words, bitsOf(x))
	}
	return words
}

func pointWords(points []complex64, ok bool) []uint32 {
	words := []uint32{wordOf(ok)}
	for _, point := range points {
		words = append(words, bitsOf(real(point)), bitsOf(imag(point)))
	}
	return words
}

func onePointWords(point complex64, ok bool) []uint32 {
	return pointWords([]complex64{point}, ok)
}

func curveWords(c impl.Curve, ok bool) []uint32 {
	return append(pointWords(c.Points, ok), numberWords(c.Weights, ok)...)
}

func splineWords(s impl.Spline, ok bool) []uint32 {
	return append(pointWords(s.Points, ok), numberWords(s.Knots, ok)...)
}

// Promises 1 and 3: curves and splines are told to the last bit.
// The fingerprints were computed from the document's text by another program, in another language.
func TestCurvesToTheLastBit(t *testing.T) {
	for _, c := range []struct {
		name  string
		want  uint32
		words func(s *source) []uint32
	}{
		{"CurveAt", 2110368671, func(s *source) []uint32 { return onePointWords(impl.CurveAt(s.curve(1, 7), s.time())) }},
		{"SlopeAt", 3377463964, func(s *source) []uint32 { return onePointWords(impl.SlopeAt(s.curve(1, 7), s.time())) }},
		{"CutCurve", 1195719983, func(s *source) []uint32 {
			former, latter, ok := impl.CutCurve(s.curve(1, 7), s.time())
			return append(curveWords(former, ok), curveWords(latter, ok)...)
		}},
		{"PartOfCurve", 641632646, func(s *source) []uint32 {
			c, from := s.curve(1, 7), s.time()
			return curveWords(impl.PartOfCurve(c, from, s.time()))
		}},
		{"TurnCurve", 3787789549, func(s *source) []uint32 {
			c, turn := s.curve(1, 7), place(s.word())
			return curveWords(impl.TurnCurve(c, turn, place(s.word())))
		}},
		{"RaiseCurve", 4137346969, func(s *source) []uint32 { return curveWords(impl.RaiseCurve(s.curve(1, 7))) }},
		{"SlopeCurve", 3232591873, func(s *source) []uint32 { return curveWords(impl.SlopeCurve(plain(s.curve(1, 7).Points...))) }},
		{"SharesAt", 2930409546, func(s *source) []uint32 {
			n := int64(s.below(9))
			return numberWords(impl.SharesAt(n, s.time()))
		}},
		{"BlendCurves", 2689923986, func(s *source) []uint32 {
			a := s.curve(1, 7)
			b := s.curve(len(a.Points)-1, len(a.Points)-1)
			return curveWords(impl.BlendCurves(a, b, s.time()))
		}},
		{"PointsOn", 3819610312, func(s *source) []uint32 {
			c := s.curve(1, 7)
			return pointWords(impl.PointsOn(c, int64(s.below(26))))
		}},
		{"SplineAt", 1679496381, func(s *source) []uint32 {
			spline := s.spline(24)
			return onePointWords(impl.SplineAt(spline, s.timeOf(spline)))
		}},
		{"BasisAt", 2052093882, func(s *source) []uint32 {
			spline := s.spline(24)
			return numberWords(impl.BasisAt(spline, s.timeOf(spline)))
		}},
		{"SplineSlope", 596011043, func(s *source) []uint32 {
			spline := s.spline(24)
			return onePointWords(impl.SplineSlope(spline, s.timeOf(spline)))
		}},
		{"PutKnot", 1180371242, func(s *source) []uint32 {
			spline := s.spline(24)
			return splineWords(impl.PutKnot(spline, s.timeOf(spline)))
		}},
		{"PiecesOf", 57150209, func(s *source) []uint32 {
			pieces, ok := impl.PiecesOf(s.spline(14))
			words := []uint32{wordOf(ok)}
			for _, piece := range pieces {
				words = append(words, curveWords(piece, ok)...)
			}
			return words
		}},
	} {
		s := newSource()
		var all []uint32
		for range manyCurves {
			all = append(all, c.words(s)...)
		}
		wantEqual(t, fingerprint(all), c.want, "fingerprint of", c.name)
	}
}
