package tests

import (
	"testing"

	"loop.example/g01328/impl"
)

const manyFits = 500

func pieceWords(pieces []impl.Curve, ok bool) []uint32 {
	words := []uint32{wordOf(ok)}
	for _, piece := range pieces {
		words = append(words, curveWords(piece, ok)...)
	}
	return words
}

func arcWords(a impl.Arc, ok bool) []uint32 {
	return append(onePointWords(a.Middle, ok), bitsOf(a.Round), bitsOf(a.From), bitsOf(a.Turn))
}

// printsOfGraphs and printsOfPaths were computed from the document's text by another program, in another language.
func printsOfGraphs() []printed {
	return []printed{
		{"NaturalBends", 1964627194, func(s *source) []uint32 { return numberWords(impl.NaturalBends(s.graph())) }},
		{"BentAt", 2910319763, func(s *source) []uint32 {
			x, y := s.graph()
			bends := s.numbers(len(x))
			return oneWords(impl.BentAt(x, y, bends, s.placeIn(x)))
		}},
		{"SteadySlopes", 2501000189, func(s *source) []uint32 { return numberWords(impl.SteadySlopes(s.graph())) }},
		{"SteadyAt", 1254608019, func(s *source) []uint32 {
			x, y := s.graph()
			slopes := s.numbers(len(x))
			return oneWords(impl.SteadyAt(x, y, slopes, s.placeIn(x)))
		}},
		{"QuietList", 2128220330, func(s *source) []uint32 {
			list := s.numbers(s.below(51))
			return numberWords(impl.QuietList(list, 10*place(s.word())))
		}},
		{"RoughOf", 984635509, func(s *source) []uint32 { return oneWords(impl.RoughOf(s.numbers(s.below(51)))) }},
		{"ArcThrough", 2764931950, func(s *source) []uint32 {
			a, b := s.point(), s.point()
			return arcWords(impl.ArcThrough(a, b, s.point()))
		}},
		{"ArcAt", 1265393781, func(s *source) []uint32 {
			a := s.arc()
			return onePointWords(impl.ArcAt(a, place(s.word())))
		}},
		{"LongOfArc", 1688342134, func(s *source) []uint32 { return oneWords(impl.LongOfArc(s.arc())) }},
		{"SpiralPoints", 1558258240, func(s *source) []uint32 {
			start, change, long := place(s.word()), place(s.word()), place(s.word())
			points, turn, ok := impl.SpiralPoints(start, change, long, int64(s.below(259)))
			return append(pointWords(points, ok), bitsOf(turn))
		}},
	}
}

func printsOfPaths() []printed {
	return []printed{
		{"ParamsOf", 814159170, func(s *source) []uint32 {
			points := s.path()
			return numberWords(impl.ParamsOf(points, s.time()))
		}},
		{"LoosePieces", 3901636296, func(s *source) []uint32 {
			points := s.path()
			return pieceWords(impl.LoosePieces(points, place(s.word())))
		}},
		{"NaturalPieces", 2115173139, func(s *source) []uint32 { return pieceWords(impl.NaturalPieces(s.path())) }},
		{"JoinMiss", 1931033390, func(s *source) []uint32 {
			gap, turn, ok := impl.JoinMiss(s.cubics())
			return numberWords([]float32{gap, turn}, ok)
		}},
		{"FitCubic", 4251425838, func(s *source) []uint32 {
			points := s.path()
			if s.below(2) == 0 {
				points = points[:min(len(points), 4)]
			}
			start := s.point()
			curve, miss, ok := impl.FitCubic(points, start, s.point())
			return append(curveWords(curve, ok), bitsOf(miss))
		}},
		{"FitPieces", 2749690550, func(s *source) []uint32 {
			points := s.path()
			nears := [...]float32{0, 0.125, 0.5, 2}
			return pieceWords(impl.FitPieces(points, nears[s.below(4)]))
		}},
		{"RoundFit", 2069273767, func(s *source) []uint32 {
			middle, radius, ok := impl.RoundFit(s.path())
			return append(onePointWords(middle, ok), bitsOf(radius))
		}},
		{"LineFit", 3063594166, func(s *source) []uint32 {
			point, way, far, ok := impl.LineFit(s.path())
			return append(pointWords([]complex64{point, way}, ok), bitsOf(far))
		}},
		{"OffsetPath", 2857614037, func(s *source) []uint32 {
			points, by := s.path(), place(s.word())
			return pointWords(impl.OffsetPath(points, by, place(s.word())))
		}},
		{"ResamplePath", 3059314366, func(s *source) []uint32 {
			points := s.path()
			return pointWords(impl.ResamplePath(points, int64(s.below(51))))
		}},
	}
}

// Promises 1 and 6: fits are told to the last bit.
func TestFitsToTheLastBit(t *testing.T) {
	for _, c := range append(printsOfGraphs(), printsOfPaths()...) {
		s := newSource()
		var all []uint32
		for range manyFits {
			all = append(all, c.words(s)...)
		}
		wantEqual(t, fingerprint(all), c.want, "fingerprint of", c.name)
	}
}
