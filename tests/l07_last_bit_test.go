package tests

import (
	"testing"

	"loop.example/g01328/impl"
)

const manyOutlines = 500

func cellWords(cells []bool, ok bool) []uint32 {
	words := []uint32{wordOf(ok)}
	for _, cell := range cells {
		words = append(words, wordOf(cell))
	}
	return words
}

func byteWords(s string, ok bool) []uint32 {
	words := []uint32{wordOf(ok), uint32(len(s))}
	for _, b := range []byte(s) {
		words = append(words, uint32(b))
	}
	return words
}

func outlineWords(o impl.Outline, ok bool) []uint32 {
	words := append(byteWords(o.Name, ok), uint32(len(o.Loops)))
	for _, loop := range o.Loops {
		words = append(words, uint32(len(loop)))
		words = append(words, pointWords(loop, ok)[1:]...)
	}
	return words
}

func planWords(p impl.Plan, ok bool) []uint32 {
	return numberWords([]float32{p.Jerk, p.Rise, p.Hold, p.Cruise}, ok)
}

// printsOfOutlines, printsOfHulls and printsOfFiles were computed from the document's text by another program, in another language.
func printsOfOutlines() []printed {
	return []printed{
		{"OutlineArea", 3099083499, func(s *source) []uint32 { return oneWords(impl.OutlineArea(s.outline())) }},
		{"WindingOf", 1731765959, func(s *source) []uint32 {
			o := s.outline()
			times, ok := impl.WindingOf(o, s.placesOnGrid(1)[0])
			return indexWords([]int64{times}, ok)
		}},
		{"IsInside", 1356669108, func(s *source) []uint32 {
			o := s.outline()
			inside, ok := impl.IsInside(o, s.placesOnGrid(1)[0], s.below(2) == 0)
			return cellWords([]bool{inside}, ok)
		}},
		{"FillGrid", 3952978868, func(s *source) []uint32 {
			o, side := s.outline(), int64(s.below(18))
			return cellWords(impl.FillGrid(o, side, s.below(2) == 0))
		}},
		{"FillShared", 3952978868, func(s *source) []uint32 {
			o, side := s.outline(), int64(s.below(18))
			return cellWords(impl.FillShared(o, side, s.below(2) == 0, 5))
		}},
		{"CoverGrid", 2018957128, func(s *source) []uint32 {
			o, side := s.outline(), int64(s.below(18))
			return numberWords(impl.CoverGrid(o, side, s.below(2) == 0))
		}},
		{"SpansAt", 310057609, func(s *source) []uint32 {
			o := s.outline()
			return numberWords(impl.SpansAt(o, imag(s.placesOnGrid(1)[0])))
		}},
		{"MoveOutline", 3804232452, func(s *source) []uint32 {
			o := s.outline()
			return outlineWords(impl.MoveOutline(o, s.point()))
		}},
		{"BackLoops", 1408289882, func(s *source) []uint32 { return outlineWords(impl.BackLoops(s.outline())) }},
	}
}

func printsOfHulls() []printed {
	return []printed{
		{"HullOfPoints", 2994264285, func(s *source) []uint32 { return pointWords(impl.HullOfPoints(s.placesOnGrid(s.below(67)))) }},
		{"ClipLeft", 1960356716, func(s *source) []uint32 {
			loop := s.loop()
			ends := s.placesOnGrid(2)
			return pointWords(impl.ClipLeft(loop, ends[0], ends[1]))
		}},
		{"ClipBox", 1853669663, func(s *source) []uint32 {
			loop := s.loop()
			ends := s.placesOnGrid(2)
			if real(ends[0]) > real(ends[1]) {
				ends[0], ends[1] = ends[1], ends[0]
			}
			low, high := imag(ends[0]), imag(ends[1])
			return pointWords(impl.ClipBox(loop, complex(real(ends[0]), min(low, high)), complex(real(ends[1]), max(low, high))))
		}},
		{"DashPath", 3611185882, func(s *source) []uint32 {
			points, pattern := s.path(), s.pattern()
			start := float32(s.below(40)) / 2
			if s.below(2) == 0 {
				start = s.size()
			}
			dashes, ok := impl.DashPath(points, pattern, start)
			words := []uint32{wordOf(ok)}
			for _, dash := range dashes {
				words = append(words, uint32(len(dash)))
				words = append(words, pointWords(dash, ok)[1:]...)
			}
			return words
		}},
		{"RoundCorner", 2978747090, func(s *source) []uint32 {
			points := s.placesOnGrid(3)
			return arcWords(impl.RoundCorner(points[0], points[1], points[2], s.size()))
		}},
		{"SpeedPlan", 3879350912, func(s *source) []uint32 {
			longs := s.sizes(s.below(67))
			most := s.size()
			speeds, time, ok := impl.SpeedPlan(longs, most, s.size())
			return append(numberWords(speeds, ok), bitsOf(time))
		}},
		{"JerkPlan", 932675091, func(s *source) []uint32 {
			parts := s.sizes(4)
			return planWords(impl.JerkPlan(parts[0], parts[1], parts[2], parts[3]))
		}},
		{"PlanTime", 3378635566, func(s *source) []uint32 { return oneWords(impl.PlanTime(s.plan())) }},
		{"PlanWay", 774220176, func(s *source) []uint32 {
			p := s.plan()
			return oneWords(impl.PlanWay(p, s.size()))
		}},
		{"PlanWay, of JerkPlan", 832869982, func(s *source) []uint32 {
			parts := s.sizes(4)
			p, _ := impl.JerkPlan(parts[0], parts[1], parts[2], parts[3])
			time, _ := impl.PlanTime(p)
			return oneWords(impl.PlanWay(p, float32(time*s.time())))
		}},
	}
}

func printsOfFiles() []printed {
	return []printed{
		{"StoreOutline", 3889456766, func(s *source) []uint32 { return byteWords(impl.StoreOutline(s.outline())) }},
		{"LoadOutline", 2570492043, func(s *source) []uint32 { return outlineWords(impl.LoadOutline(s.bytes(1))) }},
		{"StoreOutlines", 3637239718, func(s *source) []uint32 {
			list := make([]impl.Outline, s.below(11))
			for i := range list {
				list[i] = s.outline()
			}
			return byteWords(impl.StoreOutlines(list))
		}},
		{"RecoverOutlines", 3401345585, func(s *source) []uint32 {
			list, size, ok := impl.RecoverOutlines(s.bytes(s.below(11)))
			words := []uint32{wordOf(ok), uint32(size)}
			for _, o := range list {
				words = append(words, outlineWords(o, ok)...)
			}
			return words
		}},
	}
}

// Promises 1 and 8: outlines are told to the last bit.
func TestOutlinesToTheLastBit(t *testing.T) {
	for _, c := range append(append(printsOfOutlines(), printsOfHulls()...), printsOfFiles()...) {
		s := newSource()
		var all []uint32
		for range manyOutlines {
			all = append(all, c.words(s)...)
		}
		wantEqual(t, fingerprint(all), c.want, "fingerprint of", c.name)
	}
}
