package tests

import (
	"testing"

	"loop.example/g01328/impl"
)

const manyMasks = 500

func indexWords(list []int64, ok bool) []uint32 {
	words := []uint32{wordOf(ok)}
	for _, i := range list {
		words = append(words, uint32(i))
	}
	return words
}

// netWords are those of a net, and a single one where there is none.
func netWords(n impl.Net, ok bool) []uint32 {
	words := spotWords(n.Spots, ok)
	for _, f := range n.Facets {
		words = append(words, uint32(len(f.Corners)))
		words = append(words, indexWords(f.Corners, ok)[1:]...)
	}
	return words
}

// printsOfRings and printsOfNets were computed from the document's text by another program, in another language.
func printsOfRings() []printed {
	return []printed{
		{"CutCorners", 2636343600, func(s *source) []uint32 {
			list, closed := s.ring()
			return pointWords(impl.CutCorners(list, closed, s.time()/2))
		}},
		{"CutTimes", 2117369365, func(s *source) []uint32 {
			list, closed := s.ring()
			share := s.time() / 2
			return pointWords(impl.CutTimes(list, closed, share, int64(s.below(8))))
		}},
		{"FourPoints", 694736530, func(s *source) []uint32 {
			list, closed := s.ring()
			return pointWords(impl.FourPoints(list, closed, place(s.word())))
		}},
		{"CubicOnce", 3000167497, func(s *source) []uint32 {
			list, closed := s.ring()
			return pointWords(impl.CubicOnce(list, closed, s.sharp(len(list))))
		}},
		{"LimitPoint", 3085727656, func(s *source) []uint32 {
			list, closed := s.ring()
			return onePointWords(impl.LimitPoint(list, closed, int64(s.below(len(list)+2)-1)))
		}},
		{"LimitSlope", 301525714, func(s *source) []uint32 {
			list, closed := s.ring()
			return onePointWords(impl.LimitSlope(list, closed, int64(s.below(len(list)+2)-1)))
		}},
		{"MaskOnce", 4230239226, func(s *source) []uint32 {
			list, _ := s.ring()
			even := s.mask()
			return pointWords(impl.MaskOnce(list, even, s.mask()))
		}},
		{"IsMask", 3906607546, func(s *source) []uint32 { return []uint32{wordOf(impl.IsMask(s.mask()))} }},
		{"RoughOfRing", 3966953668, func(s *source) []uint32 { return oneWords(impl.RoughOfRing(s.ring())) }},
	}
}

func printsOfNets() []printed {
	return []printed{
		{"BoxNet", 3296005120, func(s *source) []uint32 {
			wide, long := place(s.word()), place(s.word())
			return netWords(impl.BoxNet(wide, long, place(s.word())))
		}},
		{"GridNet", 2608280120, func(s *source) []uint32 {
			m := int64(s.below(10))
			return netWords(impl.GridNet(m, int64(s.below(10))))
		}},
		{"EdgesOfNet", 4227334051, func(s *source) []uint32 { return indexWords(impl.EdgesOfNet(s.net())) }},
		{"BordersOfNet", 2645875934, func(s *source) []uint32 { return indexWords(impl.BordersOfNet(s.net())) }},
		{"EulerOf", 260494978, func(s *source) []uint32 {
			euler, ok := impl.EulerOf(s.net())
			return indexWords([]int64{euler}, ok)
		}},
		{"FacetsAt", 3384219003, func(s *source) []uint32 {
			n := s.net()
			return indexWords(impl.FacetsAt(n, int64(s.below(len(n.Spots)+2)-1)))
		}},
		{"FacetPoint", 1394831897, func(s *source) []uint32 {
			n := s.net()
			return oneSpotWords(impl.FacetPoint(n, int64(s.below(len(n.Facets)+2)-1)))
		}},
		{"FacetShared", 746157819, func(s *source) []uint32 {
			n := s.net()
			return spotWords(impl.FacetShared(n, int64(s.below(10))))
		}},
		{"RoundNet", 1545144667, func(s *source) []uint32 { return netWords(impl.RoundNet(s.net())) }},
		{"RoundNet, twice", 2447013562, func(s *source) []uint32 {
			n, _ := impl.RoundNet(s.net())
			return netWords(impl.RoundNet(n))
		}},
		{"EaseNet", 4031785275, func(s *source) []uint32 {
			n := s.net()
			return netWords(impl.EaseNet(n, s.time()))
		}},
		{"BackNet", 921180723, func(s *source) []uint32 { return netWords(impl.BackNet(s.net())) }},
		{"VolumeOfNet", 436519748, func(s *source) []uint32 { return oneWords(impl.VolumeOfNet(s.net())) }},
		{"VolumeOfNet, rounded", 973187788, func(s *source) []uint32 {
			n, _ := impl.RoundNet(s.net())
			return oneWords(impl.VolumeOfNet(n))
		}},
		{"AreaOfNet", 824022828, func(s *source) []uint32 { return oneWords(impl.AreaOfNet(s.net())) }},
	}
}

// Promises 1 and 7: masks are told to the last bit.
func TestMasksToTheLastBit(t *testing.T) {
	for _, c := range append(printsOfRings(), printsOfNets()...) {
		s := newSource()
		var all []uint32
		for range manyMasks {
			all = append(all, c.words(s)...)
		}
		wantEqual(t, fingerprint(all), c.want, "fingerprint of", c.name)
	}
}
