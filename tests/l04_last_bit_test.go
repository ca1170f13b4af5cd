package tests

import (
	"testing"

	"loop.example/g01328/impl"
)

const manySheets = 500

func spotWords(list []impl.Spot, ok bool) []uint32 {
	words := []uint32{wordOf(ok)}
	for _, p := range list {
		words = append(words, bitsOf(p.X), bitsOf(p.Y), bitsOf(p.Z))
	}
	return words
}

func oneSpotWords(p impl.Spot, ok bool) []uint32 { return spotWords([]impl.Spot{p}, ok) }

func twoSpotWords(p, q impl.Spot, ok bool) []uint32 {
	return append(oneSpotWords(p, ok), oneSpotWords(q, ok)...)
}

func sheetWords(s impl.Sheet, ok bool) []uint32 {
	words := spotWords(s.Spots, ok)
	return append([]uint32{words[0], uint32(s.Across), uint32(s.Along)}, words[1:]...)
}

// printed is a function with the fingerprint of what it returns for many arguments.
type printed struct {
	name  string
	want  uint32
	words func(s *source) []uint32
}

// printsOfSheets were computed from the document's text by another program, in another language.
func printsOfSheets() []printed {
	return []printed{
		{"CrossSpots", 1996833306, func(s *source) []uint32 {
			a := s.spot()
			return oneSpotWords(impl.CrossSpots(a, s.spot()))
		}},
		{"LongOfSpot", 1583552537, func(s *source) []uint32 { return oneWords(impl.LongOfSpot(s.spot())) }},
		{"FlatSheet", 1428167443, func(s *source) []uint32 {
			across, along, wide := int64(1+s.below(7)), int64(1+s.below(7)), place(s.word())
			return sheetWords(impl.FlatSheet(across, along, wide, place(s.word())))
		}},
		{"FlipSheet", 3477941596, func(s *source) []uint32 { return sheetWords(impl.FlipSheet(s.sheet())) }},
		{"SheetAt", 1835600842, func(s *source) []uint32 {
			of, u := s.sheet(), s.time()
			return oneSpotWords(impl.SheetAt(of, u, s.time()))
		}},
		{"SlopesAt", 2566548504, func(s *source) []uint32 {
			of, u := s.sheet(), s.time()
			return twoSpotWords(impl.SlopesAt(of, u, s.time()))
		}},
		{"NormalAt", 2924041160, func(s *source) []uint32 {
			of, u := s.sheet(), s.time()
			return oneSpotWords(impl.NormalAt(of, u, s.time()))
		}},
		{"CutSheet", 1283972599, func(s *source) []uint32 {
			of := s.sheet()
			former, latter, ok := impl.CutSheet(of, s.time())
			return append(sheetWords(former, ok), sheetWords(latter, ok)...)
		}},
		{"EdgeOfSheet", 2941999936, func(s *source) []uint32 {
			of := s.sheet()
			return spotWords(impl.EdgeOfSheet(of, int64(s.below(6)-1)))
		}},
		{"BoxOfSpots", 1990374952, func(s *source) []uint32 { return twoSpotWords(impl.BoxOfSpots(s.spots(s.below(12)))) }},
		{"TilesOf", 182096544, func(s *source) []uint32 {
			of, m := s.sheet(), s.tiles()
			return spotWords(impl.TilesOf(of, m, s.tiles()))
		}},
		{"TilesShared", 182096544, func(s *source) []uint32 {
			of, m := s.sheet(), s.tiles()
			return spotWords(impl.TilesShared(of, m, s.tiles(), 5))
		}},
		{"TrianglesOf", 1808675648, func(s *source) []uint32 {
			m := s.tiles()
			corners, ok := impl.TrianglesOf(m, s.tiles())
			words := []uint32{wordOf(ok)}
			for _, i := range corners {
				words = append(words, uint32(i))
			}
			return words
		}},
		{"AreaOfTiles", 333902327, func(s *source) []uint32 {
			m, n := s.tiles(), s.tiles()
			return oneWords(impl.AreaOfTiles(s.spots(int((m+1)*(n+1))), m, n))
		}},
		{"LevelCuts", 195051523, func(s *source) []uint32 {
			m, n := s.tiles(), s.tiles()
			list, way := s.spots(int((m+1)*(n+1))), s.spot()
			return spotWords(impl.LevelCuts(list, m, n, way, place(s.word())))
		}},
		{"NearestTile", 3380807793, func(s *source) []uint32 {
			list := s.spots(s.below(20))
			index, far, ok := impl.NearestTile(list, s.spot())
			return []uint32{wordOf(ok), uint32(index), bitsOf(far)}
		}},
		{"PatchAt, seldom", 1029878399, func(s *source) []uint32 {
			list, degree := s.patch()
			a := s.time()
			return oneSpotWords(impl.PatchAt(list, degree, a, s.time()))
		}},
		{"PatchAt", 246291020, func(s *source) []uint32 {
			list, degree := s.patch()
			a := s.time() / 2
			return oneSpotWords(impl.PatchAt(list, degree, a, s.time()/2))
		}},
		{"RaisePatch", 3125373833, func(s *source) []uint32 {
			list, degree := s.patch()
			return spotWords(impl.RaisePatch(list, degree))
		}},
	}
}

// Promises 1 and 5: sheets, tiles and patches are told to the last bit.
func TestSheetsToTheLastBit(t *testing.T) {
	for _, c := range printsOfSheets() {
		s := newSource()
		var all []uint32
		for range manySheets {
			all = append(all, c.words(s)...)
		}
		wantEqual(t, fingerprint(all), c.want, "fingerprint of", c.name)
	}
}
