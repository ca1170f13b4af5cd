package tests

import (
	"math"
	"testing"

	"loop.example/g01328/impl"
)

const manyMeasures = 1000

func oneWords(x float32, ok bool) []uint32 { return numberWords([]float32{x}, ok) }

func meetWords(meets []impl.Meet, ok bool) []uint32 {
	words := []uint32{wordOf(ok)}
	for _, meet := range meets {
		words = append(words, bitsOf(meet.S), bitsOf(meet.T))
	}
	return words
}

// pieces are at times one too few, or one too many.
func (s *source) pieces() int64 { return int64(s.below(impl.MaxPieces + 2)) }

// near is a power of 2, from 1 down to the least one that is taken.
func (s *source) near() float32 { return float32(math.Ldexp(1, -s.below(11))) }

func (s *source) points(count int) []complex64 {
	points := make([]complex64, count)
	for i := range points {
		points[i] = s.point()
	}
	return points
}

func (s *source) plain() impl.Curve { return plain(s.curve(1, 7).Points...) }

// Promises 1 and 4: curves are measured to the last bit.
// The fingerprints were computed from the document's text by another program, in another language.
func TestMeasuresToTheLastBit(t *testing.T) {
	for _, c := range []struct {
		name  string
		want  uint32
		words func(s *source) []uint32
	}{
		{"ChordLong", 1303869408, func(s *source) []uint32 { return oneWords(impl.ChordLong(s.curve(1, 7), s.pieces())) }},
		{"FrameLong", 2139287120, func(s *source) []uint32 { return oneWords(impl.FrameLong(s.curve(1, 7))) }},
		{"NearLong", 1590270609, func(s *source) []uint32 {
			long, count, ok := impl.NearLong(s.curve(1, 7), s.near()/64)
			return append(oneWords(long, ok), uint32(count))
		}},
		{"LongTable", 927983088, func(s *source) []uint32 { return numberWords(impl.LongTable(s.curve(1, 7), s.pieces())) }},
		{"TimeAlong", 3456146908, func(s *source) []uint32 { return oneWords(impl.TimeAlong(s.curve(1, 7), s.pieces(), s.time())) }},
		{"EvenTimes", 2646392198, func(s *source) []uint32 {
			return numberWords(impl.EvenTimes(s.curve(1, 7), s.pieces(), s.pieces()))
		}},
		{"NearestOn", 2369387027, func(s *source) []uint32 {
			at, far, ok := impl.NearestOn(s.curve(1, 7), s.point(), s.pieces())
			return numberWords([]float32{at, far}, ok)
		}},
		{"FrameBox", 2959403360, func(s *source) []uint32 {
			low, high, ok := impl.FrameBox(s.curve(1, 7))
			return pointWords([]complex64{low, high}, ok)
		}},
		{"WayAt", 991602127, func(s *source) []uint32 { return onePointWords(impl.WayAt(s.curve(1, 7), s.time())) }},
		{"BesideAt", 3352132872, func(s *source) []uint32 {
			return onePointWords(impl.BesideAt(s.curve(1, 7), s.time(), place(s.word())))
		}},
		{"BendOf", 1083710861, func(s *source) []uint32 { return oneWords(impl.BendOf(s.plain(), s.time())) }},
		{"FlexesOf", 3026309277, func(s *source) []uint32 { return numberWords(impl.FlexesOf(s.plain(), s.pieces())) }},
		{"EdgesOfCurve", 2466386544, func(s *source) []uint32 { return numberWords(impl.EdgesOfCurve(s.plain(), s.pieces())) }},
		{"BentEnergy", 1139214317, func(s *source) []uint32 { return oneWords(impl.BentEnergy(s.plain(), s.pieces())) }},
		{"AreaUnder", 1385646238, func(s *source) []uint32 { return oneWords(impl.AreaUnder(s.curve(1, 7), s.pieces())) }},
		{"LineMeets", 3686720916, func(s *source) []uint32 {
			return numberWords(impl.LineMeets(s.curve(1, 7), s.point(), s.point(), s.near()))
		}},
		{"MeetsOf", 2257945096, func(s *source) []uint32 { return meetWords(impl.MeetsOf(s.curve(1, 7), s.curve(1, 7), s.near())) }},
		{"SelfMeets", 3771710112, func(s *source) []uint32 { return meetWords(impl.SelfMeets(s.curve(1, 7), s.near())) }},
		{"FarBetween", 2493046288, func(s *source) []uint32 {
			return oneWords(impl.FarBetween(s.curve(1, 7), s.curve(1, 7), s.pieces()))
		}},
		{"TurnsOfLoop", 840296725, func(s *source) []uint32 { return oneWords(impl.TurnsOfLoop(s.points(s.below(67)))) }},
		{"WindingAt", 3177934244, func(s *source) []uint32 {
			times, ok := impl.WindingAt(s.points(s.below(67)), s.point())
			return []uint32{wordOf(ok), uint32(times)}
		}},
		{"AreaOfLoop", 3896505029, func(s *source) []uint32 { return oneWords(impl.AreaOfLoop(s.points(s.below(67)))) }},
	} {
		s := newSource()
		var all []uint32
		for range manyMeasures {
			all = append(all, c.words(s)...)
		}
		wantEqual(t, fingerprint(all), c.want, "fingerprint of", c.name)
	}
}
