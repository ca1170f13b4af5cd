package tests

import (
	"testing"

	"loop.example/g01328/impl"
)

const manyDesks = 300

func deskWords(d impl.Desk, ok bool) []uint32 {
	words := append(curveWords(d.Curve, ok), splineWords(d.Spline, ok)...)
	words = append(words, sheetWords(d.Sheet, ok)...)
	return append(words, pointWords(d.Ring, ok)...)
}

// changedBytes are a text, cut off and with another byte in two thirds of the cases.
func (s *source) changedBytes(text string) string {
	bytes := []byte(text)
	if s.below(3) > 0 && len(bytes) > 0 {
		bytes[s.below(len(bytes))] ^= 1 << s.below(8)
		bytes = bytes[:s.below(len(bytes)+1)]
	}
	return string(bytes)
}

// printsOfDesks were computed from the document's text by another program, in another language.
func printsOfDesks() []printed {
	return []printed{
		{"RunDesk", 1450254893, func(s *source) []uint32 {
			d := s.desk()
			after, outputs, ok := impl.RunDesk(d, script(s.deskLines(s.below(30))...))
			return append(deskWords(after, ok), byteWords(outputs, ok)...)
		}},
		{"RunDesk, at a new desk", 3350752877, func(s *source) []uint32 {
			after, outputs, ok := impl.RunDesk(impl.NewDesk(), script(s.deskLines(s.below(30))...))
			return append(deskWords(after, ok), byteWords(outputs, ok)...)
		}},
		{"JournalOf", 4026458203, func(s *source) []uint32 { return byteWords(impl.JournalOf(s.deskLines(s.below(30)))) }},
		{"RecoverJournal", 3033789174, func(s *source) []uint32 {
			journal, _ := impl.JournalOf(s.deskLines(s.below(30)))
			lines, size, ok := impl.RecoverJournal(s.changedBytes(journal))
			return append([]uint32{uint32(len(lines)), uint32(size)}, byteWords(script(lines...), ok)...)
		}},
		{"RunJournal", 776366740, func(s *source) []uint32 {
			d := s.desk()
			journal, _ := impl.JournalOf(s.deskLines(s.below(30)))
			after, count, ok := impl.RunJournal(d, s.changedBytes(journal))
			return append(deskWords(after, ok), uint32(count))
		}},
	}
}

// Promises 1 and 9: what desks output is told to the last bit.
func TestDesksToTheLastBit(t *testing.T) {
	for _, c := range printsOfDesks() {
		s := newSource()
		var all []uint32
		for range manyDesks {
			all = append(all, c.words(s)...)
		}
		wantEqual(t, fingerprint(all), c.want, "fingerprint of", c.name)
	}
}
