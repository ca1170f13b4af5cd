package tests

import (
	"slices"
	"strings"
	"testing"

	"loop.example/g01328/impl"
)

// someJournals are lines of all kinds, with blanks, other bytes and nothing in them.
func someJournals() [][]string {
	return [][]string{
		nil, {""}, {"", ""}, {"turn", "turn"}, {"a", "", "b"}, {" ", "  x ", "3 turn"}, {"\xff\x00", "\r", "\u00e9"}, {"248 a", "0 ", "-1"},
		{"at 3f000000", "cubic", "back", "", "ring none", "turn now", "limit 5"}, {strings.Repeat("turn ", 40), strings.Repeat("\x00", 30)},
	}
}

// Promise 9: the journal of lines, with check numbers worked out by another program.
func TestJournalOf(t *testing.T) {
	for _, c := range []struct {
		lines   []string
		journal string
	}{
		{nil, ""}, {[]string{}, ""}, {[]string{""}, "0 \n"}, {[]string{"", ""}, "0 \n0 \n"}, {[]string{"a"}, "248 a\n"}, {[]string{"ab"}, "18272 ab\n"}, {[]string{"a", "b"}, "248 a\n18272 b\n"}, {[]string{"a", "", "b"}, "248 a\n248 \n18272 b\n"},
		{[]string{"turn", "turn"}, "21365 turn\n34258 turn\n"}, {[]string{" ", "  x "}, "183  \n53331   x \n"}, {[]string{"\xff\x00", "\r"}, "23890 \xff\x00\n45729 \r\n"}, {[]string{"\u00e9"}, "37522 \u00e9\n"},
		{[]string{"at 3f000000", "cubic", "back"}, "41202 at 3f000000\n51035 cubic\n2268 back\n"},
	} {
		got, ok := impl.JournalOf(c.lines)
		wantPair(t, got, ok, c.journal, true, "JournalOf", c.lines)
	}
	for _, lines := range someJournals() {
		got, ok := impl.JournalOf(lines)
		wantPair(t, got, ok, journalOf(lines...), true, "JournalOf", lines)
	}
	for _, lines := range [][]string{{"\n"}, {"a\n"}, {"\na"}, {"a\nb"}, {"a", "\n"}, {"a", "b\n"}, {"a\n", "b"}, {"turn", "turn", "back\nback"}, {"", "\n", ""}} {
		got, ok := impl.JournalOf(lines)
		wantPair(t, got, ok, "", false, "JournalOf", lines)
	}
}

// filled puts a line behind others, so that all have a journal of as many bytes as told.
func filled(t *testing.T, before []string, size int) []string {
	t.Helper()
	rest := size - len(journalOf(before...))
	for _, letter := range []string{"x", "y", "z"} {
		// A check number has at most 5 digits.
		for count := max(rest-7, 0); count < rest; count++ {
			lines := append(slices.Clone(before), strings.Repeat(letter, count))
			if len(journalOf(lines...)) == size {
				return lines
			}
		}
	}
	t.Fatalf("no line fills a journal of %d bytes", size)
	return nil
}

// Promise 9: journals of MaxScript bytes, and of one more.
func TestJournalsReachTheLimit(t *testing.T) {
	for i, before := range [][]string{nil, repeated("", 5000), {"turn", "", "back"}, repeated("turn", 1000)} {
		lines := filled(t, before, 16000)
		want := journalOf(lines...)
		got, ok := impl.JournalOf(lines)
		wantTrue(t, ok && len(got) == 16000 && got == want, "JournalOf of the limit", i, len(got))
		wantRecoveredLines(t, want, lines, 16000, "RecoverJournal of the limit", i)
		for _, more := range [][]string{filled(t, before, 16001), append(slices.Clone(lines), ""), append([]string{""}, lines...), append(slices.Clone(lines), lines...)} {
			got, ok = impl.JournalOf(more)
			wantTrue(t, !ok && got == "", "JournalOf of too many bytes", i, len(got))
			wantNoLines(t, journalOf(more...), "RecoverJournal of too many bytes", i)
		}
	}
	got, ok := impl.JournalOf(repeated("", 5333))
	wantTrue(t, ok && got == strings.Repeat("0 \n", 5333), "JournalOf of empty lines", len(got))
	for _, lines := range [][]string{repeated("", 5334), repeated("", 1<<20), {strings.Repeat("x", 16000)}, {strings.Repeat("x", 1<<20)}, repeated("turn", 1600)} {
		got, ok := impl.JournalOf(lines)
		wantTrue(t, !ok && got == "", "JournalOf of too many bytes", len(got))
	}
	// A text of MaxScript bytes need not be a journal up to its end.
	for _, lines := range someJournals() {
		journal := journalOf(lines...)
		wantRecoveredLines(t, journal+strings.Repeat("x", 16000-len(journal)), lines, len(journal), "RecoverJournal of the limit")
		wantNoLines(t, journal+strings.Repeat("x", 16001-len(journal)), "RecoverJournal of too many bytes")
	}
	for _, count := range tooManyBytes() {
		wantNoLines(t, strings.Repeat("x", count), "RecoverJournal of too many bytes", count)
		wantNoLines(t, strings.Repeat("0 \n", count), "RecoverJournal of too many bytes", count)
	}
}

func wantRecoveredLines(t *testing.T, text string, want []string, size int, what string, args ...any) {
	t.Helper()
	got, n, ok := impl.RecoverJournal(text)
	if !ok || n != int64(size) || !slices.Equal(got, want) {
		t.Errorf("%s%v: got %.80q %d %v, want %.80q %d", what, args, got, n, ok, want, size)
	}
	wantRun(t, text, got)
}

func wantNoLines(t *testing.T, text string, what string, args ...any) {
	t.Helper()
	got, n, ok := impl.RecoverJournal(text)
	wantNoList(t, got, ok, what, args...)
	wantEqual(t, n, 0, what, args...)
	d, count, ok := impl.RunJournal(freshDesk(), text)
	wantNoDesk(t, d, ok, "RunJournal of no journal", args...)
	wantEqual(t, count, 0, "RunJournal of no journal", args...)
}

// wantRun carries out the lines one after another, and as a journal.
func wantRun(t *testing.T, text string, lines []string) {
	t.Helper()
	want := freshDesk()
	for _, line := range lines {
		want, _ = afterLine(want, line)
	}
	d, count, ok := impl.RunJournal(freshDesk(), text)
	wantDesk(t, d, ok, want, "RunJournal", text)
	wantEqual(t, count, int64(len(lines)), "lines of RunJournal", text)
}

// endsOf tells how many bytes the journals of the first lines have.
func endsOf(lines []string) []int {
	ends := []int{0}
	for i := range lines {
		ends = append(ends, len(journalOf(lines[:i+1]...)))
	}
	return ends
}

// Promise 9: a journal that is cut at any byte, or in which any byte is another one, is recovered up to the line before.
func TestRecoverJournal(t *testing.T) {
	for _, lines := range someJournals() {
		journal, ends := journalOf(lines...), endsOf(lines)
		wantRecoveredLines(t, journal, lines, len(journal), "RecoverJournal", lines)
		for i := range len(journal) {
			count := 0
			for ends[count+1] <= i {
				count++
			}
			wantRecoveredLines(t, journal[:i], lines[:count], ends[count], "RecoverJournal, cut off", lines, i)
			for change := range 255 {
				other := []byte(journal)
				other[i] ^= byte(change + 1)
				wantRecoveredLines(t, string(other), lines[:count], ends[count], "RecoverJournal, another byte", lines, i, change)
			}
			// A line that is there once more, or without a byte, is another one, even if it is equal.
			if len(lines) > 0 && lines[0] == "turn" {
				wantRecoveredLines(t, journal[:i]+journal[i+1:], lines[:count], ends[count], "RecoverJournal without a byte", lines, i)
				wantRecoveredLines(t, journal[:i]+"7"+journal[i:], lines[:count], ends[count], "RecoverJournal with a byte more", lines, i)
			}
		}
		for _, more := range []string{"x", " ", "\n", "\n\n", "0", "0 ", " 0 \n", "turn\n", "65003 \n", "-1 \n", "00000 x\n", journalOf("other")[:3], strings.Repeat("\xff", 100)} {
			wantRecoveredLines(t, journal+more, lines, len(journal), "RecoverJournal and more", lines, more)
			wantRecoveredLines(t, journal+more+journal, lines, len(journal), "RecoverJournal up to more", lines, more)
		}
	}
}

// Promise 9: check numbers with other digits, and lines in another order or behind others, are none of a journal.
func TestWrongJournals(t *testing.T) {
	for _, text := range []string{
		"", " ", "\n", "\n\n", "turn", "turn\n", " turn\n", "21365", "21365 ", "21365 turn", "21365turn\n", "21365\n", "21365 \n", "21365  turn\n", " 21365 turn\n", "21365\tturn\n", "21365 turn \n", "21365 turn\r\n", "21365 Turn\n", "\n21365 turn\n",
		"021365 turn\n", "+21365 turn\n", "-21365 turn\n", "21365.0 turn\n", "2136 turn\n", "213655 turn\n", "21366 turn\n", "86368 turn\n", "-43638 turn\n", "0x5375 turn\n", "5375 turn\n", "21,365 turn\n", "none turn\n",
		"34258 turn\n", "34258 turn\n21365 turn\n", "0\n", "0", "0 ", "00 \n", "-0 \n", " \n", "1 \n", "65003 \n", "0  \n", "0 a\n", "0 0 \n", "18446744073709551616 \n", strings.Repeat("0", 15998) + " \n",
	} {
		wantRecoveredLines(t, text, nil, 0, "RecoverJournal of no journal", text)
		// Behind a journal, a line that is not the next one ends it, whatever is behind it.
		wantRecoveredLines(t, "248 a\n"+text[:min(len(text), 15000)], []string{"a"}, 6, "RecoverJournal behind a line", text)
		wantRecoveredLines(t, text[:min(len(text), 15000)]+"x248 a\n", nil, 0, "RecoverJournal before a line", text)
	}
	// Each line must come behind the one before it.
	first, both := journalOf("turn"), journalOf("turn", "turn")
	for _, c := range []struct {
		text  string
		count int
	}{
		{first + first, 1}, {both + first, 2}, {both + both, 2}, {first + both, 1}, {both[len(first):], 0}, {both[len(first):] + first, 0}, {first + "\n" + both[len(first):], 1}, {first + "x" + both[len(first):], 1},
		{journalOf("", "turn", "turn"), 3}, {"0 \n0 \n" + both, 4}, {both + "34258 \n34258 \n", 4}, {both + "34258 \n0 \n", 3},
	} {
		lines, size, ok := impl.RecoverJournal(c.text)
		wantTrue(t, ok && len(lines) == c.count && journalOf(lines...) == c.text[:size], "RecoverJournal", c.text, lines, size)
		wantRun(t, c.text, lines)
	}
}

// Promise 9: what is recovered has the journal with which the text begins, and the next line is none of it.
func TestRecoveredJournals(t *testing.T) {
	s := newSource()
	short := 0
	for range 300 {
		lines := s.deskLines(s.below(8))
		text := journalOf(lines...)
		if bytes := []byte(text); s.below(3) > 0 && len(bytes) > 0 {
			bytes[s.below(len(bytes))] ^= 1 << s.below(8)
			text = string(bytes[:s.below(len(bytes)+1)])
		}
		got, size, ok := impl.RecoverJournal(text)
		journal, journalOK := impl.JournalOf(got)
		wantTrue(t, ok && journalOK && strings.HasPrefix(text, journal) && size == int64(len(journal)), "RecoverJournal", text, got, size)
		if next, _, isLine := strings.Cut(text[size:], "\n"); isLine {
			_, line, _ := strings.Cut(next, " ")
			wantTrue(t, journalOf(append(slices.Clone(got), line)...) != journal+next+"\n", "RecoverJournal ends before", next)
		}
		if len(got) < len(lines) {
			short++
		} else {
			wantTrue(t, slices.Equal(got, lines), "RecoverJournal", got, lines)
		}
		wantRun(t, text, got)
	}
	wantTrue(t, short > 100 && short < 200, "journals that are cut off", short)
}

// Promise 9: the lines of a journal are carried out as those of a script.
func TestRunJournal(t *testing.T) {
	s := newSource()
	for range 100 {
		d, lines := s.desk(), s.deskLines(s.below(20))
		journal, ok := impl.JournalOf(lines)
		if !ok {
			continue
		}
		want, _, ok := impl.RunDesk(d, script(lines...))
		wantTrue(t, ok, "RunDesk", lines)
		got, count, ok := impl.RunJournal(d, journal)
		wantDesk(t, got, ok, want, "RunJournal", lines)
		wantEqual(t, count, int64(len(lines)), "lines of RunJournal", lines)
	}
	for _, d := range someDesks() {
		got, count, ok := impl.RunJournal(d, "")
		wantDesk(t, got, ok, d, "RunJournal of nothing")
		wantEqual(t, count, 0, "lines of RunJournal of nothing")
	}
	for _, d := range notDesks() {
		for _, text := range []string{"", "x", journalOf(""), journalOf("turn"), journalOf("ring " + hexOfPoints(0, 1))} {
			got, count, ok := impl.RunJournal(d, text)
			wantNoDesk(t, got, ok, "RunJournal at no desk", text)
			wantEqual(t, count, 0, "RunJournal at no desk", text)
		}
	}
}
