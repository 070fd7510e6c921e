package tests

import (
	"fmt"
	"slices"
	"strings"
	"testing"

	"loop.example/g01339/impl"
)

// checksOf has the check number of each line.
func checksOf(lines []string) []int {
	checks, check := []int{}, 0
	for _, line := range lines {
		for _, b := range []byte(line) {
			check = (883*check + int(b) + 167) % 65003
		}
		checks = append(checks, check)
	}
	return checks
}

func journalReference(lines []string) string {
	journal := ""
	for i, check := range checksOf(lines) {
		journal += fmt.Sprint(check) + " " + lines[i] + "\n"
	}
	return journal
}

// recoverReference tries how many of the lines of a text have a journal with which it begins.
func recoverReference(text string) ([]string, int64) {
	parts := strings.Split(text, "\n")
	lines := []string{}
	for _, part := range parts {
		if at := strings.IndexByte(part, ' '); at >= 0 {
			lines = append(lines, part[at+1:])
		} else {
			lines = append(lines, part)
		}
	}
	checks, end := checksOf(lines), 0
	for i, line := range lines {
		entry := fmt.Sprintf("%d %s\n", checks[i], line)
		if len(text)-end < len(entry) || text[end:end+len(entry)] != entry {
			return lines[:i], int64(end)
		}
		end += len(entry)
	}
	return lines, int64(end)
}

func wantRecovered(t *testing.T, what, text string) ([]string, int64) {
	t.Helper()
	want, wantSize := recoverReference(text)
	lines, size, ok := impl.RecoverJournal(text)
	if !slices.Equal(lines, want) || size != wantSize || !ok {
		t.Errorf("RecoverJournal of %s (%.300q): got %.300q, %v, %v, want %.300q, %v", what, text, lines, size, ok, want, wantSize)
	}
	if again, ok := impl.JournalOf(lines); !ok || again != text[:size] {
		t.Errorf("the journal of the lines of %s (%.300q): got %.300q, %v", what, text, again, ok)
	}
	d := impl.NewDesk()
	wantEnd, _ := scriptOfDesk(newDesk(), want)
	after, count, ok := impl.RunJournal(d, text)
	wantSame(t, "how many lines RunJournal carries out: "+what, count, int64(len(want)))
	wantSame(t, "RunJournal succeeds: "+what, ok, true)
	wantDesk(t, call{"RunJournal of ", what}, after, wantEnd)
	return lines, size
}

func someJournals() [][]string {
	return [][]string{
		{}, {""}, {"", ""}, {" "}, {"  ", ""}, {"gap"}, {"code", "gap"}, {"", "gap", ""}, {"words 2", "draw 5", "what", "", " gap", "seed"}, {"0", "0 0", " 0 0"}, {"167 x"}, {"\x00", "\xff", "\r", "\t"}, {"é", "order 0,2/1"},
		{"list 3f000000,3f800000", "plain", "words 3", "table 2,2;1,2,3,4", "skip 7", "seed"}, {strings.Repeat("a", 300), strings.Repeat(" ", 50)},
	}
}

func TestJournalOf(t *testing.T) {
	for _, lines := range someJournals() {
		journal, ok := impl.JournalOf(lines)
		wantSame(t, fmt.Sprintf("JournalOf %q", lines), journal, journalReference(lines))
		wantSame(t, "JournalOf succeeds", ok, true)
		back, size := wantRecovered(t, fmt.Sprintf("the journal of %q", lines), journal)
		wantList(t, "all lines are recovered", back, lines)
		wantSame(t, "all bytes are those of the lines", size, int64(len(journal)))
	}
	journal, ok := impl.JournalOf(nil)
	wantSame(t, "JournalOf of no lines", journal, "")
	wantSame(t, "JournalOf of no lines succeeds", ok, true)
	for _, c := range []struct {
		lines   []string
		journal string
	}{
		{[]string{""}, "0 \n"}, {[]string{"", ""}, "0 \n0 \n"}, {[]string{"a"}, "264 a\n"}, {[]string{"a", ""}, "264 a\n264 \n"}, {[]string{"a", "b"}, "264 a\n38368 b\n"}, {[]string{"", "a"}, "0 \n264 a\n"}, {[]string{"ab"}, "38368 ab\n"}, {[]string{" "}, "199  \n"},
	} {
		journal, ok := impl.JournalOf(c.lines)
		wantSame(t, fmt.Sprintf("JournalOf %q", c.lines), journal, c.journal)
		wantSame(t, "JournalOf succeeds", ok, true)
	}
}

func TestJournalsThatAreNone(t *testing.T) {
	for _, lines := range [][]string{{"\n"}, {"a\nb"}, {"gap\n"}, {"\ngap"}, {"gap", "\n"}, {"", "a\n", ""}, {"gap", "gap", "ga\np"}, {"\r\n"}, {"\x00\n"}} {
		journal, ok := impl.JournalOf(lines)
		wantFailure(t, fmt.Sprintf("JournalOf %q", lines), journal, ok)
	}
	// The first check number of as many letters, and so the length of the journal, is known.
	for size := mostScript - 3; size <= mostScript+3; size++ {
		for count := size - 8; count <= size; count++ {
			lines := []string{strings.Repeat("z", count)}
			want := journalReference(lines)
			if len(want) != size {
				continue
			}
			journal, ok := impl.JournalOf(lines)
			if size > mostScript {
				wantFailure(t, fmt.Sprint("JournalOf of bytes ", size), journal, ok)
				continue
			}
			wantSame(t, fmt.Sprint("JournalOf of bytes ", size), journal, want)
			wantSame(t, "JournalOf succeeds", ok, true)
			wantRecovered(t, fmt.Sprint("a journal of bytes ", size), journal)
		}
	}
	// The last line, of many, is the one with which a journal is too long.
	sizes := map[int]int{}
	for _, last := range []string{"a", "ab", "abc", "abcd", "abcde", "abcdef"} {
		lines := append(make([]string, 5330), last)
		want := journalReference(lines)
		sizes[len(want)]++
		journal, ok := impl.JournalOf(lines)
		if len(want) > mostScript {
			wantFailure(t, "JournalOf of many lines, and "+last, journal, ok)
			continue
		}
		wantSame(t, "JournalOf of many lines, and "+last, journal, want)
		wantSame(t, "JournalOf succeeds", ok, true)
	}
	wantSame(t, "journals of the most bytes, and of one more", sizes[mostScript] > 0 && sizes[mostScript+1] > 0, true)
	for _, lines := range [][]string{make([]string, 5334), make([]string, 100000), {strings.Repeat("z", mostScript)}, {strings.Repeat("z", 1<<24)}, {"", strings.Repeat("z", mostScript-5)}, slices.Repeat([]string{"gap"}, 2000)} {
		journal, ok := impl.JournalOf(lines)
		wantFailure(t, fmt.Sprintf("JournalOf of lines %d", len(lines)), journal, ok)
	}
	journal, ok := impl.JournalOf(make([]string, 5333))
	wantSame(t, "JournalOf of the most lines", journal, strings.Repeat("0 \n", 5333))
	wantSame(t, "JournalOf succeeds", ok, true)
	wantRecovered(t, "the journal of the most lines", journal)
}

// TestJournalsThatAreCutOrChanged cuts journals at each byte, and gives each byte other values.
func TestJournalsThatAreCutOrChanged(t *testing.T) {
	for _, lines := range someJournals() {
		journal := journalReference(lines)
		ends := []int{0}
		for i := range lines {
			ends = append(ends, len(journalReference(lines[:i+1])))
		}
		// How many lines end at most there.
		before := func(at int) int {
			return len(slices.DeleteFunc(slices.Clone(ends), func(end int) bool { return end > at })) - 1
		}
		for at := range len(journal) {
			what := fmt.Sprintf("%.100q, %d", journal, at)
			left, size := wantRecovered(t, "a journal without its last bytes "+what, journal[:at])
			wantSame(t, "how many lines are left of "+what, len(left), before(at))
			wantSame(t, "the length of what is left of "+what, size, int64(ends[before(at)]))
			wantRecovered(t, "a journal without its first bytes "+what, journal[at:])
			wantRecovered(t, "a journal without a byte "+what, journal[:at]+journal[at+1:])
			wantRecovered(t, "a journal with a byte twice "+what, journal[:at+1]+journal[at:])
			for step := 1; step < 256; step++ {
				if step > 2 && step < 254 && len(journal) > 40 && step%37 > 0 {
					continue
				}
				changed := journal[:at] + string([]byte{journal[at] + byte(step)}) + journal[at+1:]
				left, size := wantRecovered(t, "a journal with another byte "+what, changed)
				// The line of the byte is none, even if others behind it could be some.
				wantSame(t, "how many lines are left of "+what, len(left), before(at))
				wantSame(t, "the length of what is left of "+what, size, int64(ends[before(at)]))
			}
		}
		for _, behind := range []string{"x", " ", "\n", "0", "0 ", "0 \n", "264 a\n", "\x00", "\xff", journal, "1 x\n\n", "-1 \n", " \n"} {
			wantRecovered(t, fmt.Sprintf("%.100q, with %q behind it", journal, behind), journal+behind)
			wantRecovered(t, fmt.Sprintf("%.100q, with %q before it", journal, behind), behind+journal)
		}
	}
}

func TestCheckNumbersInOtherTexts(t *testing.T) {
	for _, c := range []struct {
		text  string
		count int
	}{
		{"", 0}, {"\n", 0}, {" \n", 0}, {"0\n", 0}, {"0 \n", 1}, {"0  \n", 0}, {"00 \n", 0}, {"-0 \n", 0}, {"+0 \n", 0}, {"0\t\n", 0}, {"0 \r\n", 0}, {" 0 \n", 0}, {"0 ", 0}, {"0", 0}, {"65003 \n", 0}, {"0.0 \n", 0}, {"0x0 \n", 0},
		{"264 a\n", 1}, {"0264 a\n", 0}, {"+264 a\n", 0}, {"264  a\n", 0}, {"264\ta\n", 0}, {"264 a", 0}, {"264a\n", 0}, {"65267 a\n", 0}, {"264 a\n38368 b\n", 2}, {"264 a\n038368 b\n", 1}, {"264 a\n265 b\n", 1}, {"264 a\n\n38368 b\n", 1}, {"264 b\n", 0}, {"265 b\n", 1}, {"0 \n264 a\n", 2}, {"0 \n0264 a\n", 1},
		// A line that was left out, and lines in another order.
		{"38368 b\n", 0}, {"38368 b\n264 a\n", 0}, {"264 a\n264 \n", 2}, {"264 a\n0 \n", 1}, {"264 a\n264 a\n", 1}, {"264 a\r\n", 0},
	} {
		lines, _ := wantRecovered(t, fmt.Sprintf("%q", c.text), c.text)
		wantSame(t, fmt.Sprintf("how many lines are recovered of %q", c.text), len(lines), c.count)
	}
	long := strings.Repeat("0 \n", 5333)
	for _, behind := range []string{"", "0", "x", "\n"} {
		lines, _ := wantRecovered(t, "a text of at most 16000 bytes", long+behind)
		wantSame(t, "how many lines are recovered", len(lines), 5333)
	}
	wantRecovered(t, "a long text that has no journal", strings.Repeat("x", mostScript))
	wantRecovered(t, "a long text of blanks", strings.Repeat(" ", mostScript))
	wantRecovered(t, "a long text of newlines", strings.Repeat("\n", mostScript))
	for _, text := range []string{long + "0 ", long + "0 \n", strings.Repeat("x", mostScript+1), strings.Repeat("\n", 1<<24), "264 a\n" + strings.Repeat(" ", mostScript)} {
		lines, size, ok := impl.RecoverJournal(text)
		wantFailure(t, fmt.Sprintf("RecoverJournal %.100q", text), lines, size, ok)
		after, count, ok := impl.RunJournal(impl.NewDesk(), text)
		wantFailure(t, fmt.Sprintf("RunJournal %.100q", text), count, ok, after)
	}
}

// TestRunJournal carries out journals of drawn lines, whole ones and others, at all desks.
func TestRunJournal(t *testing.T) {
	d := drawnBits(176)
	for i, desk := range append(goodDesks(), goodDesks()...) {
		lines := drawnScript(&d, i%9)
		journal, ok := impl.JournalOf(lines)
		if !ok {
			wantSame(t, "a journal that is too long", len(journalReference(lines)) > mostScript, true)
			continue
		}
		text := journal
		switch i % 4 {
		case 1:
			text = journal[:int(d.next())%(len(journal)+1)]
		case 2:
			text = journal + "1 gap\n"
		case 3:
			if len(journal) > 0 {
				at := int(d.next()) % len(journal)
				text = journal[:at] + string([]byte{journal[at] ^ 1}) + journal[at+1:]
			}
		}
		if len(text) > mostScript {
			continue
		}
		left, _ := recoverReference(text)
		want, _ := scriptOfDesk(desk, left)
		after, count, ok := impl.RunJournal(desk, text)
		wantDesk(t, call{"RunJournal ", text, " at ", desk}, after, want)
		wantSame(t, "how many lines are carried out", count, int64(len(left)))
		wantSame(t, "RunJournal succeeds", ok, true)
	}
	after, count, ok := impl.RunJournal(impl.NewDesk(), "")
	wantDesk(t, call{"RunJournal of no lines"}, after, newDesk())
	wantSame(t, "how many lines are carried out", count, 0)
	wantSame(t, "RunJournal succeeds", ok, true)
	// Lines that are refused, or none, are carried out too.
	text, _ := impl.JournalOf([]string{"words 65", "what", "", "words 1"})
	after, count, ok = impl.RunJournal(impl.NewDesk(), text)
	wantSame(t, "how many lines are carried out", count, 4)
	wantSame(t, "RunJournal succeeds", ok, true)
	wantSame(t, "the seed behind them", after.Seed, impl.Seed{A: 1, B: 1})
}
