package tests

import (
	"fmt"
	"math"
	"strings"
	"testing"

	"loop.example/g01339/impl"
)

const (
	textNames   = "seed table order list"
	numberNames = "words skip split below draw ring tree"
	aloneNames  = "share code number sums less both exact plain holm step gap"
)

func allNames() []string {
	return strings.Fields(textNames + " " + numberNames + " " + aloneNames)
}

// wantLine compares a line with the reference, and returns the output.
func wantLine(t *testing.T, d impl.Desk, line string) string {
	t.Helper()
	want, wantOutput := lineOfDesk(copyOfDesk(d), line)
	after, output, ok := impl.DeskCommand(d, line)
	if output != wantOutput || !ok || !impl.ValidDesk(after) {
		t.Errorf("the line %.200q at the desk %v: got %.200q, %v, want %.200q", line, d, output, ok, wantOutput)
	}
	wantDesk(t, call{"the line ", fmt.Sprintf("%.200q", line), " at ", d}, after, want)
	if wantOutput == "no" || wantOutput == "what" {
		wantDesk(t, call{"a line that changes nothing: ", fmt.Sprintf("%.200q", line)}, after, d)
	}
	return output
}

func wordsForNumbers() []string {
	words := []string{"", "-", "+", "-0", "+1", "00", "01", "-01", "1.0", "1e1", "0x1", "1_0", "1,", "1;", "a", "N", "none", "1\n", "\n1", "1\t", "\x00", "1\x00", "\xff", "1\xff", "１", "1000000000000001", "-1000000000000001", "9223372036854775808", "18446744073709551617", "4611686018427387904", strings.Repeat("1", 1000), "0" + strings.Repeat("0", 100)}
	for _, n := range append(oddIntegers(), 2, 3, 5, 19, 20, 21, 32, 33, 34, 63, 65, 66, 255, 256, 257, 4095, 4096, 4097, 999999, 1000000, 1000001, mostWord, wordsEnd, wordsEnd+1, halfAndOne, 999999999999999) {
		words = append(words, fmt.Sprint(n), "0"+fmt.Sprint(n))
	}
	return words
}

func textsForParts() []string {
	list := []string{"", "none", ",", ";", "/", "TEXT", "0", "0,1", "1,0", "0/1", "0,2,1", "3", "0;0;1", "0;0000000000000000;0000000000000001", "0;0000000000000000;0000000000000000", "3;0000000000000000;0000000000000000", "2;ABCDEFABCDEFABCD;0000000000000000", "4;0000000000000001;0000000000000001", "2,2;3,0,0,3", "2,2;3,0,0", "2,2;0,0,0,0", "2,2;60,0,0,0", "2,2;60,0,0,1", "4,4;4,4,4,4,4,4,4,4,4,4,4,4,4,4,4,0", "5,2;1,1,1,1,1,1,1,1,1,1"}
	for _, numbers := range [][]float32{{0}, {minusZero}, {1}, {0.25, 0.5}, {least}, {1, minusZero, 0}, repeated[float32](0.5, 64), repeated[float32](0.5, 65), repeated[float32](0.5, 256), repeated[float32](0.5, 257), {nan}, {inf}, {-inf}, {afterOne}, {-least}, {2}, {-1}, {0.5, nan}, {inf, 0.5}, {0.5, -least}, {afterOne, 0.5}, append(repeated[float32](0.5, 63), afterOne)} {
		list = append(list, numbersReference(numbers))
	}
	for _, d := range goodDesks()[:9] {
		list = append(list, seedReference(d.Seed), tableReference(d.Table), cycleTexts(cyclesReference(d.Order)))
	}
	return append(list, "7fc00001", "ffc00000", "3F000000", "3f00000", "3f0000000", "3f000000,", ",3f000000", "3f000000;3f000000", "3f000000\n", strings.Repeat("0,", 10000), strings.Repeat("/", 10000), strings.Repeat("00000000,", 10000)+"00000000")
}

func TestLinesOfTexts(t *testing.T) {
	outputs := map[string]int{}
	for i, d := range goodDesks() {
		for k, text := range textsForParts() {
			for _, name := range strings.Fields(textNames) {
				if i < 9 || (i+k)%5 == 0 {
					outputs[name+wantLine(t, d, name+" "+text)]++
				}
			}
		}
	}
	for _, name := range strings.Fields(textNames) {
		wantSame(t, "some texts are taken, and some are not: "+name, outputs[name+"ok"] > 9 && outputs[name+"no"] > 9, true)
	}
}

func TestLinesOfNumbers(t *testing.T) {
	outputs := map[string]int{}
	for i, d := range goodDesks() {
		for k, word := range wordsForNumbers() {
			for _, name := range strings.Fields(numberNames) {
				if i < 9 || (i+k)%5 == 0 {
					if output := wantLine(t, d, name+" "+word); output == "no" {
						outputs[name+"no"]++
					} else {
						outputs[name]++
					}
				}
			}
		}
	}
	for _, name := range strings.Fields(numberNames) {
		wantSame(t, "some numbers are taken, and some are not: "+name, outputs[name] > 9 && outputs[name+"no"] > 9, true)
	}
}

func TestLinesOfOneWord(t *testing.T) {
	refused := map[string]int{}
	for _, d := range goodDesks() {
		for _, name := range strings.Fields(textNames + " " + aloneNames) {
			if wantLine(t, d, name) == "no" {
				refused[name]++
			}
		}
	}
	for _, name := range allNames() {
		wantSame(t, "some desks refuse it: "+name, refused[name] > 0, strings.Contains(" number less both exact ", " "+name+" "))
	}
}

// TestLinesThatAreNone takes each form with too many words, or too few, and with other bytes.
func TestLinesThatAreNone(t *testing.T) {
	d := impl.NewDesk()
	for _, line := range []string{"", " ", "  ", "   ", "\t", "\n", "\r", "\x00", "\xff", "ok", "no", "what", "N", "TEXT", "none", "0", "seeds", "see", "desk", "list0", "words2", "words,2", "words\t2", "words\n2", "words;2", "2 words", "any other line", "journal", "run", "é", "ｓeed", strings.Repeat(" ", 100000), strings.Repeat("seed", 100000), strings.Repeat("seed ", 100000)} {
		wantSame(t, fmt.Sprintf("a line that is none: %.100q", line), wantLine(t, d, line), "what")
	}
	for _, name := range allNames() {
		taken := name
		switch {
		case strings.Contains(numberNames, name):
			taken = name + " 2"
		case strings.Contains(textNames, name):
			text, _ := oneWord(name)(&d)
			taken = name + " " + text
		}
		wantSame(t, "a line that is one: "+taken, wantLine(t, d, taken) != "what", true)
		for _, line := range []string{" " + taken, "  " + taken, taken + "  ", taken + " 2 2", taken + " \t ", name + "  2", name + "  ", name + "   ", name + " 2 ", name + " 2 2", name + " 2  ", strings.Replace(taken, " ", "  ", 1) + " ", strings.Replace(taken, " ", "\t", 1) + "\t", taken + " " + taken,
			strings.ToUpper(name) + taken[len(name):], strings.ToUpper(name[:1]) + taken[1:], name[1:] + taken[len(name):], name[:len(name)-1] + taken[len(name):], "x" + taken, name + "x" + taken[len(name):], "\x00" + taken, "\n" + taken, "\t" + taken, "\ufeff" + taken, name + "\x00" + taken[len(name):], name + "\n" + taken[len(name):], name + ":" + taken[len(name):], name[:1] + "\xff" + taken[2:]} {
			wantSame(t, fmt.Sprintf("a line that is none: %q", line), wantLine(t, d, line), "what")
		}
		alone, withOne := "what", "what"
		if !strings.Contains(numberNames, name) {
			alone = wantLine(t, d, name)
			wantSame(t, "a line that is one: "+name, alone != "what", true)
		}
		if !strings.Contains(aloneNames, name) {
			withOne = "no"
		}
		wantSame(t, "a line of the word alone: "+name, wantLine(t, d, name), alone)
		for _, word := range []string{"", "x", "\t", "\n", "-", "00", "１", "\xff", "2\n", "2\t", "2\x00"} {
			wantSame(t, fmt.Sprintf("a line with a word that is none: %q", name+" "+word), wantLine(t, d, name+" "+word), withOne)
		}
	}
}

// TestLinesWithOneByteChanged changes any byte of lines that are some.
func TestLinesWithOneByteChanged(t *testing.T) {
	d := impl.NewDesk()
	for _, line := range []string{"seed", "seed 2;0123456789abcdef;fedcba9876543210", "table 2,3;1,2,10,4,5,6", "table", "order 0,2/1", "order", "list 3f000000,00000000,3f800000", "list", "words 10", "skip 4096", "split 12", "below 100", "share", "draw 12", "ring 12", "code", "number", "tree 12", "sums", "less", "both", "exact", "plain", "holm", "step", "gap"} {
		for _, near := range textsNear(line) {
			wantLine(t, d, near)
		}
	}
}

func TestKnownLines(t *testing.T) {
	d := impl.NewDesk()
	// Each one tells the parts that are others behind it, with | between them.
	for _, c := range []struct{ line, output, told string }{
		{"seed", "0;0000000000000000;0000000000000001", ""}, {"table", "2,2;3,0,0,3", ""}, {"order", "0,2,1", ""}, {"list", "3e800000,3f000000", ""},
		{"seed 3;00000000000000ff;0000000000000010", "ok", "seed 3;00000000000000ff;0000000000000010"}, {"table 2,3;1,2,3,4,5,6", "ok", "table 2,3;1,2,3,4,5,6"}, {"order 0,1/2", "ok", "order 0,1/2"}, {"list 80000000,3f800000", "ok", "list 80000000,3f800000"},
		{"words 2", "0,1481765933", "seed 0;5851f42d4c957f2e;0000000000000001"}, {"words 0", "none", ""}, {"words 1", "0", "seed 0;0000000000000001;0000000000000001"}, {"words 65", "no", ""}, {"words 256", "no", ""}, {"words -1", "no", ""},
		{"skip 2", "ok", "seed 0;5851f42d4c957f2e;0000000000000001"}, {"skip 0", "ok", ""}, {"skip 1000000000000001", "no", ""}, {"skip 4611686018427387904", "no", ""}, {"split 1000001", "no", ""}, {"split -1", "no", ""},
		{"below 1", "0", "seed 0;0000000000000001;0000000000000001"}, {"below 4294967296", "0", "seed 0;0000000000000001;0000000000000001"}, {"below 0", "no", ""}, {"below 4294967297", "no", ""}, {"share", "00000000", "seed 0;0000000000000001;0000000000000001"},
		// The words are 0 and 1481765933, which is odd: below 3 and 2, they bring 0 and 1, and with RingOrder below 2 and 1, they bring 0 and 0.
		{"draw 3", "ok", "order 0,2/1|seed 0;5851f42d4c957f2e;0000000000000001"}, {"draw 1", "ok", "order 0"}, {"ring 3", "ok", "order 0,1,2|seed 0;5851f42d4c957f2e;0000000000000001"}, {"ring 2", "ok", "order 0,1|seed 0;0000000000000001;0000000000000001"}, {"draw 0", "no", ""}, {"draw 65", "no", ""}, {"ring 0", "no", ""}, {"ring 65", "no", ""},
		{"code", "2,0,0", ""}, {"number", "4", ""}, {"tree 2", "0,1", ""}, {"tree 3", "0,1,0,2", "seed 0;0000000000000001;0000000000000001"}, {"tree 1", "no", ""}, {"tree 34", "no", ""}, {"tree 64", "no", ""},
		{"sums", "3,3;3,3", ""}, {"less", "20/20", ""}, {"both", "2/20", ""}, {"exact", "2/20", ""},
		{"plain", "ok", "list 3f000000,3f800000"}, {"holm", "ok", "list 3f000000,3f000000"}, {"step", "ok", "list 3f000000,3f000000"}, {"gap", "3f000000", ""},
		{"seed none", "no", ""}, {"table none", "no", ""}, {"order none", "no", ""}, {"list none", "no", ""}, {"list 7fc00000", "no", ""}, {"list 3f800001", "no", ""}, {"list 80000001", "no", ""}, {"order 1,0", "no", ""}, {"order 0,1,1", "no", ""}, {"seed 0;0;1", "no", ""}, {"table 2,2;0,0,0,0", "no", ""}, {"seed ", "no", ""}, {"words ", "no", ""}, {"words", "what", ""}, {"share 1", "what", ""}, {"share ", "what", ""}, {"seed  ", "what", ""}, {"", "what", ""}, {" ", "what", ""}, {"Seed", "what", ""}, {"list none now", "what", ""},
	} {
		after, output, ok := impl.DeskCommand(d, c.line)
		wantSame(t, fmt.Sprintf("the output of %q", c.line), output, c.output)
		wantSame(t, fmt.Sprintf("DeskCommand succeeds: %q", c.line), ok, true)
		want := newDesk()
		for part := range strings.SplitSeq(c.told, "|") {
			name, text, _ := strings.Cut(part, " ")
			if name != "" {
				_, _ = withText(name, text)(&want)
			}
		}
		wantDesk(t, call{"the line ", c.line}, after, want)
		wantLine(t, d, c.line)
	}
}

// TestOutputsAtTheEnds has outputs that are as long as they can be, and numbers that no line can name.
func TestOutputsAtTheEnds(t *testing.T) {
	d := deskOf(impl.Seed{Kind: impl.SeedCount, A: 5, B: 6}, square(15, 15, 15, 15), descending(20), repeated[float32](1.0/64, 64)...)
	wantSame(t, "the number of the last order of 20 numbers", wantLine(t, d, "number"), "2432902008176639999")
	wantSame(t, "all tables of 60 things", strings.HasSuffix(wantLine(t, d, "less"), "/118264581564861424"), true)
	for line, words := range map[string]int{"words 64": 64, "tree 33": 64, "words 63": 63, "tree 32": 62} {
		output := wantLine(t, d, line)
		wantSame(t, "how many numbers: "+line, strings.Count(output, ",")+1, words)
	}
	for _, line := range []string{"words 65", "tree 34", "exact", "number 20"} {
		output := wantLine(t, d, line)
		wantSame(t, line, output == "no" || output == "what", true)
	}
	d.Order = descending(21)
	wantSame(t, "the number of an order of 21 numbers", wantLine(t, d, "number"), "no")
	wantSame(t, "the code of an order of 21 numbers", wantLine(t, d, "code"), integersReference(descending(21)))
	d.Order = descending(64)
	wantSame(t, "the code of an order of 64 numbers", wantLine(t, d, "code"), integersReference(descending(64)))
	wantSame(t, "64 shares of 1/64", wantLine(t, d, "plain"), "ok")
	d.Seed = stubborn
	wantSame(t, "BelowSeed of 64 words that are not taken", wantLine(t, d, fmt.Sprint("below ", halfAndOne)), "no")
	d.Seed, _ = impl.SkipSeed(stubborn, 1)
	wantSame(t, "BelowSeed whose 64th word is taken", wantLine(t, d, fmt.Sprint("below ", halfAndOne)), "723598182")
}

// TestBadDesksRefuseAll looks at desks that are not valid.
func TestBadDesksRefuseAll(t *testing.T) {
	desks := badDesks()
	text, _ := impl.JournalOf([]string{"gap", "seed 2;0000000000000001;0000000000000001"})
	for i, d := range desks {
		what := fmt.Sprint(d)
		for k, line := range []string{"", "seed", "words 2", "gap", "seed 0;0000000000000000;0000000000000001", "table 2,2;3,0,0,3", "order 0", "list 3f000000", "what", "plain", "draw 3"} {
			if i%11 != k && i%7 > 0 {
				continue
			}
			after, output, ok := impl.DeskCommand(d, line)
			wantFailure(t, "DeskCommand "+line+what, output, ok, after)
			after, output, ok = impl.RunDesk(d, line+"\n")
			wantFailure(t, "RunDesk "+line+what, output, ok, after)
		}
		after, output, ok := impl.RunDesk(d, "")
		wantFailure(t, "RunDesk of nothing "+what, output, ok, after)
		after, count, ok := impl.RunJournal(d, text)
		wantFailure(t, "RunJournal "+what, count, ok, after)
		after, count, ok = impl.RunJournal(d, "")
		wantFailure(t, "RunJournal of nothing "+what, count, ok, after)
	}
}

func TestNumbersOfLinesAreLimited(t *testing.T) {
	d := impl.NewDesk()
	for _, n := range []int64{math.MaxInt64, math.MinInt64, impl.MaxValue + 1, -impl.MaxValue - 1} {
		for _, name := range strings.Fields(numberNames) {
			wantSame(t, fmt.Sprint(name, " ", n), wantLine(t, d, fmt.Sprint(name, " ", n)), "no")
		}
	}
	wantSame(t, "the farthest skip of a line", wantLine(t, d, fmt.Sprint("skip ", impl.MaxValue)), "ok")
	d.Seed = impl.Seed{Kind: impl.SeedShift, A: 1}
	wantSame(t, "a far skip of a shift", wantLine(t, d, "skip 4097"), "no")
	wantSame(t, "the farthest skip of a shift", wantLine(t, d, "skip 4096"), "ok")
}
