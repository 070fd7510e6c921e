package tests

import (
	"fmt"
	"math"
	"math/big"
	"regexp"
	"slices"
	"strconv"
	"strings"
	"testing"

	"loop.example/g01339/impl"
)

// The references of this chapter read texts by patterns, and reckon with the references of the other chapters.

func deskOf(s impl.Seed, table impl.Table, order []int64, list ...float32) impl.Desk {
	return impl.Desk{Seed: s, Table: table, Order: order, List: list}
}

func newDesk() impl.Desk {
	return deskOf(impl.Seed{B: 1}, square(3, 0, 0, 3), []int64{2, 0, 1}, 0.25, 0.5)
}

func isAnySeed(s impl.Seed) bool {
	return s.Kind >= 0 && s.Kind <= 3 && isSeed(s.Kind, s.A, s.B)
}

func isOrder(list []int64) bool {
	sorted := slices.Clone(list)
	slices.Sort(sorted)
	return len(list) >= 1 && len(list) <= 64 && slices.Equal(sorted, ascending(int64(len(list))))
}

func isShareList(list []float32) bool {
	return len(list) >= 1 && len(list) <= 64 && !slices.ContainsFunc(list, func(x float32) bool { return !(x >= 0 && x <= 1) })
}

func isDesk(d impl.Desk) bool {
	return isAnySeed(d.Seed) && isTable(d.Table) && isOrder(d.Order) && isShareList(d.List)
}

func sameDesk(a, b impl.Desk) bool {
	return a.Seed == b.Seed && a.Table.Rows == b.Table.Rows && a.Table.Columns == b.Table.Columns && slices.Equal(a.Table.Counts, b.Table.Counts) && slices.Equal(a.Order, b.Order) && sameNumbers(a.List, b.List)
}

func copyOfDesk(d impl.Desk) impl.Desk {
	return deskOf(d.Seed, tableOf(d.Table.Rows, d.Table.Columns, slices.Clone(d.Table.Counts)...), slices.Clone(d.Order), slices.Clone(d.List)...)
}

func spareDesk(d impl.Desk) impl.Desk {
	return deskOf(d.Seed, spareTable(d.Table), spare(d.Order, 7), spare(d.List, 7)...)
}

// wantDesk compares desks by all of their numbers.
func wantDesk(t *testing.T, what call, got, want impl.Desk) {
	t.Helper()
	if !sameDesk(got, want) {
		t.Errorf("%v: got the desk %v, want %v", what, got, want)
	}
}

func seedReference(s impl.Seed) string { return fmt.Sprintf("%d;%016x;%016x", s.Kind, s.A, s.B) }

func integersReference(list []int64) string {
	if len(list) == 0 {
		return "none"
	}
	return strings.ReplaceAll(strings.Trim(fmt.Sprint(list), "[]"), " ", ",")
}

func numbersReference(list []float32) string {
	text := "none"
	for i, x := range list {
		if i == 0 {
			text = ""
		} else {
			text += ","
		}
		text += fmt.Sprintf("%08x", bitsOf(x))
	}
	return text
}

func tableReference(t impl.Table) string {
	return fmt.Sprintf("%d,%d;%s", t.Rows, t.Columns, integersReference(t.Counts))
}

// cycleTexts joins the texts of any lists, of which an order may have none.
func cycleTexts(cycles [][]int64) string {
	texts := []string{}
	for _, cycle := range cycles {
		texts = append(texts, integersReference(cycle))
	}
	return strings.Join(texts, "/")
}

func integersIn(text string) []int64 {
	list := []int64{}
	for _, digits := range regexp.MustCompile(`[0-9]+`).FindAllString(text, -1) {
		n, err := strconv.ParseInt(digits, 10, 64)
		if err != nil {
			n = -1
		}
		list = append(list, n)
	}
	return list
}

var (
	seedPattern   = regexp.MustCompile(`^([0-3]);([0-9a-f]{16});([0-9a-f]{16})$`)
	tablePattern  = regexp.MustCompile(`^[2-4],[2-4];(0|[1-9][0-9]*)(,(0|[1-9][0-9]*))*$`)
	cyclePattern  = regexp.MustCompile(`^(0|[1-9][0-9]*)([,/](0|[1-9][0-9]*))*$`)
	sharePattern  = regexp.MustCompile(`^[0-9a-f]{8}(,[0-9a-f]{8}){0,63}$`)
	numberPattern = regexp.MustCompile(`^(0|-?[1-9][0-9]{0,15})$`)
)

func readSeedReference(text string) (impl.Seed, bool) {
	parts := seedPattern.FindStringSubmatch(text)
	if parts == nil {
		return impl.Seed{}, false
	}
	a, _ := new(big.Int).SetString(parts[2], 16)
	b, _ := new(big.Int).SetString(parts[3], 16)
	s := impl.Seed{Kind: int64(parts[1][0] - '0'), A: a.Uint64(), B: b.Uint64()}
	return s, isAnySeed(s)
}

func readTableReference(text string) (impl.Table, bool) {
	if !tablePattern.MatchString(text) {
		return impl.Table{}, false
	}
	numbers := integersIn(text)
	t := tableOf(numbers[0], numbers[1], numbers[2:]...)
	return t, isTable(t)
}

// readCyclesReference turns each number to the one behind it, and takes only what it would write itself.
func readCyclesReference(text string) ([]int64, bool) {
	all := integersIn(text)
	if !cyclePattern.MatchString(text) || !isOrder(all) {
		return nil, false
	}
	order := slices.Clone(all)
	for _, cycle := range strings.Split(text, "/") {
		numbers := integersIn(cycle)
		for i, number := range numbers {
			order[number] = append(numbers, numbers[0])[i+1]
		}
	}
	return order, cycleTexts(cyclesReference(order)) == text
}

// readSharesReference takes only lists that a valid desk can have.
func readSharesReference(text string) ([]float32, bool) {
	if !sharePattern.MatchString(text) {
		return nil, false
	}
	list := []float32{}
	for _, digits := range strings.Split(text, ",") {
		bits, _ := strconv.ParseUint(digits, 16, 32)
		list = append(list, fromBits(uint32(bits)))
	}
	return list, isShareList(list)
}

func readNumberReference(text string) (int64, bool) {
	if !numberPattern.MatchString(text) {
		return 0, false
	}
	n, _ := strconv.ParseInt(text, 10, 64)
	return n, n >= -1000000000000000 && n <= 1000000000000000
}

// effect is what a line does to a desk: the output, and whether all went well.
type effect func(d *impl.Desk) (string, bool)

// oneWord has what a line of one word does, or nil.
func oneWord(name string) effect {
	tail := func(at, most int64, counted func(own *big.Int, first int64, weight *big.Int, counts []int64) bool) effect {
		return func(d *impl.Desk) (string, bool) { return tailReference(d.Table, at, most, counted) }
	}
	atMost := func(own *big.Int, _ int64, weight *big.Int, _ []int64) bool { return weight.Cmp(own) <= 0 }
	many := func(told func(list []float32) []float32) effect {
		return func(d *impl.Desk) (string, bool) { d.List = told(d.List); return "ok", true }
	}
	return map[string]effect{
		"seed":  func(d *impl.Desk) (string, bool) { return seedReference(d.Seed), true },
		"table": func(d *impl.Desk) (string, bool) { return tableReference(d.Table), true },
		"order": func(d *impl.Desk) (string, bool) { return cycleTexts(cyclesReference(d.Order)), true },
		"list":  func(d *impl.Desk) (string, bool) { return numbersReference(d.List), true },
		"share": func(d *impl.Desk) (string, bool) {
			from := draws{d.Seed}
			share := from.share()
			d.Seed = from.at
			return numbersReference([]float32{share}), true
		},
		"code": func(d *impl.Desk) (string, bool) { return integersReference(codeReference(d.Order)), true },
		"number": func(d *impl.Desk) (string, bool) {
			number := new(big.Int)
			for i, digit := range codeReference(d.Order) {
				number.Add(number.Mul(number, big.NewInt(int64(len(d.Order)-i))), big.NewInt(digit))
			}
			return number.String(), len(d.Order) <= 20
		},
		"sums": func(d *impl.Desk) (string, bool) {
			rows, columns := sumsReference(d.Table)
			return integersReference(rows) + ";" + integersReference(columns), true
		},
		"less": tail(2, 60, func(_ *big.Int, first int64, _ *big.Int, counts []int64) bool { return counts[0] <= first }),
		"both": tail(2, 60, atMost), "exact": tail(3, 20, atMost),
		"plain": many(func(list []float32) []float32 {
			longer := []float32{}
			for _, share := range list {
				longer = append(longer, upToOne(shortTimes(share, float32(len(list)))))
			}
			return longer
		}),
		"holm": many(holmReference), "step": many(stepReference),
		"gap": func(d *impl.Desk) (string, bool) { return numbersReference([]float32{gapReference(d.List)}), true },
	}[name]
}

// tailReference adds the weights of all tables with the sums of one that has at
// most so many rows and columns, and at most so many things.
func tailReference(t impl.Table, side, most int64, counted func(own *big.Int, first int64, weight *big.Int, counts []int64) bool) (string, bool) {
	if t.Rows > side || t.Columns > side || total(t.Counts) > most {
		return "", false
	}
	part, all := new(big.Int), new(big.Int)
	for _, counts := range greaterWith(t) {
		weight := weightReference(tableOf(t.Rows, t.Columns, counts...))
		all.Add(all, weight)
		if counted(weightReference(t), t.Counts[0], weight, counts) {
			part.Add(part, weight)
		}
	}
	return fmt.Sprint(part, "/", all), true
}

// withText has what a line of a word and a text does, or nil.
func withText(name, text string) effect {
	done := "ok"
	return map[string]effect{
		"seed":  func(d *impl.Desk) (_ string, ok bool) { d.Seed, ok = readSeedReference(text); return done, ok },
		"table": func(d *impl.Desk) (_ string, ok bool) { d.Table, ok = readTableReference(text); return done, ok },
		"order": func(d *impl.Desk) (_ string, ok bool) { d.Order, ok = readCyclesReference(text); return done, ok },
		"list":  func(d *impl.Desk) (_ string, ok bool) { d.List, ok = readSharesReference(text); return done, ok },
	}[name]
}

// withNumber has what a line of a word and a number does, or nil; the number must be from low to high.
func withNumber(name string, n int64) (do effect, low, high int64) {
	drawn := func(draw func(from *draws, d *impl.Desk) string) effect {
		return func(d *impl.Desk) (string, bool) {
			from := draws{d.Seed}
			output := draw(&from, d)
			d.Seed = from.at
			return output, true
		}
	}
	switch name {
	case "words":
		return drawn(func(from *draws, _ *impl.Desk) string {
			words := []int64{}
			for range n {
				words = append(words, from.word())
			}
			return integersReference(words)
		}), 0, 64
	case "skip":
		return func(d *impl.Desk) (string, bool) { return skipReference(d, n) }, 0, math.MaxInt64
	case "split":
		return func(d *impl.Desk) (string, bool) { d.Seed = splitReference(d.Seed, uint64(n)); return "ok", true }, 0, 1000000
	case "below":
		return func(d *impl.Desk) (string, bool) {
			// The only seed that is known to bring 64 words that are not taken.
			if d.Seed == stubborn && n == halfAndOne {
				return "", false
			}
			return drawn(func(from *draws, _ *impl.Desk) string { return fmt.Sprint(from.below(n)) })(d)
		}, 1, wordsEnd
	case "draw", "ring":
		least := map[string]int64{"draw": 1, "ring": 0}[name]
		return drawn(func(from *draws, d *impl.Desk) string { d.Order = orderReference(from, n, least); return "ok" }), 1, 64
	case "tree":
		return drawn(func(from *draws, _ *impl.Desk) string {
			code := []int64{}
			for range n - 2 {
				code = append(code, from.below(n))
			}
			return integersReference(treeOfCodeReference(code))
		}), 2, 33
	}
	return nil, 0, 0
}

func skipReference(d *impl.Desk, n int64) (string, bool) {
	switch {
	case d.Seed.Kind == impl.SeedLine:
		d.Seed = lineReference(d.Seed, n)
	case d.Seed.Kind == impl.SeedCount:
		d.Seed = countReference(d.Seed, n)
	case n > 4096:
		return "", false
	default:
		d.Seed = (draws{d.Seed}).behind(int(n)).at
	}
	return "ok", true
}

// lineOfDesk carries out a line, word by word.
func lineOfDesk(d impl.Desk, line string) (impl.Desk, string) {
	words := strings.Split(line, " ")
	do, can := oneWord(words[0]), true
	switch len(words) {
	case 1:
	case 2:
		do = withText(words[0], words[1])
		n, isNumber := readNumberReference(words[1])
		if doNumber, low, high := withNumber(words[0], n); doNumber != nil {
			do, can = doNumber, isNumber && n >= low && n <= high
		}
	default:
		do = nil
	}
	if do == nil {
		return d, "what"
	}
	if !can {
		return d, "no"
	}
	after := copyOfDesk(d)
	if output, ok := do(&after); ok && isDesk(after) {
		return after, output
	}
	return d, "no"
}
