package tests

import (
	"fmt"
	"slices"
	"testing"

	"loop.example/g01339/impl"
)

// testCalls has the results of all functions of chapter 6, with arguments that may be any ones.
func testCalls(s impl.Seed, x, y impl.Table, a, b []int64, list []float32, bits []bool, low, high float32, n, m int64) string {
	results := []any{impl.ValidTable(x), impl.SameTable(x, y)}
	tail := func(part, all int64, ok bool) { results = append(results, part, all, ok) }
	count := func(n int64, ok bool) { results = append(results, n, ok) }
	integers := func(list []int64, ok bool) { results = append(results, list, ok) }
	numbers := func(list []float32, ok bool) { results = append(results, list, ok) }
	integers(impl.RowSums(x))
	integers(impl.ColumnSums(x))
	count(impl.Choices(n, m))
	count(impl.TablesWith(a, b))
	tail(impl.LessTail(x))
	tail(impl.BothTails(x))
	tail(impl.ExactTail(x))
	tail(impl.SignTail(n, m))
	integers(impl.RanksOf(a))
	count(impl.RankSum(a, b))
	tail(impl.RankTail(a, b))
	tail(impl.SignedTail(a))
	tail(impl.SumTail(a, b))
	end, drawn, ok := impl.DrawnTail(s, a, b, n)
	results = append(results, end, drawn, ok)
	count(impl.StairGap(a, b))
	tail(impl.StairTail(n, m, n))
	end, means, ok := impl.DrawnMeans(s, list, n)
	results = append(results, end, means, ok)
	from, to, ok := impl.BandOf(list, low)
	results = append(results, from, to, ok)
	share, ok := impl.ShareOfTail(n, m)
	results = append(results, share, ok)
	numbers(impl.PlainMany(list))
	numbers(impl.HolmMany(list))
	numbers(impl.StepMany(list))
	numbers(impl.RatioWalk(bits, low, high))
	tail(impl.RatioStop(bits, low, high, -1, high))
	numbers(impl.BetWealth(bits, low, high))
	return fmt.Sprint(results...)
}

func spareTable(t impl.Table) impl.Table {
	return tableOf(t.Rows, t.Columns, spare(t.Counts, 7)...)
}

func TestArgumentsOfTestsAreNotChanged(t *testing.T) {
	tables := append(badTables(), drawnTables(60)[:700]...)
	tables = append(tables, square(3, 0, 0, 3), tableOf(3, 3, 3, 2, 2, 2, 3, 2, 2, 2, 2))
	samples := append(goodSamples(), badSamples()...)
	samples = append(samples, []int64{24, 24, 24}, []int64{18, 18, 18, 18}, []int64{5, -3, 8, 0, 2, -3})
	lists := append(append(listsToDraw(), manyShares()[:40]...), nil, []float32{nan}, []float32{0.5, inf}, repeated[float32](0.5, 65), wholes(256), wholes(257))
	bits := append(listsOfBits(), badBits()...)
	numbers := append(oddNumbers(), 0.3, 0.9)
	integers := append(oddIntegers(), 2, 3, 5, 30, 31, 40, 60, 61, 256, 257, 1000, 1001)
	seeds := append(drawnSeeds(8), badSeeds()...)
	for at := range 900 {
		s, x, y := seeds[at%len(seeds)], spareTable(tables[at*7%len(tables)]), spareTable(tables[at*5%len(tables)])
		a, b := spare(samples[at*3%len(samples)], 7), spare(samples[at*11%len(samples)], 7)
		list, walk := spare(lists[at*13%len(lists)], 0.7), spare(bits[at%len(bits)], true)
		low, high := numbers[at%len(numbers)], numbers[at*7%len(numbers)]
		n, m := integers[at%len(integers)], integers[at*3%len(integers)]
		all := func() string {
			return fmt.Sprint(x.Counts[:cap(x.Counts)], y.Counts[:cap(y.Counts)], a[:cap(a)], b[:cap(b)], list[:cap(list)], walk[:cap(walk)])
		}
		calls := func() string { return testCalls(s, x, y, a, b, list, walk, low, high, n, m) }
		before := all()
		wantSame(t, "the second call", calls(), calls())
		wantSame(t, "the arguments behind all calls", all(), before)
	}
}

func TestTestsReturnEqualResultsAtOnce(t *testing.T) {
	s, x, y := impl.Seed{Kind: impl.SeedShift, A: 77}, square(3, 1, 2, 4), square(3, 1, 2, 5)
	a, b, list, bits := []int64{3, 1, 2, 0}, []int64{1, 2, 3}, []float32{0.25, 0.5, 0.5}, []bool{true, false, true}
	calls := func() string { return testCalls(s, x, y, a, b, list, bits, 0.25, 0.5, 20, 30) }
	wantEqualAtOnce(t, calls)
	wantList(t, "a sample behind all calls", a, []int64{3, 1, 2, 0})
	wantNumbers(t, "a list behind all calls", list, []float32{0.25, 0.5, 0.5})
}

// wantNewList changes a result, which must change no later one.
func wantNewList[T any](t *testing.T, name string, call func() []T, other T) {
	t.Helper()
	want := fmt.Sprint(call())
	wantSame(t, name+" has numbers", len(call()) > 1, true)
	changed := call()
	changed = changed[:cap(changed)]
	for i := range changed {
		changed[i] = other
	}
	wantSame(t, name+" behind a change of its result", fmt.Sprint(call()), want)
}

func TestListsOfTestsAreNew(t *testing.T) {
	s, table, sample := impl.Seed{Kind: impl.SeedLine, B: 1}, tableOf(2, 3, 1, 2, 3, 4, 5, 6), []int64{1, 2, 3}
	list, ones, bits := []float32{0.25, 0.5, 0.75}, []float32{1, 1}, []bool{true, false}
	integers := func(list []int64, _ bool) []int64 { return list }
	numbers := func(list []float32, _ bool) []float32 { return list }
	for name, call := range map[string]func() []int64{
		"RowSums":    func() []int64 { return integers(impl.RowSums(table)) },
		"ColumnSums": func() []int64 { return integers(impl.ColumnSums(table)) },
		"RanksOf":    func() []int64 { return integers(impl.RanksOf(sample)) },
	} {
		wantNewList(t, name, call, -5)
	}
	for name, call := range map[string]func() []float32{
		"DrawnMeans":                  func() []float32 { _, means, _ := impl.DrawnMeans(s, list, 3); return means },
		"PlainMany":                   func() []float32 { return numbers(impl.PlainMany(list)) },
		"HolmMany":                    func() []float32 { return numbers(impl.HolmMany(list)) },
		"StepMany":                    func() []float32 { return numbers(impl.StepMany(list)) },
		"StepMany that changes none":  func() []float32 { return numbers(impl.StepMany(ones)) },
		"RatioWalk":                   func() []float32 { return numbers(impl.RatioWalk(bits, 0.25, 0.5)) },
		"BetWealth":                   func() []float32 { return numbers(impl.BetWealth(bits, 0.25, 0.5)) },
		"BetWealth that stakes none ": func() []float32 { return numbers(impl.BetWealth(bits, 0.25, 0)) },
	} {
		wantNewList(t, name, call, -5)
	}
	wantList(t, "the counts", table.Counts, []int64{1, 2, 3, 4, 5, 6})
	wantList(t, "the sample", sample, []int64{1, 2, 3})
	wantNumbers(t, "the list", list, []float32{0.25, 0.5, 0.75})
	wantNumbers(t, "the list of ones", ones, []float32{1, 1})
	wantSame(t, "the bits", slices.Equal(bits, []bool{true, false}), true)
}
