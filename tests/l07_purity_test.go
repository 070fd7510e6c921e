package tests

import (
	"fmt"
	"testing"

	"loop.example/g01339/impl"
)

// chainCalls has the results of all functions of chapter 7, with arguments that may be any ones.
func chainCalls(s impl.Seed, a, b impl.Chain, row []float32, levels []int64, records, others []impl.Record, text string, x, y float32, n, m int64) string {
	results := []any{impl.ValidChain(a), impl.SameChain(a, b), impl.IsRow(row), impl.SameRecords(records, others)}
	chain := func(c impl.Chain, ok bool) { results = append(results, c, ok) }
	numbers := func(list []float32, ok bool) { results = append(results, list, ok) }
	number := func(x float32, ok bool) { results = append(results, x, ok) }
	bytes := func(s string, ok bool) { results = append(results, s, ok) }
	chain(impl.RingChain(n, x, y))
	numbers(impl.StepRow(a, row))
	numbers(impl.RunRow(a, row, n))
	rest, times, ok := impl.RestOf(a, x, n)
	results = append(results, rest, times, ok)
	chain(impl.JoinChains(a, b))
	chain(impl.LazyChain(a, x))
	number(impl.BalanceMiss(a, row))
	chain(impl.BackChain(a, row))
	chain(impl.WeighChain(a, row))
	groups, ok := impl.GroupsOfChain(a)
	results = append(results, groups, ok)
	numbers(impl.TimesTo(a, m))
	numbers(impl.ChancesTo(a, n, m))
	end, walk, ok := impl.WalkChain(s, a, m, n)
	results = append(results, end, walk, ok)
	end, times, at, ok := impl.MeetWalks(s, a, m, n, n)
	results = append(results, end, times, at, ok)
	end, at, far, ok := impl.PastDraw(s, a, n)
	results = append(results, end, at, far, ok)
	number(impl.SwapChance(x, y, y, x))
	end, chance, ok := impl.RareChance(s, a, m, levels, n)
	results = append(results, end, chance, ok)
	numbers(impl.RareShared(s, a, m, levels, n, n, n))
	for _, r := range records {
		results = append(results, impl.ValidRecord(r))
		bytes(impl.StoreRecord(r))
	}
	bytes(impl.StoreRecords(records))
	read, ok := impl.LoadRecord(text)
	results = append(results, read, ok)
	list, size, ok := impl.RecoverRecords(text)
	return fmt.Sprint(append(results, list, size, ok)...)
}

func spareChain(c impl.Chain) impl.Chain {
	return chainWith(c.Side, spare(c.Steps, 7)...)
}

func spareRecords(list []impl.Record) []impl.Record {
	copies := spare(list, recordOf("q", impl.Seed{}))
	for i, r := range copies {
		copies[i].Draws = spare(r.Draws, 7)
	}
	return copies
}

func TestArgumentsOfChainsAreNotChanged(t *testing.T) {
	chains := append(goodChains(), badChains()...)
	d := drawnBits(168)
	integers := append(oddIntegers(), 2, 3, 4, 5, 6, 7, 8, 9, 11, 12, 13, 16, 17, 65, 512, 513)
	numbers := append(oddNumbers(), 0.3, 0.9)
	good, bad := goodRecords(), badRecords()
	seeds := append(drawnSeeds(8), badSeeds()...)
	for at := range 900 {
		s, a, b := seeds[at%len(seeds)], spareChain(chains[at*7%len(chains)]), spareChain(chains[at*5%len(chains)])
		side := min(max(a.Side, 1), 12)
		rows, lists := append(rowsOf(&d, side), badRows(side)...), append(levelsOf(&d, 12, int64(at%3)), levelsOf(&d, side, 0)...)
		row, levels := spare(rows[at%len(rows)], 7), spare(lists[at%len(lists)], 7)
		records, others := spareRecords(good[at%50:][:at%9]), spareRecords(good[at%50:][:at%8])
		if at%5 == 0 {
			others = spareRecords([]impl.Record{good[at%50], bad[at%len(bad)]})
			records = spareRecords([]impl.Record{bad[at*3%len(bad)]})
		}
		text, _ := impl.StoreRecords(good[at%50:][:at%4])
		x, y := numbers[at%len(numbers)], numbers[at*7%len(numbers)]
		n, m := integers[at%len(integers)], integers[at*3%len(integers)]
		if at%2 == 0 {
			n, m, x, y = int64(at%16), int64(at%11)%side, 0.25, 0.5
		}
		all := func() string {
			text := fmt.Sprint(a.Steps[:cap(a.Steps)], b.Steps[:cap(b.Steps)], row[:cap(row)], levels[:cap(levels)])
			for _, list := range [][]impl.Record{records[:cap(records)], others[:cap(others)]} {
				for _, r := range list {
					text += fmt.Sprint(r.Name, r.Seed, r.Draws[:cap(r.Draws)])
				}
			}
			return text
		}
		calls := func() string {
			return chainCalls(s, a, b, row, levels, records, others, text, x, y, n, m)
		}
		before := all()
		wantSame(t, "the second call", calls(), calls())
		wantSame(t, "the arguments behind all calls", all(), before)
	}
}

func TestChainsReturnEqualResultsAtOnce(t *testing.T) {
	d := drawnBits(169)
	s, a, b := impl.Seed{Kind: impl.SeedShift, A: 77}, drawnChain(&d, 5, 0, 1), drawnChain(&d, 5, 1, 1)
	row, levels, records := []float32{1, 2, 3, 4, 5}, []int64{2, 4}, goodRecords()[:3]
	text, _ := impl.StoreRecords(records)
	calls := func() string {
		return chainCalls(s, a, b, row, levels, records, records, text[:len(text)-1], 0.25, 0.5, 4, 1)
	}
	wantEqualAtOnce(t, calls)
	wantNumbers(t, "a row behind all calls", row, []float32{1, 2, 3, 4, 5})
}

func TestListsOfChainsAreNew(t *testing.T) {
	s, c, row := impl.Seed{Kind: impl.SeedLine, B: 1}, chainWith(3, 0.5, 0.25, 0.25, 0.25, 0.5, 0.25, 0.25, 0.25, 0.5), []float32{1, 2, 3}
	steps := func(c impl.Chain, _ bool) []float32 { return c.Steps }
	numbers := func(list []float32, _ bool) []float32 { return list }
	integers := func(list []int64, _ bool) []int64 { return list }
	for name, call := range map[string]func() []float32{
		"RingChain":             func() []float32 { return steps(impl.RingChain(3, 0.5, 0.25)) },
		"StepRow":               func() []float32 { return numbers(impl.StepRow(c, row)) },
		"RunRow":                func() []float32 { return numbers(impl.RunRow(c, row, 2)) },
		"RunRow without a step": func() []float32 { return numbers(impl.RunRow(c, row, 0)) },
		"RestOf":                func() []float32 { list, _, _ := impl.RestOf(c, 1, 1); return list },
		"JoinChains":            func() []float32 { return steps(impl.JoinChains(c, stays(3))) },
		"LazyChain":             func() []float32 { return steps(impl.LazyChain(c, 0)) },
		"BackChain":             func() []float32 { return steps(impl.BackChain(c, []float32{1, 1, 1})) },
		"WeighChain":            func() []float32 { return steps(impl.WeighChain(c, []float32{1, 1, 1})) },
		"TimesTo":               func() []float32 { return numbers(impl.TimesTo(c, 1)) },
		"ChancesTo":             func() []float32 { return numbers(impl.ChancesTo(c, 1, 2)) },
		"RareShared":            func() []float32 { return numbers(impl.RareShared(s, c, 0, []int64{1, 2}, 2, 3, 2)) },
	} {
		wantNewList(t, name, call, -5)
	}
	r := recordOf("ab", s, 1, 2, 3)
	text, _ := impl.StoreRecord(r)
	for name, call := range map[string]func() []int64{
		"GroupsOfChain":  func() []int64 { return integers(impl.GroupsOfChain(c)) },
		"WalkChain":      func() []int64 { _, walk, _ := impl.WalkChain(s, c, 0, 3); return walk },
		"LoadRecord":     func() []int64 { read, _ := impl.LoadRecord(text); return read.Draws },
		"RecoverRecords": func() []int64 { list, _, _ := impl.RecoverRecords(text + text); return list[1].Draws },
	} {
		wantNewList(t, name, call, -5)
	}
	wantOwnMemory(t, func() [][]int64 {
		list, _, _ := impl.RecoverRecords(text + text + text)
		return [][]int64{list[0].Draws, list[1].Draws, list[2].Draws}
	}, -5)
	wantNumbers(t, "the row", row, []float32{1, 2, 3})
	wantNumbers(t, "the Steps", c.Steps, []float32{0.5, 0.25, 0.25, 0.25, 0.5, 0.25, 0.25, 0.25, 0.5})
	wantList(t, "the Draws", r.Draws, []int64{1, 2, 3})
}
