package tests

import (
	"fmt"
	"math"
	"testing"

	"loop.example/g01339/impl"
)

// drawCalls has the results of all functions that draw numbers, with some
// numbers, which may be any ones.
func drawCalls(s impl.Seed, x, y float32, n, k int64) string {
	list := []any{}
	add := func(results ...any) { list = append(list, results...) }
	number := func(end impl.Seed, x float32, ok bool) { add(end, bitsOf(x), ok) }
	count := func(end impl.Seed, n int64, ok bool) { add(end, n, ok) }
	numbers := func(end impl.Seed, list []int64, ok bool) { add(end, list, ok) }
	number(impl.EvenSeed(s))
	number(impl.BetweenSeed(s, x, y))
	end, pair, ok := impl.BellPair(s)
	add(end, bitsOf(real(pair)), bitsOf(imag(pair)), ok)
	number(impl.BellQuotient(s))
	number(impl.WaitSeed(s, x))
	number(impl.GammaSeed(s, x))
	number(impl.BetaSeed(s, x, y))
	count(impl.CountSeed(s, x))
	count(impl.HitsSeed(s, n, x))
	count(impl.FirstSeed(s, x))
	numbers(impl.CardsSeed(s, n))
	numbers(impl.SampleSeed(s, n, k))
	numbers(impl.ReturnSeed(s, n, k))
	lists, ok := impl.BellsShared(s, n, k, k)
	add(lists, ok)
	return fmt.Sprint(list...)
}

func TestDrawsReturnEqualResults(t *testing.T) {
	seeds := append(append(badSeeds(), drawnSeeds(8)...), seedOfZeros(0), seedOfZeros(8))
	numbers := append(oddNumbers(), 2, 32, 33, 999, 1000, 1001, 0x1p-24, 0x1p-25, 1-0x1p-24)
	integers := append(oddIntegers(), 2, 8, 16, 17, 63, 65, 256, 257)
	for i, s := range seeds {
		for k, x := range numbers {
			y := numbers[(i+k*3)%len(numbers)]
			n, m := integers[(i+k)%len(integers)], integers[(i*3+k*5)%len(integers)]
			wantSame(t, fmt.Sprint("the second call with ", s, x, y, n, m), drawCalls(s, x, y, n, m), drawCalls(s, x, y, n, m))
		}
	}
}

func TestDrawsReturnEqualResultsAtOnce(t *testing.T) {
	s := impl.Seed{Kind: impl.SeedShift, A: 77}
	wantEqualAtOnce(t, func() string { return drawCalls(s, 0.5, 3, 16, 8) })
}

// pickCalls has the results of all functions that take lists.
func pickCalls(s impl.Seed, weights []float32, whole, tree, others []int64, k int64) string {
	list := []any{impl.ArePicks(weights)}
	add := func(results ...any) { list = append(list, results...) }
	count := func(end impl.Seed, n int64, ok bool) { add(end, n, ok) }
	numbers := func(end impl.Seed, list []int64, ok bool) { add(end, list, ok) }
	numbers(impl.StreamSeed(s, whole, k))
	count(impl.PickSeed(s, weights))
	alias, ok := impl.AliasOf(weights)
	add(alias, ok)
	given := impl.Alias{Shares: weights, Others: others}
	add(impl.ValidAlias(given))
	count(impl.AliasSeed(s, given))
	grown, ok := impl.TreeOf(whole)
	add(grown, ok)
	grown, ok = impl.TreeAdd(tree, k-1, 1)
	add(grown, ok)
	sum, ok := impl.TreeSum(tree, k)
	add(sum, ok)
	count(impl.TreeSeed(s, tree))
	numbers(impl.SplitCounts(s, 20, weights))
	return fmt.Sprint(list...)
}

func TestListsOfDrawsAreNotChanged(t *testing.T) {
	succeeded := 0
	for _, n := range []int{0, 1, 2, 31, 63, 64, 65, 256, 257} {
		d := drawnBits(51)
		var weights []float32
		var whole, others []int64
		for range n {
			weights = append(weights, float32(d.next()%1000)/1000)
			whole = append(whole, int64(d.next()%1000))
			others = append(others, int64(d.next()%uint32(n)))
		}
		tree := treeReference(whole)
		weights, whole, others, tree = spare(weights, 7), spare(whole, 7), spare(others, 7), spare(tree, 7)
		all := func() string {
			return fmt.Sprint(weights[:cap(weights)], whole[:cap(whole)], others[:cap(others)], tree[:cap(tree)])
		}
		before := all()
		for _, s := range append(drawnSeeds(4), impl.Seed{}) {
			for _, k := range []int64{-1, 0, 1, 2, int64(n), 64, 65, math.MinInt64, math.MaxInt64} {
				calls := func() string { return pickCalls(s, weights, whole, tree, others, k) }
				wantSame(t, "the second call", calls(), calls())
				wantSame(t, "the lists behind all calls", all(), before)
			}
		}
		if _, _, ok := impl.SplitCounts(impl.Seed{Kind: impl.SeedCount}, 1, weights); ok {
			succeeded++
		}
	}
	wantSame(t, "lists with which calls succeed", succeeded, 5)
}

func TestListsOfDrawsAreNew(t *testing.T) {
	s := impl.Seed{Kind: impl.SeedLine, B: 1}
	weights, whole, tree := []float32{1, 2, 3}, []int64{1, 2, 3, 4}, []int64{1, 3, 3, 10}
	call := map[string]func() []int64{
		"CardsSeed":   func() []int64 { _, list, _ := impl.CardsSeed(s, 5); return list },
		"SampleSeed":  func() []int64 { _, list, _ := impl.SampleSeed(s, 5, 3); return list },
		"ReturnSeed":  func() []int64 { _, list, _ := impl.ReturnSeed(s, 5, 3); return list },
		"StreamSeed":  func() []int64 { _, list, _ := impl.StreamSeed(s, whole, 4); return list },
		"AliasOf":     func() []int64 { a, _ := impl.AliasOf(weights); return a.Others },
		"TreeOf":      func() []int64 { list, _ := impl.TreeOf(whole); return list },
		"TreeAdd":     func() []int64 { list, _ := impl.TreeAdd(tree, 1, 0); return list },
		"SplitCounts": func() []int64 { _, list, _ := impl.SplitCounts(s, 5, weights); return list },
	}
	for name, list := range call {
		want := fmt.Sprint(list())
		changed := list()
		for i := range changed {
			changed[i] = -5
		}
		_ = append(changed[:0:cap(changed)], repeated[int64](-5, cap(changed))...)
		wantSame(t, name+" behind a change of its result", fmt.Sprint(list()), want)
	}
	a, _ := impl.AliasOf(weights)
	for i := range a.Shares {
		a.Shares[i] = -5
	}
	again, _ := impl.AliasOf(weights)
	wantAlias(t, "AliasOf behind a change of its result", again, aliasReference(weights))
	wantList(t, "the weights", weights, []float32{1, 2, 3})
	wantList(t, "the integers", whole, []int64{1, 2, 3, 4})
	wantList(t, "the tree", tree, []int64{1, 3, 3, 10})
}
