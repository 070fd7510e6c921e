package tests

import (
	"fmt"
	"testing"

	"loop.example/g01339/impl"
)

// shareCalls has the results of all functions of chapter 5, with arguments that may be any ones.
func shareCalls(seed impl.Seed, a, b impl.Share, m impl.Mixture, list []float32, counts []int64, x, y float32, n int64) string {
	results := []any{impl.ValidShare(a), impl.SameShare(a, b), impl.ValidMixture(m)}
	number := func(x float32, ok bool) { results = append(results, bitsOf(x), ok) }
	share := func(s impl.Share, ok bool) { results = append(results, s, ok) }
	share(impl.PlainShare(list))
	share(impl.CountShare(list, counts))
	share(impl.HitsShare(n, x))
	share(impl.RareShare(x, n))
	number(impl.MeanOfShare(a))
	number(impl.MomentOf(a, n))
	number(impl.ChanceBelow(a, x))
	number(impl.QuantileOf(a, x))
	share(impl.ShiftShare(a, x, y))
	share(impl.AddShares(a, b))
	share(impl.SumShare(a, n))
	share(impl.GreaterShare(a, b))
	share(impl.MixShares(a, b, x))
	share(impl.GivenAbove(a, x))
	number(impl.EntropyOf(a))
	number(impl.ApartShares(a, b))
	number(impl.StepsApart(a, b))
	end, drawn, ok := impl.SeedShare(seed, a)
	results = append(results, end, drawn, ok)
	number(impl.BellBelow(x))
	number(impl.BellAt(x))
	number(impl.MixtureAt(m, x))
	number(impl.LikeOf(m, list))
	fitted, ok := impl.FitMixture(m, list, n)
	return fmt.Sprint(append(results, fitted, ok)...)
}

func spareShare(s impl.Share) impl.Share {
	return shareOf(spare(s.Values, 7), spare(s.Chances, 7)...)
}

func TestSharesAreNotChanged(t *testing.T) {
	shares := append(goodShares()[:60], badShares()...)
	mixtures := append(goodMixtures(), badMixtures()...)
	lists := append(numbersToFit(), listsNotToGather()...)
	lists = append(lists, []float32{3, 1, 2, 1, minusZero, 0})
	numbers := append(oddNumbers(), 0.3, 6, -6, 32, 33)
	integers := append(oddIntegers(), 2, 3, 8, 9, 16, 17, 63, 65)
	seeds := append(drawnSeeds(8), badSeeds()...)
	for i, s := range shares {
		for k := range 12 {
			at := i*12 + k
			a, b, m := spareShare(s), spareShare(shares[at*7%len(shares)]), mixtures[at%len(mixtures)]
			m = mixtureOf(spare(m.Weights, 7), spare(m.Means, 7), spare(m.Spreads, 7))
			list := spare(lists[at%len(lists)], 7)
			counts := spare(repeated[int64](3, len(list)), 7)
			x, y, n := numbers[at%len(numbers)], numbers[at*5%len(numbers)], integers[at%len(integers)]
			all := func() string {
				return fmt.Sprint(a.Values[:cap(a.Values)], a.Chances[:cap(a.Chances)], b.Values[:cap(b.Values)], b.Chances[:cap(b.Chances)], m.Weights[:cap(m.Weights)], m.Means[:cap(m.Means)], m.Spreads[:cap(m.Spreads)], list[:cap(list)], counts[:cap(counts)])
			}
			calls := func() string { return shareCalls(seeds[at%len(seeds)], a, b, m, list, counts, x, y, n) }
			before := all()
			wantSame(t, "the second call", calls(), calls())
			wantSame(t, "the arguments behind all calls", all(), before)
		}
	}
}

func TestSharesReturnEqualResultsAtOnce(t *testing.T) {
	a, b := shareOf([]float32{0, 1, 2}, 0.25, 0.5, 0.25), shareOf([]float32{-1, 1}, 0.5, 0.5)
	m, list := oneBell(0, 2), []float32{1, 2, 2, 5}
	calls := func() string {
		return shareCalls(impl.Seed{Kind: impl.SeedShift, A: 77}, a, b, m, list, []int64{1, 2, 3, 4}, 0.5, 3, 2)
	}
	wantEqualAtOnce(t, calls)
}

func TestSharesAreNew(t *testing.T) {
	coin, other := shareOf([]float32{0, 1, 2}, 0.25, 0.5, 0.25), shareOf([]float32{-1, 1, 5}, 0.25, 0.25, 0.5)
	m := mixtureOf([]float32{0.25, 0.25, 0.5}, []float32{0, 2, 4}, []float32{1, 0.5, 2})
	values, list := []float32{3, 1, 2}, []float32{1, 2, 5}
	share := func(s impl.Share, _ bool) [][]float32 { return [][]float32{s.Values, s.Chances} }
	mixture := func(m impl.Mixture, _ bool) [][]float32 { return [][]float32{m.Weights, m.Means, m.Spreads} }
	all := func() string { return fmt.Sprint(coin, other, m, values, list) }
	before := all()
	for name, lists := range map[string]func() [][]float32{
		"PlainShare":              func() [][]float32 { return share(impl.PlainShare(values)) },
		"CountShare":              func() [][]float32 { return share(impl.CountShare(values, []int64{1, 2, 3})) },
		"HitsShare":               func() [][]float32 { return share(impl.HitsShare(4, 0.5)) },
		"RareShare":               func() [][]float32 { return share(impl.RareShare(2, 4)) },
		"ShiftShare":              func() [][]float32 { return share(impl.ShiftShare(coin, 1, 0)) },
		"AddShares":               func() [][]float32 { return share(impl.AddShares(coin, other)) },
		"SumShare of one":         func() [][]float32 { return share(impl.SumShare(coin, 1)) },
		"SumShare":                func() [][]float32 { return share(impl.SumShare(coin, 3)) },
		"GreaterShare":            func() [][]float32 { return share(impl.GreaterShare(coin, other)) },
		"MixShares":               func() [][]float32 { return share(impl.MixShares(coin, other, 0.5)) },
		"MixShares of a alone":    func() [][]float32 { return share(impl.MixShares(coin, coin, 0)) },
		"GivenAbove":              func() [][]float32 { return share(impl.GivenAbove(coin, -1)) },
		"FitMixture":              func() [][]float32 { return mixture(impl.FitMixture(m, list, 2)) },
		"FitMixture of no rounds": func() [][]float32 { return mixture(impl.FitMixture(m, list, 0)) },
	} {
		for _, one := range lists() {
			wantSame(t, name+" has at least three numbers", len(one) >= 3, true)
		}
		want := fmt.Sprint(lists())
		wantOwnMemory(t, lists, -5)
		for _, one := range lists() {
			one = one[:cap(one)]
			for i := range one {
				one[i] = -5
			}
		}
		wantSame(t, name+" behind a change of its result", fmt.Sprint(lists()), want)
		wantSame(t, "the arguments behind a change of the result of "+name, all(), before)
	}
}
