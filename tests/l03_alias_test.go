package tests

import (
	"fmt"
	"math"
	"slices"
	"testing"

	"loop.example/g01339/impl"
)

func sumOfWeights(weights []float32) float32 {
	sum := float32(0)
	for _, weight := range weights {
		sum = shortPlus(sum, weight)
	}
	return sum
}

// listsOfWeights has valid ones, with some of each length.
func listsOfWeights() [][]float32 {
	lists := [][]float32{
		{1}, {least}, {most}, {leastNormal}, {0, 2}, {2, 0}, {minusZero, 2}, {2, minusZero}, {0, 0, 1, 0, 0}, {1, 1}, {1, 3}, {3, 1}, {1, 2, 3, 4}, {4, 3, 2, 1},
		{least, 0}, {0, least}, {least, least}, {least, least, 0}, {0, least, least, minusZero}, {least, 2 * least}, {2 * least, least, 0},
		{most, 0}, {0, most, 1}, {most / 2, most / 2}, {most / 2, most / 4, most / 8}, {most / 128, 1, most / 128, 0, most / 2}, {1e30, 1, 1e-30}, {1, 0x1p-24}, {0x1p-24, 1}, {1, 0x1p-25, 0x1p-25},
		repeated[float32](1, 64), repeated(least, 64), repeated[float32](0.1, 63), repeated(most/64, 64),
		append(repeated[float32](0, 63), 1), append([]float32{1}, repeated[float32](0, 63)...),
	}
	d := drawnBits(31)
	for n := 1; n <= 64; n++ {
		for _, digits := range []uint32{2, 5, 1000, 1 << 30} {
			var weights []float32
			for range n {
				weights = append(weights, float32(d.next()%digits)/7)
			}
			if sumOfWeights(weights) > 0 {
				lists = append(lists, weights)
			}
		}
	}
	return lists
}

func badWeights() [][]float32 {
	lists := [][]float32{
		nil, {}, {0}, {minusZero}, {0, 0}, {minusZero, 0, minusZero}, repeated[float32](0, 64), {-1}, {-least}, {1, -least}, {-1, 2}, {5, -1, 5},
		{most, most}, {most, 1e32}, {1, most, most}, append(repeated[float32](1, 62), most, most), repeated(most/32, 64), repeated[float32](1, 65), append(repeated[float32](1, 64), 0), repeated[float32](1, 257), repeated[float32](1, 1000),
	}
	for _, odd := range oddFloats() {
		lists = append(lists, []float32{odd}, []float32{1, odd}, []float32{odd, 1, 1}, []float32{0, 1, odd, 1})
	}
	return lists
}

func TestArePicks(t *testing.T) {
	for _, weights := range listsOfWeights() {
		wantSame(t, fmt.Sprint("ArePicks ", weights), impl.ArePicks(weights), true)
	}
	for _, weights := range badWeights() {
		wantSame(t, fmt.Sprint("ArePicks ", weights), impl.ArePicks(weights), false)
	}
}

func pickReference(d *draws, weights []float32) int64 {
	level := shortTimes(d.share(), sumOfWeights(weights))
	for i := range weights {
		if sumOfWeights(weights[:i+1]) > level {
			return int64(i)
		}
	}
	for i := len(weights) - 1; ; i-- {
		if weights[i] > 0 {
			return int64(i)
		}
	}
}

func TestPickSeed(t *testing.T) {
	seeds := seedsOfDraws(60)
	for i, weights := range listsOfWeights() {
		for k, s := range seeds {
			if (i+k)%5 != 0 {
				continue
			}
			d := draws{s}
			want := pickReference(&d, weights)
			end, index, ok := impl.PickSeed(s, weights)
			wantDrawnCount(t, fmt.Sprint("PickSeed ", s, weights), d, want, end, index, ok)
			wantSame(t, fmt.Sprint("PickSeed of a weight of nothing ", s, weights), weights[index] > 0, true)
		}
	}
	for _, weights := range badWeights() {
		end, index, ok := impl.PickSeed(seeds[0], weights)
		wantFailure(t, fmt.Sprint("PickSeed ", weights), end, index, ok)
	}
	for _, s := range badSeeds() {
		end, index, ok := impl.PickSeed(s, []float32{1, 1})
		wantFailure(t, fmt.Sprint("PickSeed ", s), end, index, ok)
	}
}

func TestPickSeedOfKnownWords(t *testing.T) {
	for _, c := range []struct {
		word    int64
		weights []float32
		want    int64
	}{
		{0, []float32{0, 2}, 1}, {0, []float32{0, 0, 1, 1, 0}, 2}, {1 << 31, []float32{1, 1}, 1}, {1<<31 - 1, []float32{1, 1}, 0}, {mostWord, []float32{1, 1, 0}, 1},
		{1 << 30, []float32{1, 3}, 1}, {1<<30 - 1, []float32{1, 3}, 0}, {mostWord, []float32{1, 3, minusZero}, 1},
		// Of the least number, more than the half is rounded to all of it, so that no sum is greater.
		{1 << 31, []float32{least}, 0}, {mostWord, []float32{least}, 0}, {mostWord, []float32{least, 0, 0}, 0}, {mostWord, []float32{0, least, 0}, 1},
		{mostWord, []float32{least, least}, 1}, {mostWord, []float32{least, least, 0}, 1}, {mostWord, []float32{least, 0, least, 0, minusZero}, 2}, {1 << 31, []float32{least, least}, 1},
		// The sums do not grow by what is too small.
		{mostWord, []float32{0x1p26, 1}, 0}, {mostWord, []float32{1, 0x1p26}, 1}, {mostWord - 256, []float32{1, 0x1p-24, 0x1p-24}, 0},
	} {
		s := lineOfWord(c.word)
		d := draws{s}
		end, index, ok := impl.PickSeed(s, c.weights)
		wantDrawnCount(t, fmt.Sprint("PickSeed of the word ", c.word, c.weights), d.behind(1), c.want, end, index, ok)
	}
}

// aliasReference keeps lists of the indices that are not settled.
func aliasReference(weights []float32) impl.Alias {
	n, all := float32(len(weights)), sumOfWeights(weights)
	q := make([]float32, len(weights))
	a := impl.Alias{Shares: make([]float32, len(weights)), Others: make([]int64, len(weights))}
	var small, large []int
	for i, weight := range weights {
		q[i] = shortOver(shortTimes(weight, n), all)
		a.Others[i] = int64(i)
		if q[i] < 1 {
			small = append(small, i)
		} else {
			large = append(large, i)
		}
	}
	for len(small) > 0 && len(large) > 0 {
		i, k := slices.Min(small), slices.Min(large)
		a.Shares[i], a.Others[i] = q[i], int64(k)
		q[k] = shortLess(q[k], shortLess(1, q[i]))
		small = slices.DeleteFunc(small, func(x int) bool { return x == i })
		if q[k] < 1 {
			large = slices.DeleteFunc(large, func(x int) bool { return x == k })
			small = append(small, k)
		}
	}
	for _, i := range append(small, large...) {
		a.Shares[i] = 1
	}
	return a
}

func wantAlias(t *testing.T, what string, got, want impl.Alias) {
	t.Helper()
	wantList(t, what, got.Others, want.Others)
	wantSame(t, "how many shares: "+what, len(got.Shares), len(want.Shares))
	for i := range got.Shares {
		wantNumber(t, fmt.Sprint("share ", i, " of ", what), got.Shares[i], want.Shares[i])
	}
}

func TestAliasOf(t *testing.T) {
	for _, weights := range listsOfWeights() {
		a, ok := impl.AliasOf(weights)
		wantAlias(t, fmt.Sprint("AliasOf ", weights), a, aliasReference(weights))
		wantSame(t, fmt.Sprint("AliasOf succeeds for ", weights), ok, true)
		wantSame(t, fmt.Sprint("ValidAlias of AliasOf ", weights), impl.ValidAlias(a), true)
	}
	for _, weights := range badWeights() {
		a, ok := impl.AliasOf(weights)
		wantFailure(t, fmt.Sprint("AliasOf ", weights), a.Shares, a.Others, ok)
	}
}

func TestAliasOfKnownWeights(t *testing.T) {
	for _, c := range []struct {
		weights, shares []float32
		others          []int64
	}{
		{[]float32{5}, []float32{1}, []int64{0}}, {[]float32{1, 1}, []float32{1, 1}, []int64{0, 1}}, {repeated[float32](0.25, 4), repeated[float32](1, 4), []int64{0, 1, 2, 3}},
		{[]float32{1, 3}, []float32{0.5, 1}, []int64{1, 1}}, {[]float32{3, 1}, []float32{1, 0.5}, []int64{0, 0}},
		{[]float32{0, 2}, []float32{0, 1}, []int64{1, 1}}, {[]float32{minusZero, 2}, []float32{minusZero, 1}, []int64{1, 1}},
		// q is 0.5, 1.25, 0.75, 1.5: the second one becomes small by the first one, and comes before the third one.
		{[]float32{2, 5, 3, 6}, []float32{0.5, 0.75, 0.75, 1}, []int64{1, 3, 3, 3}},
		// q is 1.75, 0.25, 1.75, 0.25: the first one is large with 1 as well, and then becomes small.
		{[]float32{7, 1, 7, 1}, []float32{0.25, 0.25, 1, 0.25}, []int64{2, 0, 2, 0}},
		{[]float32{0, 0, 0, 8}, []float32{0, 0, 0, 1}, []int64{3, 3, 3, 3}}, {[]float32{8, 0, 0, 0}, []float32{1, 0, 0, 0}, []int64{0, 0, 0, 0}},
		// A weight times their number can be too great: it stays large then.
		{[]float32{most, 0}, []float32{1, 0}, []int64{0, 0}}, {[]float32{0, most, 0}, []float32{0, 1, 0}, []int64{1, 1, 1}},
		{[]float32{least}, []float32{1}, []int64{0}}, {[]float32{least, 3 * least}, []float32{0.5, 1}, []int64{1, 1}},
	} {
		a, ok := impl.AliasOf(c.weights)
		wantAlias(t, fmt.Sprint("AliasOf ", c.weights), a, impl.Alias{Shares: c.shares, Others: c.others})
		wantSame(t, "AliasOf succeeds", ok, true)
	}
}

func TestAliasPicksByItsWeights(t *testing.T) {
	for _, weights := range listsOfWeights() {
		if slices.Max(weights) > most/128 || slices.Max(weights) < leastNormal {
			continue // a weight times their number is too great, or all are too near to 0
		}
		a, _ := impl.AliasOf(weights)
		n, all := float64(len(weights)), 0.0
		chances := make([]float64, len(weights))
		for i, share := range a.Shares {
			all += float64(weights[i])
			chances[i] += float64(share) / n
			chances[a.Others[i]] += (1 - float64(share)) / n
		}
		for i, weight := range weights {
			wantNear(t, fmt.Sprint("the chance of ", i, " with ", weights), chances[i], float64(weight)/all, 1e-6)
		}
	}
}

func goodAliases() []impl.Alias {
	return []impl.Alias{
		{Shares: []float32{1}, Others: []int64{0}}, {Shares: []float32{0}, Others: []int64{0}}, {Shares: []float32{minusZero, least}, Others: []int64{1, 1}},
		{Shares: []float32{0.5, 1 - 0x1p-24, 0.25}, Others: []int64{2, 0, 1}}, {Shares: []float32{0, 0, 0}, Others: []int64{2, 2, 0}},
		{Shares: repeated[float32](0.5, 64), Others: repeated[int64](63, 64)},
	}
}

func badAliases() []impl.Alias {
	list := []impl.Alias{
		{}, {Shares: []float32{1}}, {Others: []int64{0}}, {Shares: []float32{1, 1}, Others: []int64{0}}, {Shares: []float32{1}, Others: []int64{0, 0}},
		{Shares: []float32{1}, Others: []int64{1}}, {Shares: []float32{1}, Others: []int64{-1}}, {Shares: []float32{1, 1}, Others: []int64{0, 2}}, {Shares: []float32{1, 1}, Others: []int64{math.MaxInt64, 0}}, {Shares: []float32{1, 1}, Others: []int64{0, math.MinInt64}},
		{Shares: repeated[float32](1, 65), Others: repeated[int64](0, 65)}, {Shares: repeated[float32](1, 64), Others: repeated[int64](64, 64)}, {Shares: repeated[float32](1, 64), Others: repeated[int64](0, 65)},
	}
	for _, share := range append(oddFloats(), -least, -1, afterOne, 2, most) {
		list = append(list, impl.Alias{Shares: []float32{share}, Others: []int64{0}}, impl.Alias{Shares: []float32{1, share}, Others: []int64{0, 0}}, impl.Alias{Shares: []float32{share, 0}, Others: []int64{0, 0}})
	}
	return list
}

func aliasSeedReference(d *draws, a impl.Alias) int64 {
	index := d.below(int64(len(a.Shares)))
	if d.share() < a.Shares[index] {
		return index
	}
	return a.Others[index]
}

func TestAliases(t *testing.T) {
	seeds := seedsOfDraws(100)
	for _, a := range goodAliases() {
		wantSame(t, fmt.Sprint("ValidAlias ", a), impl.ValidAlias(a), true)
		for _, s := range seeds {
			d := draws{s}
			want := aliasSeedReference(&d, a)
			end, index, ok := impl.AliasSeed(s, a)
			wantDrawnCount(t, fmt.Sprint("AliasSeed ", s, a), d, want, end, index, ok)
		}
		for _, s := range badSeeds() {
			end, index, ok := impl.AliasSeed(s, a)
			wantFailure(t, fmt.Sprint("AliasSeed ", s, a), end, index, ok)
		}
	}
	for _, a := range badAliases() {
		wantSame(t, fmt.Sprint("ValidAlias ", a), impl.ValidAlias(a), false)
		for _, s := range seeds[:20] {
			end, index, ok := impl.AliasSeed(s, a)
			wantFailure(t, fmt.Sprint("AliasSeed ", s, a), end, index, ok)
		}
	}
}

func TestAliasSeedOfKnownWords(t *testing.T) {
	a := impl.Alias{Shares: []float32{0.5, 0, 1}, Others: []int64{2, 0, 1}}
	for _, c := range []struct{ first, second, want int64 }{
		{0, 0, 0}, {0, 1<<31 - 1, 0}, {0, 1 << 31, 2}, {3, mostWord, 2}, {1, 0, 0}, {4, mostWord, 0}, {2, 0, 2}, {5, mostWord, 2},
	} {
		s := lineOfWords(c.first, c.second)
		two, _ := impl.SkipSeed(s, 2)
		end, index, ok := impl.AliasSeed(s, a)
		wantDrawnCount(t, fmt.Sprint("AliasSeed of the words ", c), draws{two}, c.want, end, index, ok)
	}
}

func TestSplitCounts(t *testing.T) {
	lists := listsOfWeights()
	for i, s := range append(seedsOfDraws(60), oddSeeds()[:8]...) {
		for k, n := range []int64{0, 1, 2, 50, 1000} {
			if n == 1000 && i%16 != 0 {
				continue
			}
			weights := lists[(i*7+k*3)%len(lists)]
			d, want := draws{s}, make([]int64, len(weights))
			a := aliasReference(weights)
			for range n {
				want[aliasSeedReference(&d, a)]++
			}
			end, counts, ok := impl.SplitCounts(s, n, weights)
			wantDrawnList(t, fmt.Sprint("SplitCounts ", s, n, weights), d, want, end, counts, ok)
		}
		for _, n := range []int64{-1, 1001, wordsEnd, math.MinInt64, math.MaxInt64} {
			end, counts, ok := impl.SplitCounts(s, n, []float32{1, 2})
			wantFailure(t, fmt.Sprint("SplitCounts ", s, n), end, counts, ok)
		}
	}
	for _, n := range []int64{0, 1, 1000} {
		for _, weights := range badWeights() {
			end, counts, ok := impl.SplitCounts(impl.Seed{Kind: impl.SeedCount}, n, weights)
			wantFailure(t, fmt.Sprint("SplitCounts ", n, weights), end, counts, ok)
		}
		for _, s := range badSeeds() {
			end, counts, ok := impl.SplitCounts(s, n, []float32{1, 2})
			wantFailure(t, fmt.Sprint("SplitCounts ", s, n), end, counts, ok)
		}
	}
}

func TestSplitCountsAreNearTheirWeights(t *testing.T) {
	s := impl.Seed{Kind: impl.SeedCount, A: 3}
	sums := make([]int64, 5)
	for range 20 {
		end, counts, _ := impl.SplitCounts(s, 1000, []float32{1, 0, 2, 3, 4})
		s = end
		for i, n := range counts {
			sums[i] += n
		}
	}
	for i, share := range []float64{0.1, 0, 0.2, 0.3, 0.4} {
		wantNear(t, fmt.Sprint("how often an index is drawn: ", i), float64(sums[i]), 20000*share, 250*math.Ceil(share))
	}
}
