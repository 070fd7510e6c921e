package tests

import (
	"fmt"
	"math"
	"math/big"
	"math/bits"
	"slices"
	"testing"

	"loop.example/g01339/impl"
)

func TestSignTail(t *testing.T) {
	for less := int64(0); less <= 60; less++ {
		for more := int64(0); less+more <= 60; more++ {
			both, want := less+more, new(big.Int)
			for one := int64(0); one <= both; one++ {
				if min(one, both-one) <= min(less, more) {
					want.Add(want, new(big.Int).Binomial(both, one))
				}
			}
			part, all, ok := impl.SignTail(less, more)
			wantTail(t, call{"SignTail ", less, more}, part, all, ok, want.Int64(), 1<<both, true)
		}
	}
	for _, c := range []struct{ less, more, part, all int64 }{
		{0, 0, 1, 1}, {1, 0, 2, 2}, {0, 1, 2, 2}, {1, 1, 4, 4}, {2, 0, 2, 4}, {1, 4, 12, 32}, {4, 1, 12, 32}, {2, 2, 16, 16}, {2, 3, 32, 32}, {0, 60, 2, 1 << 60}, {60, 0, 2, 1 << 60}, {30, 30, 1 << 60, 1 << 60}, {29, 31, 1<<60 - 118264581564861424, 1 << 60},
	} {
		part, all, ok := impl.SignTail(c.less, c.more)
		wantTail(t, call{"SignTail ", c.less, c.more}, part, all, ok, c.part, c.all, true)
	}
	for _, c := range [][2]int64{{-1, 0}, {0, -1}, {-1, 5}, {5, -1}, {-1, 61}, {61, -1}, {61, 0}, {0, 61}, {60, 1}, {1, 60}, {31, 30}, {60, 60}, {-5, -5}, {64, 0}, {wordsEnd, 0}, {0, wordsEnd}, {math.MaxInt64, 1}, {1, math.MaxInt64}, {math.MaxInt64, math.MaxInt64}, {math.MinInt64, 0}, {math.MinInt64, math.MinInt64}, {math.MinInt64, math.MaxInt64}, {math.MaxInt64, math.MinInt64}} {
		part, all, ok := impl.SignTail(c[0], c[1])
		wantFailure(t, fmt.Sprint("SignTail ", c), part, all, ok)
	}
}

// isSample reads the rules for samples.
func isSample(list []int64) bool {
	outside := func(n int64) bool { return n < -1000 || n > 1000 }
	return len(list) > 0 && len(list) < 41 && !slices.ContainsFunc(list, outside)
}

// drawnSample has n numbers that are at most wide away from 0.
func drawnSample(d *drawnBits, n int, wide uint32) []int64 {
	list := []int64{}
	for range n {
		list = append(list, int64(d.next()%(2*wide+1))-int64(wide))
	}
	return list
}

// goodSamples has some of each length, with many equal numbers and with few.
func goodSamples() [][]int64 {
	lists := [][]int64{{0}, {1}, {-1}, {1000}, {-1000}, {5, 5, 1}, {1, -1}, {0, 0}, {1000, -1000}, {-1000, 1000, 0}, ascending(40), descending(40), repeated[int64](7, 40), repeated[int64](0, 40), repeated[int64](-1000, 39), repeated[int64](1000, 40), {3, 1, 2, 1}}
	d := drawnBits(131)
	for n := 1; n <= 40; n++ {
		for _, wide := range []uint32{1, 4, 50, 1000} {
			lists = append(lists, drawnSample(&d, n, wide))
		}
	}
	return lists
}

func badSamples() [][]int64 {
	return [][]int64{nil, {}, repeated[int64](0, 41), ascending(41), repeated[int64](1, 100), {1001}, {-1001}, {0, 1001}, {1001, 0}, {0, -1001}, {1, 2, 3, -1001, 4}, {wordsEnd + 1}, {math.MaxInt64}, {math.MinInt64}, {math.MinInt64, 5}, {5, math.MaxInt64}, append(ascending(39), 1001), append(ascending(39), math.MinInt64)}
}

// ranksReference gives each number the sum of its first and of its last place in order, counted from 1.
func ranksReference(list []int64) []int64 {
	sorted := slices.Sorted(slices.Values(list))
	ranks := []int64{}
	for _, n := range list {
		first := slices.Index(sorted, n) + 1
		last := first
		for last < len(sorted) && sorted[last] == n {
			last++
		}
		ranks = append(ranks, int64(first+last))
	}
	return ranks
}

func TestRanksOf(t *testing.T) {
	for _, list := range goodSamples() {
		wantSame(t, fmt.Sprint("a good sample ", list), isSample(list), true)
		ranks, ok := impl.RanksOf(list)
		wantList(t, fmt.Sprint("RanksOf ", list), ranks, ranksReference(list))
		wantSame(t, fmt.Sprint("RanksOf succeeds: ", list), ok, true)
		n := int64(len(list))
		wantSame(t, fmt.Sprint("the sum of RanksOf ", list), total(ranks), n*(n+1))
	}
	for _, c := range [][2][]int64{{{5, 5, 1}, {5, 5, 2}}, {{7}, {2}}, {{1, 2, 3}, {2, 4, 6}}, {{3, 1, 2}, {6, 2, 4}}, {{4, 4, 4, 4}, {5, 5, 5, 5}}, {{-1, 0, 0, -1}, {3, 7, 7, 3}}, {{-1000, 1000}, {2, 4}}} {
		ranks, _ := impl.RanksOf(c[0])
		wantList(t, fmt.Sprint("RanksOf ", c[0]), ranks, c[1])
	}
	for _, list := range badSamples() {
		wantSame(t, fmt.Sprint("a bad sample ", list), isSample(list), false)
		ranks, ok := impl.RanksOf(list)
		wantFailure(t, fmt.Sprint("RanksOf ", list), ranks, ok)
	}
}

// choicesReference returns how many choices of numbers are good, as their number and their sum tell: one by one of a few numbers, by halves of more.
func choicesReference(list []int64, good func(k int, sum int64) bool) int64 {
	count := int64(0)
	if len(list) <= 12 {
		for set := range 1 << len(list) {
			sum := int64(0)
			for i, n := range list {
				if set>>i%2 == 1 {
					sum += n
				}
			}
			if good(bits.OnesCount(uint(set)), sum) {
				count++
			}
		}
		return count
	}
	one, other := halfSums(list[:len(list)/2]), halfSums(list[len(list)/2:])
	for a, ways := range one {
		for b, others := range other {
			if good(a.k+b.k, a.sum+b.sum) {
				count += ways * others
			}
		}
	}
	return count
}

type chosen struct {
	k   int
	sum int64
}

// halfSums returns how many choices there are by their numbers and their sums.
func halfSums(list []int64) map[chosen]int64 {
	ways := map[chosen]int64{{}: 1}
	for _, n := range list {
		longer := map[chosen]int64{}
		for at, count := range ways {
			longer[at] += count
			longer[chosen{at.k + 1, at.sum + n}] += count
		}
		ways = longer
	}
	return ways
}

// pairsOfSamples has some with all lengths together up to 40.
func pairsOfSamples() [][2][]int64 {
	d := drawnBits(132)
	pairs := [][2][]int64{{{1, 2}, {3}}, {{3}, {1, 2}}, {{1}, {1}}, {{0}, {0, 0}}, {{-5}, {5}}, {{1, 1}, {1, 1}}, {{1, 5}, {2, 3}}, {ascending(20), ascending(40)[20:]}, {ascending(40)[20:], ascending(20)}, {ascending(20), ascending(20)}, {{1000}, repeated[int64](-1000, 39)}, {repeated[int64](-1000, 39), {1000}}, {repeated[int64](1000, 39), {-1000}}, {repeated[int64](0, 20), repeated[int64](0, 20)}}
	for n := 2; n <= 40; n++ {
		for i, wide := range []uint32{1, 5, 1000} {
			if n > 14 && (n+i)%3 > 0 && n < 39 {
				continue
			}
			m := 1 + int(d.next())%(n-1)
			pairs = append(pairs, [2][]int64{drawnSample(&d, m, wide), drawnSample(&d, n-m, wide)})
			m = n / 2
			pairs = append(pairs, [2][]int64{drawnSample(&d, m, wide), drawnSample(&d, n-m, wide)})
		}
	}
	return pairs
}

func TestRankSumAndRankTail(t *testing.T) {
	for _, pair := range pairsOfSamples() {
		a, b := pair[0], pair[1]
		ranks := ranksReference(slices.Concat(a, b))
		own := total(ranks[:len(a)])
		sum, ok := impl.RankSum(a, b)
		wantSame(t, fmt.Sprint("RankSum ", a, b), sum, own)
		wantSame(t, fmt.Sprint("RankSum succeeds: ", a, b), ok, true)
		want := choicesReference(ranks, func(k int, sum int64) bool { return k == len(a) && sum <= own })
		part, all, ok := impl.RankTail(a, b)
		wantTail(t, call{"RankTail ", a, b}, part, all, ok, want, new(big.Int).Binomial(int64(len(ranks)), int64(len(a))).Int64(), true)
	}
	for _, c := range []struct {
		a, b           []int64
		sum, part, all int64
	}{
		{[]int64{1, 2}, []int64{3}, 6, 1, 3}, {[]int64{3}, []int64{1, 2}, 6, 3, 3}, {[]int64{2}, []int64{1, 3}, 4, 2, 3}, {[]int64{1}, []int64{1}, 3, 2, 2}, {[]int64{1, 2}, []int64{1, 2}, 10, 5, 6}, {ascending(20), ascending(40)[20:], 420, 1, 137846528820}, {ascending(40)[20:], ascending(20), 1220, 137846528820, 137846528820}, {repeated[int64](0, 20), repeated[int64](0, 20), 820, 137846528820, 137846528820},
	} {
		sum, _ := impl.RankSum(c.a, c.b)
		wantSame(t, fmt.Sprint("RankSum ", c.a, c.b), sum, c.sum)
		part, all, ok := impl.RankTail(c.a, c.b)
		wantTail(t, call{"RankTail ", c.a, c.b}, part, all, ok, c.part, c.all, true)
	}
}

// wantNoSamples takes two lists of which one is no sample, or which are too long together.
func wantNoSamples(t *testing.T, a, b []int64) {
	t.Helper()
	what := fmt.Sprint(a, b)
	sum, ok := impl.RankSum(a, b)
	wantFailure(t, "RankSum "+what, sum, ok)
	part, all, ok := impl.RankTail(a, b)
	wantFailure(t, "RankTail "+what, part, all, ok)
	part, all, ok = impl.SumTail(a, b)
	wantFailure(t, "SumTail "+what, part, all, ok)
	gap, ok := impl.StairGap(a, b)
	wantFailure(t, "StairGap "+what, gap, ok)
	for _, times := range []int64{0, 3} {
		end, drawn, ok := impl.DrawnTail(impl.Seed{Kind: impl.SeedCount}, a, b, times)
		wantFailure(t, "DrawnTail "+what, end, drawn, ok)
	}
}

func TestBadSamplesFail(t *testing.T) {
	for _, bad := range badSamples() {
		for _, other := range append([][]int64{{1}, {1, 2, 3}, ascending(39), ascending(40)}, badSamples()...) {
			wantNoSamples(t, bad, other)
			wantNoSamples(t, other, bad)
		}
	}
	for n := 1; n <= 40; n++ {
		wantNoSamples(t, ascending(40)[:n], ascending(40)[n-1:])
		wantNoSamples(t, ascending(40), ascending(40)[:n])
	}
}

func TestSignedTail(t *testing.T) {
	failed := 0
	for _, list := range goodSamples() {
		var left, sizes []int64
		for _, n := range list {
			if n != 0 {
				left, sizes = append(left, n), append(sizes, max(n, -n))
			}
		}
		part, all, ok := impl.SignedTail(list)
		if len(left) == 0 {
			wantFailure(t, fmt.Sprint("SignedTail ", list), part, all, ok)
			failed++
			continue
		}
		ranks, own := ranksReference(sizes), int64(0)
		for i, n := range left {
			if n > 0 {
				own += ranks[i]
			}
		}
		want := choicesReference(ranks, func(_ int, sum int64) bool { return sum <= own })
		wantTail(t, call{"SignedTail ", list}, part, all, ok, want, 1<<len(left), true)
	}
	wantSame(t, "some have zeros alone", failed > 2, true)
	for _, c := range []struct {
		list      []int64
		part, all int64
	}{
		{[]int64{1, -2, 0}, 2, 4}, {[]int64{5}, 2, 2}, {[]int64{-5}, 1, 2}, {[]int64{0, 0, -1, 0}, 1, 2}, {[]int64{1, -1}, 3, 4}, {[]int64{1, 1}, 4, 4}, {[]int64{-1, -1}, 1, 4}, {[]int64{1, 2, -3}, 5, 8}, {[]int64{-1, -2, 3}, 5, 8}, {repeated[int64](1, 40), 1 << 40, 1 << 40}, {repeated[int64](-1000, 40), 1, 1 << 40}, {append(repeated[int64](0, 39), 1), 2, 2}, {append(repeated[int64](-3, 39), 3), 41, 1 << 40},
	} {
		part, all, ok := impl.SignedTail(c.list)
		wantTail(t, call{"SignedTail ", c.list}, part, all, ok, c.part, c.all, true)
	}
	for _, list := range append(badSamples(), []int64{0}, []int64{0, 0}, repeated[int64](0, 40), append(repeated[int64](0, 40), 1), []int64{0, 1001}) {
		part, all, ok := impl.SignedTail(list)
		wantFailure(t, fmt.Sprint("SignedTail ", list), part, all, ok)
	}
}

func TestSumTail(t *testing.T) {
	d := drawnBits(133)
	pairs := pairsOfSamples()
	for n := 2; n <= 12; n++ {
		for m := 1; m < n; m++ {
			for _, wide := range []uint32{1, 3, 20, 1000} {
				pairs = append(pairs, [2][]int64{drawnSample(&d, m, wide), drawnSample(&d, n-m, wide)})
			}
		}
	}
	results := map[bool]int{}
	for _, pair := range pairs {
		a, b := pair[0], pair[1]
		n, own := int64(len(a)+len(b)), total(a)
		results[n <= 12]++
		part, all, ok := impl.SumTail(a, b)
		if n > 12 {
			wantFailure(t, fmt.Sprint("SumTail ", a, b), part, all, ok)
			continue
		}
		want := choicesReference(slices.Concat(a, b), func(k int, sum int64) bool { return k == len(a) && sum >= own })
		wantTail(t, call{"SumTail ", a, b}, part, all, ok, want, new(big.Int).Binomial(n, int64(len(a))).Int64(), true)
	}
	wantSame(t, "some are short enough, some are not", results[true] > 100 && results[false] > 10, true)
	for _, c := range []struct {
		a, b      []int64
		part, all int64
		can       bool
	}{
		{[]int64{3}, []int64{1, 2}, 1, 3, true}, {[]int64{1}, []int64{3, 2}, 3, 3, true}, {[]int64{2}, []int64{2, 2}, 3, 3, true}, {[]int64{-1000}, []int64{1000}, 2, 2, true}, {[]int64{1000}, []int64{-1000}, 1, 2, true}, {[]int64{5, 1}, []int64{3, 3}, 4, 6, true}, {[]int64{5, 2}, []int64{3, 3}, 3, 6, true}, {repeated[int64](1000, 6), repeated[int64](-1000, 6), 1, 924, true}, {repeated[int64](-1000, 6), repeated[int64](1000, 6), 924, 924, true}, {repeated[int64](-1000, 11), []int64{1000}, 12, 12, true}, {[]int64{0}, repeated[int64](0, 11), 12, 12, true},
		{[]int64{0}, repeated[int64](0, 12), 0, 0, false}, {repeated[int64](0, 6), repeated[int64](0, 7), 0, 0, false}, {repeated[int64](0, 12), []int64{0}, 0, 0, false}, {repeated[int64](0, 20), repeated[int64](0, 20), 0, 0, false},
	} {
		part, all, ok := impl.SumTail(c.a, c.b)
		wantTail(t, call{"SumTail ", c.a, c.b}, part, all, ok, c.part, c.all, c.can)
	}
}

// drawnTailReference takes the numbers that the places of an order lead to.
func drawnTailReference(d *draws, a, b []int64, times int64) int64 {
	all, tail := slices.Concat(a, b), int64(0)
	for range times {
		sum := int64(0)
		for _, place := range orderReference(d, int64(len(all)), 1)[:len(a)] {
			sum += all[place]
		}
		if sum >= total(a) {
			tail++
		}
	}
	return tail
}

func TestDrawnTail(t *testing.T) {
	pairs := pairsOfSamples()
	some := 0
	for i, s := range append(seedsOfDraws(60), oddSeeds()...) {
		for k := range 4 {
			pair := pairs[(i*4+k)%len(pairs)]
			for _, times := range []int64{0, 1, 2, 9} {
				d := draws{s}
				want := drawnTailReference(&d, pair[0], pair[1], times)
				if want > 0 && want < times {
					some++
				}
				end, tail, ok := impl.DrawnTail(s, pair[0], pair[1], times)
				wantDrawnCount(t, fmt.Sprint("DrawnTail ", s, pair, times), d, want, end, tail, ok)
			}
		}
	}
	wantSame(t, "some tails are neither empty nor all", some > 100, true)
	for _, s := range drawnSeeds(4) {
		d := draws{s}
		want := drawnTailReference(&d, []int64{3, 5, -1}, []int64{2, 4, 1, 0}, 1000)
		end, tail, ok := impl.DrawnTail(s, []int64{3, 5, -1}, []int64{2, 4, 1, 0}, 1000)
		wantDrawnCount(t, fmt.Sprint("DrawnTail 1000 times ", s), d, want, end, tail, ok)
		part, all, _ := impl.SumTail([]int64{3, 5, -1}, []int64{2, 4, 1, 0})
		wantNear(t, "its share is that of SumTail", float64(tail)/1000, float64(part)/float64(all), 0.06)
	}
}

func TestDrawnTailFails(t *testing.T) {
	good := impl.Seed{Kind: impl.SeedCount}
	for _, times := range []int64{-1, 1001, 1002, wordsEnd, wordsEnd + 1, math.MinInt64, math.MaxInt64} {
		end, tail, ok := impl.DrawnTail(good, []int64{1}, []int64{2}, times)
		wantFailure(t, fmt.Sprint("DrawnTail ", times), end, tail, ok)
	}
	for _, s := range badSeeds() {
		for _, times := range []int64{0, 1, 1000} {
			end, tail, ok := impl.DrawnTail(s, []int64{1, 2, 3}, []int64{2}, times)
			wantFailure(t, fmt.Sprint("DrawnTail ", s, times), end, tail, ok)
		}
	}
}

func TestStairGap(t *testing.T) {
	for _, pair := range pairsOfSamples() {
		a, b := pair[0], pair[1]
		m, n, want := int64(len(a)), int64(len(b)), int64(0)
		for x := int64(-1002); x <= 1002; x++ {
			height := int64(0)
			for _, number := range a {
				if number <= x {
					height += n
				}
			}
			for _, number := range b {
				if number <= x {
					height -= m
				}
			}
			want = max(want, height, -height)
		}
		gap, ok := impl.StairGap(a, b)
		wantSame(t, fmt.Sprint("StairGap ", a, b), gap, want)
		wantSame(t, fmt.Sprint("StairGap succeeds: ", a, b), ok, true)
		back, _ := impl.StairGap(b, a)
		wantSame(t, fmt.Sprint("StairGap ", b, a), back, want)
	}
	for _, c := range []struct {
		a, b []int64
		want int64
	}{
		{[]int64{1, 2}, []int64{3}, 2}, {[]int64{3}, []int64{1, 2}, 2}, {[]int64{2}, []int64{1, 3}, 1}, {[]int64{1}, []int64{1}, 0}, {[]int64{1, 2}, []int64{2, 1}, 0}, {[]int64{1, 1, 2}, []int64{1, 2}, 1}, {[]int64{-1000}, []int64{1000}, 1}, {[]int64{1000}, []int64{-1000}, 1}, {ascending(20), ascending(40)[20:], 400}, {ascending(1), ascending(40)[1:], 39}, {repeated[int64](4, 20), repeated[int64](4, 20), 0},
	} {
		gap, _ := impl.StairGap(c.a, c.b)
		wantSame(t, fmt.Sprint("StairGap ", c.a, c.b), gap, c.want)
	}
}

// climb counts orders by what is still to come.
type climb struct {
	m, n, gap int64
	known     map[[3]int64]int64
}

// orders returns in how many orders the rest can come so that there is such a gap, there at the latest.
func (c climb) orders(former, latter int64, there bool) int64 {
	height := c.n*former - c.m*latter
	there = there || former+latter > 0 && (height >= c.gap || -height >= c.gap)
	if former == c.m && latter == c.n {
		if there {
			return 1
		}
		return 0
	}
	key := [3]int64{former, latter, 0}
	if there {
		key[2] = 1
	}
	if count, ok := c.known[key]; ok {
		return count
	}
	count := int64(0)
	if former < c.m {
		count += c.orders(former+1, latter, there)
	}
	if latter < c.n {
		count += c.orders(former, latter+1, there)
	}
	c.known[key] = count
	return count
}

// stairsOneByOne looks at each order.
func stairsOneByOne(m, n, gap int64) int64 {
	count := int64(0)
	for order := range uint64(1) << (m + n) {
		if bits.OnesCount64(order) != int(m) {
			continue
		}
		height, greatest := int64(0), int64(0)
		for i := range m + n {
			if order>>i%2 == 1 {
				height += n
			} else {
				height -= m
			}
			greatest = max(greatest, height, -height)
		}
		if greatest >= gap {
			count++
		}
	}
	return count
}

func TestStairTail(t *testing.T) {
	for m := int64(1); m <= 30; m++ {
		for n := int64(1); n <= 30; n++ {
			all := new(big.Int).Binomial(m+n, m).Int64()
			for _, gap := range []int64{math.MinInt64, -wordsEnd, -1, 0, 1, 2, m, n, n + 1, m + n, m*n/3 + 1, m * n / 2, m*n - 1, m * n, m*n + 1, wordsEnd, math.MaxInt64} {
				if m > 5 && m < 30 && n > 5 && n < 30 && (m+n)%4 > 0 {
					continue
				}
				want := climb{m, n, gap, map[[3]int64]int64{}}.orders(0, 0, false)
				if gap == math.MinInt64 {
					want = all
				}
				part, ways, ok := impl.StairTail(m, n, gap)
				wantTail(t, call{"StairTail ", m, n, gap}, part, ways, ok, want, all, true)
			}
		}
	}
	for m := int64(1); m <= 6; m++ {
		for n := int64(1); n <= 5; n++ {
			for gap := int64(-2); gap <= m*n+2; gap++ {
				part, all, ok := impl.StairTail(m, n, gap)
				wantTail(t, call{"StairTail ", m, n, gap}, part, all, ok, stairsOneByOne(m, n, gap), new(big.Int).Binomial(m+n, m).Int64(), true)
			}
		}
	}
	for _, c := range []struct{ m, n, gap, part, all int64 }{
		{2, 1, 2, 2, 3}, {1, 1, 1, 2, 2}, {1, 1, 2, 0, 2}, {1, 1, 0, 2, 2}, {1, 30, 30, 2, 31}, {30, 1, 30, 2, 31}, {30, 30, 900, 2, 118264581564861424}, {30, 30, 901, 0, 118264581564861424}, {30, 30, 0, 118264581564861424, 118264581564861424}, {30, 30, 30, 118264581564861424, 118264581564861424}, {30, 30, 31, 118264581564861424 - 1<<30, 118264581564861424}, {30, 29, 1, 59132290782430712, 59132290782430712},
	} {
		part, all, ok := impl.StairTail(c.m, c.n, c.gap)
		wantTail(t, call{"StairTail ", c.m, c.n, c.gap}, part, all, ok, c.part, c.all, true)
	}
	for _, c := range [][3]int64{{0, 1, 1}, {1, 0, 1}, {0, 0, 0}, {31, 1, 1}, {1, 31, 1}, {31, 31, 0}, {-1, 1, 0}, {1, -1, 0}, {wordsEnd + 1, 1, 1}, {1, wordsEnd + 1, 1}, {math.MaxInt64, math.MaxInt64, 1}, {math.MinInt64, 1, 0}, {1, math.MinInt64, 0}, {30, 31, math.MinInt64}, {0, 30, math.MaxInt64}} {
		part, all, ok := impl.StairTail(c[0], c[1], c[2])
		wantFailure(t, fmt.Sprint("StairTail ", c), part, all, ok)
	}
}

// TestStairTailOfEqualNumbers compares with the sum that paths and their mirror images bring.
func TestStairTailOfEqualNumbers(t *testing.T) {
	for n := int64(1); n <= 30; n++ {
		for steps := int64(1); steps <= n+1; steps++ {
			want := new(big.Int)
			for i := int64(1); i*steps <= n; i++ {
				ways := new(big.Int).Binomial(2*n, n-i*steps)
				if i%2 == 0 {
					ways.Neg(ways)
				}
				want.Add(want, ways.Mul(ways, big.NewInt(2)))
			}
			part, all, ok := impl.StairTail(n, n, steps*n)
			wantTail(t, call{"StairTail ", n, n, steps * n}, part, all, ok, want.Int64(), new(big.Int).Binomial(2*n, n).Int64(), true)
		}
	}
}

// TestStairGapAndStairTail counts the orders of small samples of different numbers by their gaps.
func TestStairGapAndStairTail(t *testing.T) {
	for n := 2; n <= 9; n++ {
		for m := 1; m < n; m++ {
			gaps := map[int64]int64{}
			for set := range 1 << n {
				var a, b []int64
				for i := range n {
					if set>>i%2 == 1 {
						a = append(a, int64(i))
					} else {
						b = append(b, int64(i))
					}
				}
				if len(a) == m {
					gap, _ := impl.StairGap(a, b)
					gaps[gap]++
				}
			}
			for least := int64(0); least <= int64(m*(n-m))+1; least++ {
				want := int64(0)
				for gap, count := range gaps {
					if gap >= least {
						want += count
					}
				}
				part, all, ok := impl.StairTail(int64(m), int64(n-m), least)
				wantTail(t, call{"StairTail ", m, n - m, least}, part, all, ok, want, new(big.Int).Binomial(int64(n), int64(m)).Int64(), true)
			}
		}
	}
}
