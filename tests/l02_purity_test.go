package tests

import (
	"fmt"
	"testing"

	"loop.example/g01339/impl"
)

// seedCalls has the results of all functions of seeds with some numbers, which may be any ones.
func seedCalls(s, other impl.Seed, n, count int64) string {
	list := []any{impl.ValidSeed(s), impl.SameSeed(s, other), impl.MixWord(s.A)}
	add := func(results ...any) { list = append(list, results...) }
	next, word, ok := impl.NextSeed(s)
	add(next, word, ok)
	end, words, ok := impl.WordsOf(s, count)
	add(end, words, ok)
	end, ok = impl.SkipSeed(s, n)
	add(end, ok)
	split, ok := impl.SplitSeed(s, n)
	add(split, ok)
	lists, ok := impl.StreamWords(s, n, count)
	add(lists, ok)
	lists, ok = impl.StreamsShared(s, n, count, count)
	add(lists, ok)
	words, ok = impl.CombineSeeds(s, other, count)
	add(words, ok)
	end, below, ok := impl.BelowSeed(s, n)
	add(end, below, ok)
	end, share, ok := impl.ShareSeed(s)
	add(end, share, ok)
	before, period, ok := impl.SmallPeriod(n, count, 1, 0)
	add(before, period, ok)
	least, height, ok := impl.LatticeOf(n, count)
	add(least, height, ok)
	return fmt.Sprint(list...)
}

func TestSeedFunctionsReturnEqualResults(t *testing.T) {
	seeds := append(badSeeds(), drawnSeeds(8)...)
	numbers := append(oddIntegers(), 7, 16, 256, 4096, 1000000, farthest)
	for i, s := range seeds {
		for k, n := range numbers {
			other, count := seeds[(i+k)%len(seeds)], numbers[(i*5+k*3)%len(numbers)]
			wantSame(t, fmt.Sprint("the second call with ", s, other, n, count), seedCalls(s, other, n, count), seedCalls(s, other, n, count))
		}
	}
}

func TestSeedFunctionsReturnEqualResultsAtOnce(t *testing.T) {
	s := impl.Seed{Kind: impl.SeedShift, A: 77}
	wantEqualAtOnce(t, func() string { return seedCalls(s, s, 16, 8) })
}

func TestListsOfWordsAreNotChanged(t *testing.T) {
	for _, count := range []int{0, 1, 31, 32, 33, 255, 256, 257} {
		d := drawnBits(8)
		var words, counts []int64
		var shares []float32
		var bits []bool
		for range count {
			words = append(words, int64(d.next()))
			counts = append(counts, int64(d.next()%1000000))
			shares = append(shares, float32(d.next()%1000+1))
			bits = append(bits, d.next()%2 == 1)
		}
		words, counts, shares, bits = spare(words, 7), spare(counts, 7), spare(shares, 7), spare(bits, true)
		all := func() string {
			return fmt.Sprint(words[:cap(words)], counts[:cap(counts)], shares[:cap(shares)], bits[:cap(bits)])
		}
		calls := func() string {
			a, one := impl.BitsOfWords(words, int64(count))
			b, two := impl.RunsIn(bits)
			c, three := impl.GapsIn(words, 1<<31)
			d, four := impl.HandsIn(words)
			e, five := impl.PairsIn(words, 3)
			f, six := impl.RankOfBits(words)
			g, h, seven := impl.MeetingsIn(words, 1<<28)
			i, eight := impl.ChiOf(counts, shares)
			return fmt.Sprint(impl.AreWords(words), a, b, c, d, e, f, g, h, i, one, two, three, four, five, six, seven, eight)
		}
		before := all()
		wantSame(t, "the second call", calls(), calls())
		wantSame(t, "the lists behind all calls", all(), before)
	}
}

func TestListsOfWordsAreNew(t *testing.T) {
	s := impl.Seed{Kind: impl.SeedLine, B: 1}
	words := []int64{7, 7, 7, 7, 7}
	call := map[string]func() []int64{
		"WordsOf":      func() []int64 { _, list, _ := impl.WordsOf(s, 5); return list },
		"CombineSeeds": func() []int64 { list, _ := impl.CombineSeeds(s, s, 5); return list },
		"RunsIn":       func() []int64 { list, _ := impl.RunsIn([]bool{true}); return list },
		"GapsIn":       func() []int64 { list, _ := impl.GapsIn(words, 9); return list },
		"HandsIn":      func() []int64 { list, _ := impl.HandsIn(words); return list },
		"PairsIn":      func() []int64 { list, _ := impl.PairsIn(words, 3); return list },
	}
	for name, list := range call {
		want := fmt.Sprint(list())
		changed := list()
		for i := range changed {
			changed[i] = -5
		}
		wantSame(t, name+" behind a change of its result", fmt.Sprint(list()), want)
	}
	wantList(t, "the words", words, repeated[int64](7, 5))
}
