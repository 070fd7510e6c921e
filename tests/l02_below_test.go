package tests

import (
	"fmt"
	"math"
	"testing"

	"loop.example/g01339/impl"
)

// The words of this seed were made so that the first 64 are greater than
// 2^31, and the one behind them is not.
var stubborn = impl.Seed{Kind: impl.SeedPair, A: 0x5122405ce897894c, B: 0x639f01ff8c4cb110}

const halfAndOne = 1<<31 + 1 // its greatest multiple is itself

func TestLinesOfWords(t *testing.T) {
	for _, c := range [][2]int64{{0, 0}, {1, mostWord}, {mostWord, 1}, {1 << 31, 12345}} {
		_, words, ok := impl.WordsOf(lineOfWords(c[0], c[1]), 2)
		wantList(t, "the words that a line was made for", words, c[:])
		_, words, _ = impl.WordsOf(lineOfWord(c[0]), 1)
		wantList(t, "the word that a line was made for", words, c[:1])
		wantSame(t, "WordsOf succeeds", ok, true)
	}
}

func TestBelowSeedOfKnownWords(t *testing.T) {
	for _, c := range []struct{ first, second, n, want, drawn int64 }{
		{0, 0, 1, 0, 1}, {mostWord, 0, 1, 0, 1}, {7, 0, 10, 7, 1}, {12345, 0, 10, 5, 1},
		{mostWord, 0, 2, 1, 1}, {mostWord, 0, 1 << 31, 1<<31 - 1, 1}, {0, 0, wordsEnd, 0, 1}, {mostWord, 0, wordsEnd, mostWord, 1},
		// 4294967295 is a multiple of 3 and of itself, 4294967290 one of 10.
		{mostWord, 4, 3, 1, 2}, {mostWord - 1, 4, 3, 2, 1}, {mostWord, 4, mostWord, 4, 2}, {mostWord - 1, 4, mostWord, mostWord - 1, 1},
		{4294967290, 23, 10, 3, 2}, {4294967289, 23, 10, 9, 1}, {mostWord, 4294967289, 10, 9, 2},
		{mostWord - 1, 5, mostWord - 1, 5, 2}, {mostWord, 5, mostWord - 1, 5, 2}, {mostWord - 2, 5, mostWord - 1, mostWord - 2, 1},
		{halfAndOne, 3, halfAndOne, 3, 2}, {halfAndOne - 1, 3, halfAndOne, halfAndOne - 1, 1}, {mostWord, 1 << 31, halfAndOne, 1 << 31, 2},
	} {
		s := lineOfWords(c.first, c.second)
		end, n, ok := impl.BelowSeed(s, c.n)
		want, _ := impl.SkipSeed(s, c.drawn)
		wantSame(t, fmt.Sprint("BelowSeed ", c), n, c.want)
		wantSame(t, fmt.Sprint("the seed after BelowSeed ", c), end, want)
		wantSame(t, fmt.Sprint("BelowSeed succeeds for ", c), ok, true)
	}
}

func TestBelowSeed(t *testing.T) {
	for _, s := range append(oddSeeds(), drawnSeeds(100)...) {
		for _, n := range []int64{1, 2, 3, 10, 52, 1000000007, 1 << 31, halfAndOne, 3000000000, mostWord, wordsEnd} {
			multiple := wordsEnd / n * n
			at, word := nextReference(s)
			for word >= multiple {
				at, word = nextReference(at)
			}
			end, below, ok := impl.BelowSeed(s, n)
			wantSame(t, fmt.Sprint("BelowSeed ", s, n), below, word%n)
			wantSame(t, fmt.Sprint("the seed after BelowSeed ", s, n), end, at)
			wantSame(t, fmt.Sprint("BelowSeed succeeds for ", s, n), ok, true)
		}
	}
}

func TestBelowSeedUpToThe64thWord(t *testing.T) {
	_, words, _ := impl.WordsOf(stubborn, 65)
	for i, word := range words {
		wantSame(t, fmt.Sprint("the word is too great: ", i), word >= halfAndOne, i < 64)
	}
	end, n, ok := impl.BelowSeed(stubborn, halfAndOne)
	wantFailure(t, "BelowSeed where no word of 64 is less", end, n, ok)
	next, _ := impl.SkipSeed(stubborn, 1)
	want, _ := impl.SkipSeed(stubborn, 65)
	end, n, ok = impl.BelowSeed(next, halfAndOne)
	wantSame(t, "BelowSeed where the 64th word is less", n, 723598182)
	wantSame(t, "the seed after 64 words", end, want)
	wantSame(t, "BelowSeed succeeds", ok, true)
}

func TestBelowSeedFails(t *testing.T) {
	for _, n := range []int64{0, -1, -10, wordsEnd + 1, 2 * wordsEnd, math.MinInt64, math.MaxInt64} {
		end, below, ok := impl.BelowSeed(impl.Seed{Kind: impl.SeedCount}, n)
		wantFailure(t, fmt.Sprint("BelowSeed ", n), end, below, ok)
	}
	for _, s := range badSeeds() {
		for _, n := range []int64{0, 1, 10} {
			end, below, ok := impl.BelowSeed(s, n)
			wantFailure(t, fmt.Sprint("BelowSeed ", s), end, below, ok)
		}
	}
}

func TestShareSeed(t *testing.T) {
	for _, c := range []struct {
		word int64
		want float32
	}{
		{0, 0}, {255, 0}, {256, 0x1p-24}, {511, 0x1p-24}, {512, 0x1p-23}, {1<<31 - 1, 0.5 - 0x1p-24}, {1 << 31, 0.5},
		{mostWord, 1 - 0x1p-24}, {mostWord - 255, 1 - 0x1p-24}, {mostWord - 256, 1 - 0x1p-23}, {1481765933, 5788148 * 0x1p-24},
	} {
		_, share, ok := impl.ShareSeed(lineOfWord(c.word))
		wantNumber(t, fmt.Sprint("ShareSeed of the word ", c.word), share, c.want)
		wantSame(t, "ShareSeed succeeds", ok, true)
	}
	for _, s := range append(oddSeeds(), drawnSeeds(100)...) {
		next, word := nextReference(s)
		end, share, ok := impl.ShareSeed(s)
		wantNumber(t, fmt.Sprint("ShareSeed ", s), share, float32(math.Floor(float64(word)/256)/0x1p24))
		wantSame(t, fmt.Sprint("the seed after ShareSeed ", s), end, next)
		wantSame(t, "ShareSeed succeeds", ok, true)
	}
	for _, s := range badSeeds() {
		end, share, ok := impl.ShareSeed(s)
		wantFailure(t, fmt.Sprint("ShareSeed ", s), end, share, ok)
	}
}
