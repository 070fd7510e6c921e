package tests

import (
	"fmt"
	"math"
	"math/big"
	"testing"

	"loop.example/g01339/impl"
)

func TestLimitsOfSeeds(t *testing.T) {
	wantSame(t, "the limits and kinds", [6]int{impl.MaxWords, impl.MaxWorkers, impl.SeedLine, impl.SeedShift, impl.SeedCount, impl.SeedPair}, [6]int{256, 8, 0, 1, 2, 3})
}

func TestValidSeed(t *testing.T) {
	for _, s := range append(oddSeeds(), drawnSeeds(100)...) {
		wantSame(t, fmt.Sprint("ValidSeed ", s), impl.ValidSeed(s), true)
	}
	for _, s := range badSeeds() {
		wantSame(t, fmt.Sprint("ValidSeed ", s), impl.ValidSeed(s), false)
	}
	// What one kind requires, another one does not.
	for _, s := range []impl.Seed{
		{Kind: impl.SeedLine, B: 1}, {Kind: impl.SeedShift, A: 2}, {Kind: impl.SeedCount}, {Kind: impl.SeedCount, B: 2},
		{Kind: impl.SeedPair, A: 2}, {Kind: impl.SeedPair, B: 2},
	} {
		wantSame(t, fmt.Sprint("ValidSeed ", s), impl.ValidSeed(s), true)
	}
}

func TestSameSeed(t *testing.T) {
	all := append(oddSeeds(), badSeeds()...)
	for i, a := range all {
		for k, b := range all {
			wantSame(t, fmt.Sprint("SameSeed ", a, b), impl.SameSeed(a, b), i == k)
		}
	}
}

func TestMixWord(t *testing.T) {
	wantSame(t, "MixWord of 0", impl.MixWord(0), 0)
	for _, s := range append(oddSeeds(), drawnSeeds(100)...) {
		wantSame(t, fmt.Sprint("MixWord ", s.A), impl.MixWord(s.A), mixReference(s.A))
		wantSame(t, fmt.Sprint("MixWord ", s.B), impl.MixWord(s.B), mixReference(s.B))
	}
	// The first numbers of a known generator, which mixes a count in this way.
	x := uint64(1234567)
	for _, want := range []uint64{6457827717110365317, 3203168211198807973, 9817491932198370423, 4593380528125082431, 16408922859458223821} {
		x += 11400714819323198485
		wantSame(t, "MixWord of a count", impl.MixWord(x), want)
	}
}

func TestNextSeed(t *testing.T) {
	for _, s := range append(oddSeeds(), drawnSeeds(400)...) {
		for range 5 {
			next, word, ok := impl.NextSeed(s)
			wantNext, wantWord := nextReference(s)
			wantSame(t, fmt.Sprint("NextSeed succeeds for ", s), ok, true)
			wantSame(t, fmt.Sprint("NextSeed ", s), next, wantNext)
			wantSame(t, fmt.Sprint("the word of NextSeed ", s), word, wantWord)
			wantSame(t, fmt.Sprint("ValidSeed of NextSeed ", s), impl.ValidSeed(next), true)
			s = next
		}
	}
	for _, s := range badSeeds() {
		next, word, ok := impl.NextSeed(s)
		wantFailure(t, fmt.Sprint("NextSeed ", s), next, word, ok)
	}
}

func TestNextSeedOfEachKind(t *testing.T) {
	for _, c := range []struct {
		s, next impl.Seed
		word    int64
	}{
		{impl.Seed{Kind: impl.SeedLine, B: 1}, impl.Seed{Kind: impl.SeedLine, A: 1, B: 1}, 0},
		{impl.Seed{Kind: impl.SeedLine, A: 1, B: 1}, impl.Seed{Kind: impl.SeedLine, A: 6364136223846793006, B: 1}, 1481765933},
		{impl.Seed{Kind: impl.SeedLine, B: mostWide}, impl.Seed{Kind: impl.SeedLine, A: mostWide, B: mostWide}, mostWord},
		{impl.Seed{Kind: impl.SeedShift, A: 1, B: 9}, impl.Seed{Kind: impl.SeedShift, A: 1082269761, B: 9}, 3136999266},
		{impl.Seed{Kind: impl.SeedCount, A: 1234560, B: 7}, impl.Seed{Kind: impl.SeedCount, A: 11400714819324433045, B: 7}, 6457827717110365317 >> 32},
		// The sum goes on from 2^64 - 1 at 0.
		{impl.Seed{Kind: impl.SeedCount, A: 7046029254386353131}, impl.Seed{Kind: impl.SeedCount}, 0},
		{impl.Seed{Kind: impl.SeedPair, A: wordsEnd, B: wordsEnd}, impl.Seed{Kind: impl.SeedPair, A: 1 << 56}, 2},
		{impl.Seed{Kind: impl.SeedPair, A: mostWide, B: wordsEnd}, impl.Seed{Kind: impl.SeedPair, A: 0xfffefffeffff0000, B: 0xffffffffffffffdf}, 0},
	} {
		next, word, ok := impl.NextSeed(c.s)
		wantSame(t, fmt.Sprint("NextSeed ", c.s), next, c.next)
		wantSame(t, fmt.Sprint("the word of NextSeed ", c.s), word, c.word)
		wantSame(t, "NextSeed succeeds", ok, true)
	}
}

func TestWordsOf(t *testing.T) {
	for _, s := range append(oddSeeds(), drawnSeeds(40)...) {
		for _, count := range []int64{0, 1, 2, 255, 256} {
			want, at := []int64{}, s
			for range count {
				next, word, _ := impl.NextSeed(at)
				at, want = next, append(want, word)
			}
			end, words, ok := impl.WordsOf(s, count)
			wantSame(t, fmt.Sprint("WordsOf succeeds for ", s, count), ok, true)
			wantList(t, fmt.Sprint("WordsOf ", s, count), words, want)
			wantSame(t, fmt.Sprint("the seed after WordsOf ", s, count), end, at)
		}
		for _, count := range []int64{-1, 257, wordsEnd, math.MinInt64, math.MaxInt64} {
			end, words, ok := impl.WordsOf(s, count)
			wantFailure(t, fmt.Sprint("WordsOf ", s, count), end, words, ok)
		}
	}
	for _, s := range badSeeds() {
		end, words, ok := impl.WordsOf(s, 2)
		wantFailure(t, fmt.Sprint("WordsOf ", s), end, words, ok)
		end, words, ok = impl.WordsOf(s, 0)
		wantFailure(t, fmt.Sprint("WordsOf ", s), end, words, ok)
	}
	_, words, _ := impl.WordsOf(impl.Seed{Kind: impl.SeedLine, B: 1}, 2)
	wantList(t, "the words of a line", words, []int64{0, 1481765933})
}

func wantSkip(t *testing.T, s impl.Seed, count int64, want impl.Seed) {
	t.Helper()
	end, ok := impl.SkipSeed(s, count)
	wantSame(t, fmt.Sprint("SkipSeed succeeds for ", s, count), ok, true)
	wantSame(t, fmt.Sprint("SkipSeed ", s, count), end, want)
}

func TestSkipSeedNear(t *testing.T) {
	seeds := append(drawnSeeds(8), oddSeeds()[:8]...)
	for _, s := range seeds {
		at := s
		for count := int64(0); count <= 4096; count++ {
			wantSkip(t, s, count, at)
			at, _, _ = impl.NextSeed(at)
		}
	}
	for _, s := range oddSeeds() {
		at, _, _ := impl.WordsOf(s, 200)
		wantSkip(t, s, 200, at)
		wantSkip(t, s, 0, s)
	}
}

// lineReference uses the sum of powers in closed form, modulo 2^64 times what it is divided by.
func lineReference(s impl.Seed, count int64) impl.Seed {
	factor := wide(lineFactor)
	divisor := new(big.Int).Sub(factor, big.NewInt(1))
	power := new(big.Int).Exp(factor, big.NewInt(count), new(big.Int).Mul(wordModulus(), divisor))
	powers := new(big.Int).Sub(power, big.NewInt(1))
	powers.Div(powers, divisor)
	return impl.Seed{Kind: s.Kind, A: sum(product(modulo(power), s.A), product(modulo(powers), s.B)), B: s.B}
}

func countReference(s impl.Seed, count int64) impl.Seed {
	return impl.Seed{Kind: s.Kind, A: sum(s.A, product(uint64(count), 11400714819323198485)), B: s.B}
}

func TestSkipSeedFar(t *testing.T) {
	counts := []int64{4097, 5000, wordsEnd - 1, wordsEnd, wordsEnd + 1, 1000000000000000, math.MaxInt64 / 3, farthest - 1, farthest}
	for _, s := range append(oddSeeds(), drawnSeeds(200)...) {
		for _, count := range counts {
			switch s.Kind {
			case impl.SeedLine:
				wantSkip(t, s, count, lineReference(s, count))
			case impl.SeedCount:
				wantSkip(t, s, count, countReference(s, count))
			}
		}
	}
}

func TestSkipSeedInParts(t *testing.T) {
	for _, s := range drawnSeeds(80) {
		far := s.Kind == impl.SeedLine || s.Kind == impl.SeedCount
		counts := [][2]int64{{0, 4096}, {4096, 0}, {1, 4095}, {2048, 2048}, {1234, 777}}
		if far {
			counts = append(counts, [2]int64{1, farthest - 1}, [2]int64{farthest - 5, 5}, [2]int64{farthest / 2, farthest / 2}, [2]int64{123456789012345, 987654321098765432})
		}
		for _, c := range counts {
			first, _ := impl.SkipSeed(s, c[0])
			both, _ := impl.SkipSeed(first, c[1])
			wantSkip(t, s, c[0]+c[1], both)
		}
		if !far {
			continue
		}
		// All 2^64 seeds of a line, or of a count, come once before one comes again.
		at := s
		for i := range 4 {
			wantSame(t, fmt.Sprint("back after so many jumps: ", i), at == s, i == 0)
			at, _ = impl.SkipSeed(at, farthest)
		}
		wantSame(t, "the seed after four of the farthest jumps", at, s)
	}
}

func TestSkipSeedFails(t *testing.T) {
	for _, s := range append(oddSeeds(), drawnSeeds(40)...) {
		counts := []int64{-1, math.MinInt64, farthest + 1, math.MaxInt64}
		if s.Kind == impl.SeedShift || s.Kind == impl.SeedPair {
			counts = append(counts, 4097, wordsEnd, farthest)
		}
		for _, count := range counts {
			end, ok := impl.SkipSeed(s, count)
			wantFailure(t, fmt.Sprint("SkipSeed ", s, count), end, ok)
		}
	}
	for _, s := range badSeeds() {
		for _, count := range []int64{0, 1, 4096} {
			end, ok := impl.SkipSeed(s, count)
			wantFailure(t, fmt.Sprint("SkipSeed ", s, count), end, ok)
		}
	}
}
