package tests

import (
	"fmt"
	"math"
	"testing"

	"loop.example/g01339/impl"
)

func TestLimitsOfDraws(t *testing.T) {
	wantSame(t, "the limits", [2]int{impl.MaxPicks, impl.MaxTries}, [2]int{64, 64})
}

func bellReference(d *draws) complex64 {
	u, v := d.share(), d.share()
	long := shortRoot(shortTimes(-2, logRest(u)))
	turned := phasorReference(float64(v))
	return complex(shortTimes(real(turned), long), shortTimes(imag(turned), long))
}

func TestBellPairOfKnownWords(t *testing.T) {
	for _, c := range []struct {
		first, second int64
		re, im        uint32
	}{
		// -2 times the logarithm of 1 is -0, and so is its root: all zeros have turned signs.
		{0, 0, 0x80000000, 0x80000000}, {255, 1 << 30, 0x80000000, 0x80000000}, {0, 1 << 31, 0, 0x80000000}, {0, 3 << 30, 0x80000000, 0},
		{1 << 31, 0, 0x3f96b55f, 0}, {1 << 31, 1 << 30, 0, 0x3f96b55f}, {1 << 31, 1 << 31, 0xbf96b55f, 0}, {1 << 31, 3 << 30, 0, 0xbf96b55f},
		{mostWord, 0, 0x40b89456, 0}, {mostWord, 1 << 29, 0x40828472, 0x40828472},
	} {
		_, pair, ok := impl.BellPair(lineOfWords(c.first, c.second))
		wantComplex(t, fmt.Sprint("BellPair of the words ", c.first, c.second), pair, complex(fromBits(c.re), fromBits(c.im)))
		wantSame(t, "BellPair succeeds", ok, true)
	}
}

func TestBellPair(t *testing.T) {
	for _, s := range append(seedsOfDraws(1000), oddSeeds()...) {
		d := draws{s}
		want := bellReference(&d)
		end, pair, ok := impl.BellPair(s)
		wantComplex(t, fmt.Sprint("BellPair ", s), pair, want)
		wantSame(t, fmt.Sprint("the seed after BellPair ", s), end, d.at)
		wantSame(t, "BellPair succeeds", ok, true)
	}
	for _, s := range badSeeds() {
		end, pair, ok := impl.BellPair(s)
		wantFailure(t, fmt.Sprint("BellPair ", s), end, pair, ok)
	}
}

// quotientReference returns how many tries it takes as well.
func quotientReference(d *draws) (float32, int) {
	for tries := 1; ; tries++ {
		u, v := d.share(), d.share()
		a := shortLess(1, u)
		x := shortOver(shortTimes(1.7155278, shortLess(v, 0.5)), a)
		if shortTimes(x, x) <= shortTimes(-4, shortLog(a)) {
			return x, tries
		}
	}
}

func TestBellQuotient(t *testing.T) {
	most := 0
	for _, s := range append(seedsOfDraws(2000), oddSeeds()...) {
		d := draws{s}
		want, tries := quotientReference(&d)
		most = max(most, tries)
		end, x, ok := impl.BellQuotient(s)
		wantDrawnNumber(t, fmt.Sprint("BellQuotient ", s), d, want, end, x, ok)
	}
	wantSame(t, "some tries bring nothing", most > 4, true)
	for _, s := range badSeeds() {
		end, x, ok := impl.BellQuotient(s)
		wantFailure(t, fmt.Sprint("BellQuotient ", s), end, x, ok)
	}
}

func TestBellQuotientOfKnownWords(t *testing.T) {
	for _, c := range []struct {
		first, second int64
		want          uint32
		drawn         int64
	}{
		// With 1 for a, only 0 is taken, which comes from a half.
		{0, 1 << 31, 0, 2}, {255, 1<<31 + 255, 0, 2},
		{1 << 31, 1 << 31, 0, 2}, {1 << 31, 0, 0xbfdb966a, 0}, {1 << 31, 3 << 30, 0x3f5b966a, 2},
		{mostWord, 1 << 31, 0, 2},
	} {
		s := lineOfWords(c.first, c.second)
		end, x, ok := impl.BellQuotient(s)
		if c.drawn == 0 {
			wantSame(t, fmt.Sprint("a first try brings nothing: ", c), bitsOf(x) != c.want, true)
			continue
		}
		want, _ := impl.SkipSeed(s, c.drawn)
		wantDrawnNumber(t, fmt.Sprint("BellQuotient of the words ", c), draws{want}, fromBits(c.want), end, x, ok)
	}
	for _, second := range []int64{0, 1<<31 - 1, 1<<31 + 256, mostWord} {
		s := lineOfWords(0, second)
		end, _, _ := impl.BellQuotient(s)
		two, _ := impl.SkipSeed(s, 2)
		wantSame(t, fmt.Sprint("more than one try, as only 0 is taken: ", second), end != two, true)
	}
}

func TestBellQuotientAtItsEdges(t *testing.T) {
	// These shares, times 2^24, are the greatest ones that are just taken.
	for _, c := range [][2]int64{{2349872, 14922293}, {3495635, 15873042}, {9749835, 16031139}, {11623176, 14916385}, {14526041, 12108111}} {
		for _, more := range []int64{0, 1} {
			s := lineOfWords(c[0]*256, (c[1]+more)*256)
			d := draws{s}
			want, tries := quotientReference(&d)
			wantSame(t, fmt.Sprint("the first try is taken: ", c, more), tries == 1, more == 0)
			end, x, ok := impl.BellQuotient(s)
			wantDrawnNumber(t, fmt.Sprint("BellQuotient ", c, more), d, want, end, x, ok)
		}
	}
}

func TestBellQuotientWithManyTries(t *testing.T) {
	// This seed was found by trial: 15 tries bring nothing.
	s := impl.Seed{Kind: impl.SeedCount, A: 838595675}
	d := draws{s}
	want, tries := quotientReference(&d)
	wantSame(t, "how many tries", tries, 16)
	end, x, ok := impl.BellQuotient(s)
	wantDrawnNumber(t, "BellQuotient with 16 tries", d, want, end, x, ok)
	skipped, _ := impl.SkipSeed(s, 32)
	wantSame(t, "the seed after 32 words", end, skipped)
}

func TestBellsAreBells(t *testing.T) {
	for part := range 2 {
		mean, squares := meanOf(t, "BellPair", 20000, func(s impl.Seed) (impl.Seed, float64, bool) {
			end, pair, ok := impl.BellPair(s)
			return end, []float64{float64(real(pair)), float64(imag(pair))}[part], ok
		})
		wantNear(t, "the mean of BellPair", mean, 0, 0.03)
		wantNear(t, "the mean of its squares", squares, 1, 0.04)
	}
	mean, squares := meanOf(t, "BellQuotient", 20000, func(s impl.Seed) (impl.Seed, float64, bool) {
		end, x, ok := impl.BellQuotient(s)
		return end, float64(x), ok
	})
	wantNear(t, "the mean of BellQuotient", mean, 0, 0.03)
	wantNear(t, "the mean of its squares", squares, 1, 0.04)
}

func wantBells(t *testing.T, s impl.Seed, streams, count, workers int64) {
	t.Helper()
	what := fmt.Sprint("BellsShared ", s, streams, count, workers)
	lists, ok := impl.BellsShared(s, streams, count, workers)
	wantSame(t, "success of "+what, ok, true)
	wantSame(t, "how many streams: "+what, int64(len(lists)), streams)
	for i, list := range lists {
		at, _ := impl.SplitSeed(s, int64(i))
		wantSame(t, "how many numbers: "+what, int64(len(list)), count)
		for _, got := range list {
			next, pair, _ := impl.BellPair(at)
			wantComplex(t, what, got, pair)
			at = next
		}
	}
}

func TestBellsShared(t *testing.T) {
	for _, s := range append(drawnSeeds(8), oddSeeds()[:4]...) {
		for workers := int64(1); workers <= 8; workers++ {
			for _, streams := range []int64{0, 1, 2, 7, 8, 9, 16} {
				for _, count := range []int64{0, 1, 5} {
					wantBells(t, s, streams, count, workers)
				}
			}
		}
		wantBells(t, s, 16, 64, 8)
		wantBells(t, s, 16, 64, 1)
	}
	for range 200 {
		wantBells(t, impl.Seed{Kind: impl.SeedPair, A: 1}, 16, 2, 8)
	}
}

func TestBellsSharedFails(t *testing.T) {
	good := impl.Seed{Kind: impl.SeedCount}
	fails := func(s impl.Seed, streams, count, workers int64) {
		t.Helper()
		lists, ok := impl.BellsShared(s, streams, count, workers)
		wantFailure(t, fmt.Sprint("BellsShared ", s, streams, count, workers), lists, ok)
	}
	for _, n := range []int64{-1, 17, 65, wordsEnd, math.MinInt64, math.MaxInt64} {
		fails(good, n, 1, 1)
		fails(good, n, 0, 1)
	}
	for _, n := range []int64{-1, 65, 256, wordsEnd, math.MinInt64, math.MaxInt64} {
		fails(good, 1, n, 1)
		fails(good, 0, n, 1) // there is no stream that could fail
	}
	for _, n := range []int64{-1, 0, 9, wordsEnd + 1, math.MinInt64, math.MaxInt64} {
		for _, streams := range []int64{0, 1, 16} {
			fails(good, streams, 2, n)
		}
	}
	for _, s := range badSeeds() {
		fails(s, 2, 2, 2)
		fails(s, 0, 0, 1)
	}
}

func TestBellsSharedLeaveNoWorkers(t *testing.T) {
	wantNoWorkers(t, func(streams int64) {
		impl.BellsShared(impl.Seed{Kind: impl.SeedCount}, streams, 8, 8)
	})
}

func TestBellsSharedShareNoMemory(t *testing.T) {
	wantOwnMemory(t, func() [][]complex64 {
		lists, _ := impl.BellsShared(impl.Seed{Kind: impl.SeedLine, B: 1}, 16, 3, 5)
		return lists
	}, -5)
}
