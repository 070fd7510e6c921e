package tests

import (
	"fmt"
	"math"
	"testing"

	"loop.example/g01339/impl"
)

func evenReference(d *draws) float32 {
	e := 0
	for words := 0; words < 4; words++ {
		if word := d.word(); word != 0 {
			for ; word < 1<<31; word *= 2 {
				e++
			}
			k := d.word() / 512
			return float32(float64(8388608+k) * math.Pow(2, float64(-24-e)))
		}
		e += 32
	}
	d.word()
	return 0
}

func TestEvenSeed(t *testing.T) {
	for _, s := range append(seedsOfDraws(1000), oddSeeds()...) {
		d := draws{s}
		want := evenReference(&d)
		end, x, ok := impl.EvenSeed(s)
		wantDrawnNumber(t, fmt.Sprint("EvenSeed ", s), d, want, end, x, ok)
		wantSame(t, fmt.Sprint("EvenSeed is from 0 to 1: ", s), x >= 0 && x <= 1, true)
	}
	for _, s := range badSeeds() {
		end, x, ok := impl.EvenSeed(s)
		wantFailure(t, fmt.Sprint("EvenSeed ", s), end, x, ok)
	}
}

func TestEvenSeedOfTwoWords(t *testing.T) {
	for _, c := range []struct {
		first, second int64
		want          float32
	}{
		{1 << 31, 0, 0.5}, {mostWord, 0, 0.5}, {1 << 31, 511, 0.5}, {1 << 31, 512, 0.5 + 0x1p-24}, {mostWord, mostWord, 1 - 0x1p-24}, {1 << 31, mostWord - 511, 1 - 0x1p-24},
		{1<<31 - 1, 0, 0.25}, {1<<31 - 1, mostWord, 0.5 - 0x1p-25}, {1 << 30, 1 << 31, 0.375}, {1, 0, 0x1p-32}, {1, mostWord, 0x1p-31 - 0x1p-55}, {2, 1 << 31, 0x1.8p-31}, {3, 0, 0x1p-31}, {255, 0, 0x1p-25}, {256, 0, 0x1p-24},
	} {
		s := lineOfWords(c.first, c.second)
		want, _ := impl.SkipSeed(s, 2)
		end, x, ok := impl.EvenSeed(s)
		wantDrawnNumber(t, fmt.Sprint("EvenSeed of the words ", c.first, c.second), draws{want}, c.want, end, x, ok)
	}
	// All places of the first digit that is 1, and the ones behind it do not matter.
	for place := range 32 {
		for _, first := range []int64{1 << place, 2<<place - 1} {
			_, x, _ := impl.EvenSeed(lineOfWords(first, 0))
			wantNumber(t, fmt.Sprint("EvenSeed of the word ", first), x, float32(math.Ldexp(1, place-32)))
		}
	}
}

func TestEvenSeedOfZeros(t *testing.T) {
	for _, c := range []struct {
		s     impl.Seed
		drawn int64
		want  float32
	}{
		// 0, 1481765933, and the next word.
		{impl.Seed{Kind: impl.SeedLine, B: 1}, 3, 0x1.c0b18cp-34},
		{lineOfWords(0, 0), 4, 0x1.c0b18cp-66},
		{impl.Seed{Kind: impl.SeedCount, A: 0x51bc3afc2be5f5fd}, 4, 0x1.d9f17ap-65},
		{seedOfZeros(8), 5, 0x1.5e50f2p-125},
		{seedOfZeros(0), 5, 0},
	} {
		d := draws{c.s}
		want := evenReference(&d)
		skipped := c.s
		for range c.drawn {
			skipped, _, _ = impl.NextSeed(skipped)
		}
		end, x, ok := impl.EvenSeed(c.s)
		wantSame(t, fmt.Sprint("the seed that the reference tells: ", c.s), d.at, skipped)
		wantNumber(t, fmt.Sprint("what the reference tells: ", c.s), want, c.want)
		wantDrawnNumber(t, fmt.Sprint("EvenSeed ", c.s), d, c.want, end, x, ok)
	}
}

func TestEvenSeedIsEven(t *testing.T) {
	mean, squares := meanOf(t, "EvenSeed", 20000, func(s impl.Seed) (impl.Seed, float64, bool) {
		end, x, ok := impl.EvenSeed(s)
		return end, float64(x), ok
	})
	wantNear(t, "the mean of EvenSeed", mean, 0.5, 0.01)
	wantNear(t, "the mean of its squares", squares, 1.0/3, 0.01)
}

func betweenReference(d *draws, low, high float32) float32 {
	x := shortPlus(low, shortTimes(shortLess(high, low), d.share()))
	if x < high {
		return x
	}
	return low
}

func TestBetweenSeed(t *testing.T) {
	numbers := append([]float32{2, -2, 1e-30, 1e30, -1e30, most / 2, -most / 2, 1 - 0x1p-24, 100, 101}, oddNumbers()...)
	seeds := seedsOfDraws(8)
	for i, low := range numbers {
		for k, high := range numbers {
			for n := range 3 {
				s := seeds[(i*31+k*7+n*5)%len(seeds)]
				d := draws{s}
				what := fmt.Sprint("BetweenSeed ", s, low, high)
				end, x, ok := impl.BetweenSeed(s, low, high)
				if width := shortLess(high, low); !(low < high) || width-width != 0 {
					wantFailure(t, what, end, x, ok)
					continue
				}
				wantDrawnNumber(t, what, d.behind(1), betweenReference(&d, low, high), end, x, ok)
				wantSame(t, "it lies between: "+what, x >= low && x < high, true)
			}
		}
	}
	for _, s := range badSeeds() {
		end, x, ok := impl.BetweenSeed(s, 0, 1)
		wantFailure(t, fmt.Sprint("BetweenSeed ", s), end, x, ok)
	}
}

func TestBetweenSeedOfKnownWords(t *testing.T) {
	for _, c := range []struct {
		word            int64
		low, high, want float32
	}{
		{0, 1, 3, 1}, {1 << 31, 1, 3, 2}, {mostWord - 256, 1, 3, 3 - 0x1p-22}, {1 << 30, -1, 1, -0.5}, {0, minusZero, 1, 0}, {1 << 31, -1, 1, 0},
		{mostWord, 0, 1, 1 - 0x1p-24}, {mostWord, 0, least, 0}, {1 << 31, 0, least, 0}, {1<<31 + 256, 0, 2 * least, least}, {mostWord, minusZero, least, minusZero},
		// What is rounded up to the end becomes the beginning.
		{1 << 31, 1, afterOne, 1}, {1<<31 + 256, 1, afterOne, 1}, {mostWord, 1, afterOne, 1}, {mostWord, 1, 3, 1}, {mostWord, 100, 101, 100}, {mostWord, -101, -100, -101},
		{mostWord, -most / 2, most / 2, most/2 - 0x1p104}, {0, -most / 2, most / 2, -most / 2}, {mostWord, 0, most, fromBits(0x7f7ffffe)}, {mostWord, -1, most, fromBits(0x7f7ffffe)},
	} {
		_, x, ok := impl.BetweenSeed(lineOfWord(c.word), c.low, c.high)
		wantNumber(t, fmt.Sprint("BetweenSeed of the word ", c.word, c.low, c.high), x, c.want)
		wantSame(t, "BetweenSeed succeeds", ok, true)
	}
}

func waitReference(d *draws, rate float32) float32 {
	return shortOver(-logRest(d.share()), rate)
}

func TestWaitSeed(t *testing.T) {
	for i, s := range seedsOfDraws(1000) {
		for _, rate := range []float32{1, 0.5, 3, 1e20, 1e-20, most, leastNormal, 0x1p-125, 0x1p-124, least, float32(i) + 0.1} {
			d := draws{s}
			want := waitReference(&d, rate)
			end, x, ok := impl.WaitSeed(s, rate)
			if what := fmt.Sprint("WaitSeed ", s, rate); want == inf {
				wantFailure(t, what, end, x, ok)
			} else {
				wantDrawnNumber(t, what, d, want, end, x, ok)
			}
		}
		for _, rate := range append(oddFloats(), 0, minusZero, -1, -least, -most) {
			end, x, ok := impl.WaitSeed(s, rate)
			wantFailure(t, fmt.Sprint("WaitSeed ", s, rate), end, x, ok)
		}
	}
	for _, s := range badSeeds() {
		end, x, ok := impl.WaitSeed(s, 1)
		wantFailure(t, fmt.Sprint("WaitSeed ", s), end, x, ok)
	}
}

func TestWaitSeedOfKnownWords(t *testing.T) {
	for _, c := range []struct {
		word       int64
		rate, want float32
	}{
		// The opposite of the logarithm of 1 is -0.
		{0, 1, minusZero}, {255, most, minusZero}, {0, least, minusZero}, {256, 1, 0x1p-24}, {1 << 31, 1, fromBits(0x3f317218)}, {1 << 31, 0.5, fromBits(0x3fb17218)},
		{mostWord, 1, fromBits(0x41851592)}, {256, least, 0x1p125}, {mostWord, 0x1p-124, inf}, {mostWord, 0x1p-123, fromBits(0x7f051592)},
	} {
		_, x, ok := impl.WaitSeed(lineOfWord(c.word), c.rate)
		if c.want == inf {
			c.want = 0
			wantSame(t, "WaitSeed of too long a wait fails", ok, false)
		} else {
			wantSame(t, "WaitSeed succeeds", ok, true)
		}
		wantNumber(t, fmt.Sprint("WaitSeed of the word ", c.word, c.rate), x, c.want)
	}
	mean, squares := meanOf(t, "WaitSeed", 20000, func(s impl.Seed) (impl.Seed, float64, bool) {
		end, x, ok := impl.WaitSeed(s, 4)
		return end, float64(x), ok
	})
	wantNear(t, "the mean of WaitSeed", mean, 0.25, 0.006)
	wantNear(t, "the mean of its squares", squares, 0.125, 0.01)
}
