package tests

import (
	"fmt"
	"math"
	"testing"

	"loop.example/g01339/impl"
)

func countOfMean(d *draws, mean float32) int64 {
	p, limit := float32(1), shortExp(-mean)
	for count := int64(0); ; count++ {
		if p = shortTimes(p, shortLess(1, d.share())); !(p >= limit) {
			return count
		}
	}
}

func TestCountSeed(t *testing.T) {
	for i, s := range append(seedsOfDraws(300), seedOfZeros(0), seedOfZeros(8)) {
		for k, mean := range []float32{0, minusZero, least, 0x1p-24, 0x1p-25, 0.1, 1, 2.5, 10, 31.9, 32} {
			if mean > 5 && (i+k)%4 != 0 {
				continue
			}
			d := draws{s}
			want := countOfMean(&d, mean)
			end, count, ok := impl.CountSeed(s, mean)
			wantDrawnCount(t, fmt.Sprint("CountSeed ", s, mean), d, want, end, count, ok)
		}
		for _, mean := range append(oddFloats(), -least, -1, fromBits(0x42000001), 33, most, -most) {
			end, count, ok := impl.CountSeed(s, mean)
			wantFailure(t, fmt.Sprint("CountSeed ", s, mean), end, count, ok)
		}
	}
	for _, s := range badSeeds() {
		for _, mean := range []float32{0, 1} {
			end, count, ok := impl.CountSeed(s, mean)
			wantFailure(t, fmt.Sprint("CountSeed ", s, mean), end, count, ok)
		}
	}
}

func TestCountSeedOfZeros(t *testing.T) {
	for _, c := range []struct {
		s    impl.Seed
		want int64
	}{
		// With a mean of 0, each share of 0 counts, and no other one does.
		{lineOfWord(256), 0}, {lineOfWord(mostWord), 0}, {lineOfWords(255, 1<<31), 1}, {lineOfWords(0, 256), 1}, {impl.Seed{Kind: impl.SeedLine, B: 1}, 1},
		{lineOfWords(0, 0), 2}, {lineOfWords(255, 255), 2}, {seedOfZeros(0), 4}, {seedOfZeros(8), 4},
	} {
		for _, mean := range []float32{0, minusZero} {
			end, count, ok := impl.CountSeed(c.s, mean)
			d := draws{c.s}
			wantDrawnCount(t, fmt.Sprint("CountSeed of the mean 0 and ", c.s), d.behind(int(c.want)+1), c.want, end, count, ok)
		}
	}
}

func TestHitsSeed(t *testing.T) {
	for i, s := range seedsOfDraws(200) {
		for k, share := range []float32{0, minusZero, least, 0x1p-24, 0.25, 0.5, 0.9, 1 - 0x1p-24, 1} {
			n := []int64{0, 1, 2, 17, 256}[(i+k)%5]
			d, want := draws{s}, int64(0)
			for range n {
				if d.share() < share {
					want++
				}
			}
			end, hits, ok := impl.HitsSeed(s, n, share)
			wantDrawnCount(t, fmt.Sprint("HitsSeed ", s, n, share), d, want, end, hits, ok)
			for _, n := range []int64{-1, 257, wordsEnd, math.MinInt64, math.MaxInt64} {
				end, hits, ok := impl.HitsSeed(s, n, share)
				wantFailure(t, fmt.Sprint("HitsSeed ", s, n, share), end, hits, ok)
			}
		}
	}
	for _, share := range append(oddFloats(), -least, -1, afterOne, 2, most, -most) {
		for _, n := range []int64{0, 1, 256} {
			end, hits, ok := impl.HitsSeed(impl.Seed{Kind: impl.SeedCount}, n, share)
			wantFailure(t, fmt.Sprint("HitsSeed ", n, share), end, hits, ok)
		}
	}
	for _, s := range badSeeds() {
		for _, n := range []int64{0, 5} {
			end, hits, ok := impl.HitsSeed(s, n, 0.5)
			wantFailure(t, fmt.Sprint("HitsSeed ", s, n), end, hits, ok)
		}
	}
}

func TestHitsSeedOfKnownWords(t *testing.T) {
	for _, c := range []struct {
		word  int64
		share float32
		want  int64
	}{
		{0, 0, 0}, {0, minusZero, 0}, {0, least, 1}, {255, least, 1}, {256, 0x1p-24, 0}, {1 << 31, 0.5, 0}, {1<<31 - 1, 0.5, 1}, {1 << 31, 0.5 + 0x1p-24, 1},
		{mostWord, 1, 1}, {mostWord, 1 - 0x1p-24, 0}, {mostWord - 256, 1 - 0x1p-24, 1},
	} {
		_, hits, ok := impl.HitsSeed(lineOfWord(c.word), 1, c.share)
		wantSame(t, fmt.Sprint("HitsSeed of the word ", c.word, c.share), hits, c.want)
		wantSame(t, "HitsSeed succeeds", ok, true)
	}
	for _, s := range drawnSeeds(12) {
		_, all, _ := impl.HitsSeed(s, 256, 1)
		_, none, _ := impl.HitsSeed(s, 256, 0)
		wantList(t, "a share of 1 hits each time, and one of 0 never", []int64{all, none}, []int64{256, 0})
	}
}

func TestFirstSeed(t *testing.T) {
	for _, s := range seedsOfDraws(1000) {
		for _, share := range []float32{1, 1 - 0x1p-24, 0.9, 0.5, 0.1, 1e-3, 1e-5, 1e-7, 0x1p-24, 0x1.000002p-25} {
			d, want := draws{s}, int64(0)
			if u := d.share(); share != 1 {
				want = int64(math.Floor(float64(shortOver(logRest(u), logRest(share)))))
			}
			end, misses, ok := impl.FirstSeed(s, share)
			wantDrawnCount(t, fmt.Sprint("FirstSeed ", s, share), d, want, end, misses, ok)
		}
		// 1 less these is 1, whose logarithm is 0: no quotient is finite.
		for _, share := range []float32{0x1p-25, 1e-10, leastNormal, least} {
			end, misses, ok := impl.FirstSeed(s, share)
			wantFailure(t, fmt.Sprint("FirstSeed ", s, share), end, misses, ok)
		}
		for _, share := range append(oddFloats(), 0, minusZero, -least, -0.5, afterOne, 2, most) {
			end, misses, ok := impl.FirstSeed(s, share)
			wantFailure(t, fmt.Sprint("FirstSeed ", s, share), end, misses, ok)
		}
	}
	for _, s := range badSeeds() {
		for _, share := range []float32{0.5, 1} {
			end, misses, ok := impl.FirstSeed(s, share)
			wantFailure(t, fmt.Sprint("FirstSeed ", s, share), end, misses, ok)
		}
	}
}

func TestFirstSeedOfKnownWords(t *testing.T) {
	for _, c := range []struct {
		word  int64
		share float32
		want  int64
	}{
		{0, 0.5, 0}, {1<<31 - 1, 0.5, 0}, {1 << 31, 0.5, 1}, {3<<30 - 1, 0.5, 1}, {3 << 30, 0.5, 2}, {7 << 29, 0.5, 3}, {mostWord, 0.5, 24},
		{3 << 30, 0.75, 1}, {3<<30 - 1, 0.75, 0}, {0, 1, 0}, {mostWord, 1, 0}, {mostWord, 1 - 0x1p-24, 1}, {mostWord - 256, 1 - 0x1p-24, 0},
		{0, 0x1p-24, 0}, {256, 0x1p-24, 1}, {512, 0x1p-24, 2}, {1 << 31, 0x1p-24, 11629080}, {mostWord, 0x1p-24, 279097920},
	} {
		_, misses, ok := impl.FirstSeed(lineOfWord(c.word), c.share)
		wantSame(t, fmt.Sprint("FirstSeed of the word ", c.word, c.share), misses, c.want)
		wantSame(t, "FirstSeed succeeds", ok, true)
	}
}

func TestCountsHaveTheirMeans(t *testing.T) {
	for _, mean := range []float32{0.5, 4, 32} {
		got, squares := meanOf(t, "CountSeed", 5000, func(s impl.Seed) (impl.Seed, float64, bool) {
			end, n, ok := impl.CountSeed(s, mean)
			return end, float64(n), ok
		})
		wantNear(t, fmt.Sprint("the mean of CountSeed ", mean), got, float64(mean), 0.06*math.Sqrt(float64(mean)))
		wantNear(t, fmt.Sprint("the spread of CountSeed ", mean), squares-got*got, float64(mean), 0.1*float64(mean))
	}
	for _, share := range []float32{0.1, 0.5, 0.9} {
		got, _ := meanOf(t, "HitsSeed", 2000, func(s impl.Seed) (impl.Seed, float64, bool) {
			end, n, ok := impl.HitsSeed(s, 40, share)
			return end, float64(n), ok
		})
		wantNear(t, fmt.Sprint("the mean of HitsSeed ", share), got, 40*float64(share), 0.3)
		got, _ = meanOf(t, "FirstSeed", 20000, func(s impl.Seed) (impl.Seed, float64, bool) {
			end, n, ok := impl.FirstSeed(s, share)
			return end, float64(n), ok
		})
		wide := float64(share)
		wantNear(t, fmt.Sprint("the mean of FirstSeed ", share), got, (1-wide)/wide, 0.03/wide)
	}
}
