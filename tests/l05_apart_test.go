package tests

import (
	"fmt"
	"math"
	"slices"
	"testing"

	"loop.example/g01339/impl"
)

func entropyReference(s impl.Share) float32 {
	sum := float32(0)
	for _, chance := range s.Chances {
		if chance > 0 {
			sum = shortPlus(sum, shortOver(shortTimes(chance, shortLog(chance)), 0.6931472))
		}
	}
	return -sum
}

func TestEntropyOf(t *testing.T) {
	for _, s := range goodShares() {
		entropy, ok := impl.EntropyOf(s)
		wantTold(t, call{"EntropyOf ", s}, entropy, ok, entropyReference(s))
		exact := 0.0
		for _, chance := range s.Chances {
			if chance > 0 {
				exact -= float64(chance) * math.Log2(float64(chance))
			}
		}
		wantNear(t, fmt.Sprint("EntropyOf ", s), float64(entropy), exact, 1e-5)
	}
	for _, c := range []struct {
		s    impl.Share
		want float32
	}{
		// The opposite of +0 is -0.
		{shareOf([]float32{5}, 1), minusZero}, {shareOf([]float32{4, 5}, minusZero, 1), minusZero}, {shareOf([]float32{4, 5, 6}, 1, 0, 0), minusZero},
		// Chances of nothing tell nothing, and the least one very little.
		{shareOf([]float32{4, 5}, 1, least), fromBits(149)}, {shareOf([]float32{0, 1}, 0.5, 0.5), entropyReference(shareOf([]float32{0}, 0.5, 0.5))},
	} {
		entropy, ok := impl.EntropyOf(c.s)
		wantTold(t, call{"EntropyOf ", c.s}, entropy, ok, c.want)
	}
	for n := 1; n <= 64; n *= 2 {
		entropy, _ := impl.EntropyOf(spreadOut(n, 1))
		wantNear(t, fmt.Sprint("EntropyOf equal chances ", n), float64(entropy), math.Log2(float64(n)), 1e-5)
	}
}

// valuesOfBoth has the values of one of both shares, each one once, in ascending order.
func valuesOfBoth(a, b impl.Share) []float32 {
	list := append(slices.Clone(a.Values), b.Values...)
	slices.Sort(list)
	return slices.CompactFunc(list, func(x, y float32) bool { return x == y })
}

func chanceOf(s impl.Share, x float32) float32 {
	for i, value := range s.Values {
		if value == x {
			return s.Chances[i]
		}
	}
	return 0
}

func absolute(x float32) float32 { return float32(math.Abs(float64(x))) }

func TestApartShares(t *testing.T) {
	for _, pair := range somePairs() {
		a, b := pair[0], pair[1]
		sum := float32(0)
		for _, x := range valuesOfBoth(a, b) {
			sum = shortPlus(sum, absolute(shortLess(chanceOf(a, x), chanceOf(b, x))))
		}
		apart, ok := impl.ApartShares(a, b)
		wantTold(t, call{"ApartShares ", a, b}, apart, ok, shortTimes(0.5, sum))
		wantNear(t, "how far shares can be apart", float64(apart), 0.5, 0.502)
	}
	coin := shareOf([]float32{0, 1}, 0.5, 0.5)
	for _, c := range []struct {
		a, b impl.Share
		want float32
	}{
		{coin, coin, 0}, {coin, shareOf([]float32{5}, 1), 1}, {coin, shareOf([]float32{minusZero, 1}, 0.25, 0.75), 0.25}, {coin, shareOf([]float32{minusZero}, 1), 0.5}, {coin, shareOf([]float32{-1, 0.5, 2}, 0.25, 0.5, 0.25), 1}, {coin, shareOf([]float32{0, 1, 2}, 0.5, 0.5, minusZero), 0},
		{shareOf([]float32{5}, mostAlone), shareOf([]float32{5}, leastAlone), (mostAlone - leastAlone) / 2}, {shareOf([]float32{5}, leastAlone), shareOf([]float32{5}, mostAlone), (mostAlone - leastAlone) / 2}, {shareOf([]float32{-5}, mostAlone), shareOf([]float32{5}, mostAlone), mostAlone},
		{shareOf([]float32{1, 2}, 1, least), shareOf([]float32{1}, 1), 0}, {shareOf([]float32{1, 2}, 1, 3*least), shareOf([]float32{1}, 1), 2 * least},
		// Together, they may have more values than one share.
		{spreadOut(64, 1), spreadOut(64, -1), 63.0 / 64}, {spreadOut(64, 2), shareOf([]float32{1}, 1), 1},
	} {
		slices.Sort(c.b.Values)
		apart, ok := impl.ApartShares(c.a, c.b)
		wantTold(t, call{"ApartShares ", c.a, c.b}, apart, ok, c.want)
	}
}

func TestStepsApart(t *testing.T) {
	for _, pair := range somePairs() {
		a, b := pair[0], pair[1]
		want := float32(0)
		for _, x := range valuesOfBoth(a, b) {
			want = max(want, absolute(shortLess(belowReference(a, x), belowReference(b, x))))
		}
		apart, ok := impl.StepsApart(a, b)
		wantTold(t, call{"StepsApart ", a, b}, apart, ok, want)
	}
	coin := shareOf([]float32{0, 1}, 0.5, 0.5)
	for _, c := range []struct {
		a, b impl.Share
		want float32
	}{
		{coin, coin, 0}, {coin, shareOf([]float32{5}, 1), 1}, {shareOf([]float32{5}, 1), coin, 1}, {coin, shareOf([]float32{minusZero, 1}, 0.25, 0.75), 0.25}, {coin, shareOf([]float32{-1, 0.5, 2}, 0.25, 0.5, 0.25), 0.25}, {coin, shareOf([]float32{0.5}, 1), 0.5}, {shareOf([]float32{1, 2, 3}, 0.25, 0.5, 0.25), shareOf([]float32{1, 2, 3}, 0.5, 0, 0.5), 0.25},
		{shareOf([]float32{5}, mostAlone), shareOf([]float32{5}, leastAlone), mostAlone - leastAlone}, {shareOf([]float32{5}, leastAlone), shareOf([]float32{5}, mostAlone), mostAlone - leastAlone}, {shareOf([]float32{-5}, mostAlone), shareOf([]float32{5}, 1), mostAlone}, {shareOf([]float32{5}, 1), shareOf([]float32{-5}, mostAlone), mostAlone},
		{shareOf([]float32{-1, 0}, 0.5, mostAlone-0.5), shareOf([]float32{-1, 7}, 0.5, 0.5), mostAlone - 0.5},
	} {
		apart, ok := impl.StepsApart(c.a, c.b)
		wantTold(t, call{"StepsApart ", c.a, c.b}, apart, ok, c.want)
	}
}

func TestSeedShare(t *testing.T) {
	seeds := seedsOfDraws(40)
	for i, s := range goodShares() {
		for k, seed := range seeds {
			if (i+k)%7 != 0 {
				continue
			}
			d := draws{seed}
			u := d.share()
			want := quantileReference(s, func(sum float32) bool { return sum > u })
			end, x, ok := impl.SeedShare(seed, s)
			wantTold(t, call{"SeedShare ", seed, s}, x, ok, want)
			wantSame(t, "the seed then", end, d.at)
		}
	}
	good := shareOf([]float32{0, 1}, 0.5, 0.5)
	for _, seed := range badSeeds() {
		end, x, ok := impl.SeedShare(seed, good)
		wantFailure(t, fmt.Sprint("SeedShare ", seed), end, x, ok)
	}
}

func TestSeedShareOfKnownWords(t *testing.T) {
	for _, c := range []struct {
		word int64
		s    impl.Share
		want float32
	}{
		{0, shareOf([]float32{3, 4}, 0.5, 0.5), 3}, {1<<31 - 1, shareOf([]float32{3, 4}, 0.5, 0.5), 3}, {1 << 31, shareOf([]float32{3, 4}, 0.5, 0.5), 4}, {mostWord, shareOf([]float32{3, 4}, 0.5, 0.5), 4}, {0, shareOf([]float32{3, 4}, 0, 1), 4}, {0, shareOf([]float32{3, 4}, minusZero, 1), 4}, {0, shareOf([]float32{3, 4}, least, 1), 3}, {256, shareOf([]float32{3, 4}, 0x1p-24, 1), 4},
		// No sum is greater than such a share.
		{mostWord, shareOf([]float32{3, 4}, 0.5, leastAlone-0.5), 4}, {mostWord, shareOf([]float32{3, 4, minusZero + 5}, 0.5, leastAlone-0.5, 0), 5}, {mostWord, shareOf([]float32{3, 4, 5}, 0.5, 0.5, 0), 4}, {mostWord, shareOf([]float32{3, 4}, mostAlone, 0), 3}, {5, shareOf([]float32{minusZero}, 1), minusZero},
	} {
		d := draws{lineOfWord(c.word)}
		end, x, ok := impl.SeedShare(d.at, c.s)
		wantTold(t, call{"SeedShare of the word ", c.word, c.s}, x, ok, c.want)
		wantSame(t, "the seed then", end, d.behind(1).at)
	}
}

func TestSeedShareDrawsByChances(t *testing.T) {
	s := shareOf([]float32{-2, 1, 3, 4}, 0.125, 0.5, 0.25, 0.125)
	mean, _ := impl.MeanOfShare(s)
	wide, _ := impl.MomentOf(s, 2)
	drawn, squares := meanOf(t, "SeedShare", 20000, func(seed impl.Seed) (impl.Seed, float64, bool) {
		end, x, ok := impl.SeedShare(seed, s)
		return end, float64(x), ok
	})
	wantNear(t, "the mean of what is drawn", drawn, float64(mean), 0.05)
	wantNear(t, "the spread of what is drawn", squares-drawn*drawn, float64(wide), 0.1)
}
