package tests

import (
	"fmt"
	"math"
	"testing"

	"loop.example/g01339/impl"
)

// gammaTries counts the tries that bring nothing, before a share is drawn and behind it.
type gammaTries struct {
	before, behind int
}

func gammaReference(d *draws, shape float32) (float32, gammaTries) {
	if shape < 1 {
		x, tries := gammaReference(d, shortPlus(shape, 1))
		return shortTimes(x, shortExp(shortOver(logRest(d.share()), shape))), tries
	}
	offset := shortLess(shape, 0.33333334)
	c := shortOver(1, shortRoot(shortTimes(9, offset)))
	var tries gammaTries
	for {
		x := real(bellReference(d))
		t := shortPlus(1, shortTimes(c, x))
		if !(t > 0) {
			tries.before++
			continue
		}
		w := shortTimes(shortTimes(t, t), t)
		limit := shortTimes(shortTimes(0.5, x), x)
		limit = shortPlus(limit, offset)
		limit = shortLess(limit, shortTimes(offset, w))
		limit = shortPlus(limit, shortTimes(offset, shortLog(w)))
		if logRest(d.share()) < limit {
			return shortTimes(offset, w), tries
		}
		tries.behind++
	}
}

func shapes() []float32 {
	return []float32{1, afterOne, 1.5, 2, 3, 10, 100, 999, 1000, 1 - 0x1p-24, 0.5, 0.33333334, 0.33333331, 0.1, 0.01, 0x1p-24, 1e-10, 1e-37, leastNormal, least}
}

func TestGammaSeed(t *testing.T) {
	var all gammaTries
	for i, s := range seedsOfDraws(600) {
		for k, shape := range shapes() {
			if (i+k)%4 != 0 {
				continue
			}
			d := draws{s}
			want, tries := gammaReference(&d, shape)
			all.before += tries.before
			all.behind += tries.behind
			end, x, ok := impl.GammaSeed(s, shape)
			wantDrawnNumber(t, fmt.Sprint("GammaSeed ", s, shape), d, want, end, x, ok)
		}
	}
	wantSame(t, fmt.Sprint("both kinds of tries that bring nothing: ", all), all.before > 3 && all.behind > 50, true)
}

func TestGammaSeedWithManyTries(t *testing.T) {
	// These seeds were found by trial.
	for _, c := range []struct {
		a     uint64
		shape float32
		tries gammaTries
	}{
		{95, 1, gammaTries{1, 0}}, {5481261, 1, gammaTries{2, 3}}, {11877053, 1.5, gammaTries{2, 1}}, {11877053, 0.5, gammaTries{2, 1}}, {929807, 3, gammaTries{0, 3}},
	} {
		s := impl.Seed{Kind: impl.SeedCount, A: c.a}
		d := draws{s}
		want, tries := gammaReference(&d, c.shape)
		wantSame(t, fmt.Sprint("the tries of ", c), tries, c.tries)
		// A try has two words for its bells, and one for its share, if it comes to it.
		words := int64(2*tries.before + 3*tries.behind + 3)
		if c.shape < 1 {
			words++
		}
		skipped, _ := impl.SkipSeed(s, words)
		wantSame(t, fmt.Sprint("the words of ", c), d.at, skipped)
		end, x, ok := impl.GammaSeed(s, c.shape)
		wantDrawnNumber(t, fmt.Sprint("GammaSeed ", c), d, want, end, x, ok)
	}
}

func TestGammaSeedAtItsEdges(t *testing.T) {
	// With these seeds, found by trial, the first try is taken, or not, only if
	// each operation is rounded on its own, and all are in the told order.
	for _, c := range []struct {
		a     uint64
		shape float32
		taken bool
	}{
		{11328275, 1, false}, {18343047, 1, true}, {30049660, 1, false}, {60943481, 1, true}, {63846931, 1, false}, {60682034, 1, false}, {113563580, 1, false},
		{12233770, 1.5, false}, {117088995, 1.5, true}, {30431287, 1.5, true}, {109880421, 1.5, true}, {62977477, 1.5, false}, {77642207, 1.5, false}, {62977477, 0.5, false},
		{24966564, 4, false}, {39858884, 4, true}, {22078253, 4, false}, {27175665, 4, false}, {11346142, 4, false}, {40596530, 4, true},
		// The logarithm and what it is held against are both 0.
		{8670753706926605127, 1, false}, {17655752373273356630, 2.5, false}, {4152040197615055038, 2.5, false},
	} {
		s := impl.Seed{Kind: impl.SeedCount, A: c.a}
		d := draws{s}
		want, tries := gammaReference(&d, c.shape)
		wantSame(t, fmt.Sprint("the first try is taken: ", c), tries == gammaTries{}, c.taken)
		end, x, ok := impl.GammaSeed(s, c.shape)
		wantDrawnNumber(t, fmt.Sprint("GammaSeed ", c), d, want, end, x, ok)
	}
}

func TestGammaSeedWhoseFirstTryComesToZero(t *testing.T) {
	// The first bell times c is just -1, so that no share is drawn for it.
	for _, c := range []struct {
		share int64
		shape float32
	}{{16146707, 1.0625}, {16189517, 1.078125}, {16301283, 1.125}, {16363718, 1.15625}} {
		s := lineOfWords(c.share*256, 1<<31)
		d := draws{s}
		want, tries := gammaReference(&d, c.shape)
		wantSame(t, fmt.Sprint("the tries of ", c), tries.before >= 1, true)
		end, x, ok := impl.GammaSeed(s, c.shape)
		wantDrawnNumber(t, fmt.Sprint("GammaSeed ", c), d, want, end, x, ok)
	}
}

func TestGammaSeedOfSmallShapes(t *testing.T) {
	s := impl.Seed{Kind: impl.SeedCount, A: 1}
	// 1 and so small a shape are 1, and the share behind leaves nothing of it.
	end, one, _ := impl.GammaSeed(s, 1)
	end, _, _ = impl.ShareSeed(end)
	for _, shape := range []float32{least, leastNormal, 1e-30, 1e-10} {
		got, x, ok := impl.GammaSeed(s, shape)
		wantDrawnNumber(t, fmt.Sprint("GammaSeed of a small shape ", shape), draws{end}, 0, got, x, ok)
	}
	wantSame(t, "GammaSeed of 1 is greater than 0", one > 0, true)
	// The share behind all others is 0 in the end: e to the power of it is 1.
	for _, c := range zeroBehind() {
		end, one, _ := impl.GammaSeed(c, 1)
		next, share, _ := impl.ShareSeed(end)
		wantNumber(t, "the share behind", share, 0)
		got, x, ok := impl.GammaSeed(c, least)
		wantDrawnNumber(t, fmt.Sprint("GammaSeed with a share of 0 behind ", c), draws{next}, one, got, x, ok)
	}
}

// zeroBehind has seeds of which GammaSeed of 1 takes the first try, with three words, and a share of 0 comes next.
func zeroBehind() []impl.Seed {
	var list []impl.Seed
	for a := uint64(0); len(list) < 3; a++ {
		// B is such that the fourth word is MixWord of 0, which is 0.
		s := impl.Seed{Kind: impl.SeedCount, A: a, B: -a - 4*11400714819323198485%(1<<64)}
		end, _, _ := impl.GammaSeed(s, 1)
		if three, _ := impl.SkipSeed(s, 3); end == three {
			list = append(list, s)
		}
	}
	return list
}

func TestGammaSeedFails(t *testing.T) {
	good := impl.Seed{Kind: impl.SeedCount}
	for _, shape := range append(oddFloats(), 0, minusZero, -least, -0.5, -1, fromBits(0x447a0001), 1001, most, -most) {
		end, x, ok := impl.GammaSeed(good, shape)
		wantFailure(t, fmt.Sprint("GammaSeed ", shape), end, x, ok)
		end, x, ok = impl.BetaSeed(good, shape, 1)
		wantFailure(t, fmt.Sprint("BetaSeed ", shape, 1), end, x, ok)
		end, x, ok = impl.BetaSeed(good, 1, shape)
		wantFailure(t, fmt.Sprint("BetaSeed ", 1, shape), end, x, ok)
		end, x, ok = impl.BetaSeed(good, shape, shape)
		wantFailure(t, fmt.Sprint("BetaSeed ", shape, shape), end, x, ok)
	}
	for _, s := range badSeeds() {
		for _, shape := range []float32{0.5, 1, 2} {
			end, x, ok := impl.GammaSeed(s, shape)
			wantFailure(t, fmt.Sprint("GammaSeed ", s, shape), end, x, ok)
			end, x, ok = impl.BetaSeed(s, shape, 1)
			wantFailure(t, fmt.Sprint("BetaSeed ", s, shape), end, x, ok)
		}
	}
}

func TestBetaSeed(t *testing.T) {
	failed := 0
	for i, s := range seedsOfDraws(300) {
		for k, a := range shapes() {
			for n, b := range shapes() {
				if (i+k+n)%16 != 0 {
					continue
				}
				d := draws{s}
				x, _ := gammaReference(&d, a)
				y, _ := gammaReference(&d, b)
				end, share, ok := impl.BetaSeed(s, a, b)
				what := fmt.Sprint("BetaSeed ", s, a, b)
				if x == 0 && y == 0 {
					failed++
					wantFailure(t, what, end, share, ok)
					continue
				}
				wantDrawnNumber(t, what, d, shortOver(x, shortPlus(x, y)), end, share, ok)
				wantSame(t, "it is a share: "+what, share >= 0 && share <= 1, true)
			}
		}
	}
	wantSame(t, "some quotients of 0 and 0", failed > 10, true)
}

func TestBetaSeedOfSmallShapes(t *testing.T) {
	s := impl.Seed{Kind: impl.SeedCount, A: 1}
	for _, c := range []struct {
		a, b, want float32
		ok         bool
	}{
		{least, 1, 0, true}, {1, least, 1, true}, {least, least, 0, false}, {1e-20, 1e-10, 0, false}, {1e-10, 1000, 0, true},
	} {
		end, share, ok := impl.BetaSeed(s, c.a, c.b)
		wantNumber(t, fmt.Sprint("BetaSeed ", c.a, c.b), share, c.want)
		wantSame(t, fmt.Sprint("BetaSeed succeeds for ", c.a, c.b), ok, c.ok)
		wantSame(t, fmt.Sprint("BetaSeed fails with a seed of zeros: ", c.a, c.b), end == impl.Seed{}, !c.ok)
	}
}

func TestGammasAndBetasHaveTheirMeans(t *testing.T) {
	for _, shape := range []float32{0.1, 0.5, 0.9, 1, 1.5, 4, 30, 1000} {
		wide := float64(shape)
		mean, squares := meanOf(t, "GammaSeed", 10000, func(s impl.Seed) (impl.Seed, float64, bool) {
			end, x, ok := impl.GammaSeed(s, shape)
			return end, float64(x), ok
		})
		wantNear(t, fmt.Sprint("the mean of GammaSeed ", shape), mean, wide, 0.04*math.Sqrt(wide))
		wantNear(t, fmt.Sprint("the spread of GammaSeed ", shape), squares-mean*mean, wide, 0.1*wide)
	}
	for _, c := range [][2]float32{{1, 1}, {2, 6}, {0.5, 0.5}, {100, 1}} {
		a, b := float64(c[0]), float64(c[1])
		mean, squares := meanOf(t, "BetaSeed", 10000, func(s impl.Seed) (impl.Seed, float64, bool) {
			end, x, ok := impl.BetaSeed(s, c[0], c[1])
			return end, float64(x), ok
		})
		wantNear(t, fmt.Sprint("the mean of BetaSeed ", c), mean, a/(a+b), 0.01)
		wantNear(t, fmt.Sprint("the spread of BetaSeed ", c), squares-mean*mean, a*b/((a+b)*(a+b)*(a+b+1)), 0.005)
	}
}
