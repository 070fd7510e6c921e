package tests

import (
	"fmt"
	"math"
	"slices"
	"testing"

	"loop.example/g01339/impl"
)

func badWalkCounts() []int64 {
	return []int64{-1, 513, 514, 1000, wordsEnd, wordsEnd + 1, -wordsEnd, math.MinInt64, math.MaxInt64}
}

func TestWalkChain(t *testing.T) {
	chains := goodChains()
	past := 0
	for i, s := range append(seedsOfDraws(300), oddSeeds()...) {
		c := chains[i%len(chains)]
		from := int64(i/3) % c.Side
		for _, steps := range []int64{0, 1, 2, 7, 40} {
			d, want := draws{s}, []int64{from}
			for range steps {
				share := d.share()
				if share >= sumOfWeights(c.Steps[want[len(want)-1]*c.Side:][:c.Side]) {
					past++
				}
				want = append(want, goReference(c, want[len(want)-1], share))
			}
			end, walk, ok := impl.WalkChain(s, c, from, steps)
			wantDrawnList(t, fmt.Sprint("WalkChain ", s, c, from, steps), d, want, end, walk, ok)
		}
	}
	wantSame(t, "shares that are at least the sum of a row", past > 10, true)
	for i, c := range chains {
		s := drawnSeeds(4)[i%4]
		for _, steps := range []int64{511, 512} {
			d, want := draws{s}, []int64{c.Side - 1}
			if i%12 > 0 {
				continue
			}
			for k := range steps {
				want = append(want, goReference(c, want[k], d.share()))
			}
			end, walk, ok := impl.WalkChain(s, c, c.Side-1, steps)
			wantDrawnList(t, fmt.Sprint("WalkChain ", s, c, steps), d, want, end, walk, ok)
		}
	}
}

// TestSharesAtTheEndsOfSteps tells where one goes with words at which the state changes.
func TestSharesAtTheEndsOfSteps(t *testing.T) {
	quarter, end := int64(1)<<30, int64(mostWord)
	for _, c := range []struct {
		row  []float32
		word int64
		want int64
	}{
		{[]float32{0.25, 0.5, 0.25}, 0, 0}, {[]float32{0.25, 0.5, 0.25}, quarter - 1, 0}, {[]float32{0.25, 0.5, 0.25}, quarter, 1}, {[]float32{0.25, 0.5, 0.25}, quarter + 255, 1}, {[]float32{0.25, 0.5, 0.25}, 3*quarter - 1, 1}, {[]float32{0.25, 0.5, 0.25}, 3 * quarter, 2}, {[]float32{0.25, 0.5, 0.25}, end, 2},
		// No share is less than a Step of 0, not even at the beginning, and none is greater than a sum of 1.
		{[]float32{0, 1}, 0, 1}, {[]float32{minusZero, 1}, 0, 1}, {[]float32{1, 0}, end, 0}, {[]float32{0, 0, 1, 0}, 0, 2}, {[]float32{0, 0, 1, 0}, end, 2}, {[]float32{0.25, 0, 0.75}, quarter, 2}, {[]float32{0.25, 0, 0.75}, quarter - 1, 0},
		{[]float32{least, 1}, 0, 0}, {[]float32{least, 1}, 256, 1}, {[]float32{1, least}, end, 0},
		// Behind the sum comes the last state to which a Step leads.
		{[]float32{0.5, leastAlone - 0.5}, end, 1}, {[]float32{0.5, leastAlone - 0.5, 0}, end, 1}, {[]float32{leastAlone, 0, 0}, end, 0}, {[]float32{0, leastAlone, 0}, end, 1}, {[]float32{leastAlone, 0, least, 0, minusZero}, end, 2}, {[]float32{leastAlone}, end, 0}, {[]float32{leastAlone, 0, least, 0}, 0, 0},
		{[]float32{leastAlone, 0, least, 0}, int64(float64(leastAlone)*0x1p32) - 1, 0}, {[]float32{leastAlone, 0, least, 0}, int64(float64(leastAlone) * 0x1p32), 2},
		// Of a sum of more than 1, no share leads behind 1.
		{[]float32{1, mostAlone - 1}, end, 0}, {[]float32{1 - 0x1p-24, mostAlone - 1}, end, 1}, {[]float32{1 - 0x1p-24, mostAlone - 1}, end - 256, 0},
		// What is lost in the sum is never reached.
		{[]float32{0.5, 0x1p-26, 0x1p-26, 0.5}, 2 * quarter, 3}, {[]float32{0.5, 0x1p-24, 0x1p-24, 0.5}, 2 * quarter, 1},
	} {
		chain := sameRows(c.row...)
		for from := range chain.Side {
			_, walk, ok := impl.WalkChain(lineOfWord(c.word), chain, from, 1)
			wantList(t, fmt.Sprint("a walk with the word ", c.word, " of ", c.row), walk, []int64{from, c.want})
			wantSame(t, "success", ok, true)
		}
	}
	_, walk, ok := impl.WalkChain(lineOfWords(quarter-1, 3*quarter), chainWith(2, 0.25, 0.75, 0.5, 0.5), 0, 2)
	wantList(t, "the first share goes from the first state", walk, []int64{0, 0, 1})
	wantSame(t, "success", ok, true)
}

func TestWalkChainOfKnownChains(t *testing.T) {
	s := impl.Seed{Kind: impl.SeedCount}
	end, walk, ok := impl.WalkChain(s, turns(3), 1, 4)
	want, _ := impl.SkipSeed(s, 4)
	wantList(t, "a ring", walk, []int64{1, 2, 0, 1, 2})
	wantSame(t, "each step draws a share", end, want)
	end, walk, ok = impl.WalkChain(s, stays(12), 11, 512)
	want, _ = impl.SkipSeed(s, 512)
	wantList(t, "a state that is never left", walk, repeated[int64](11, 513))
	wantSame(t, "each step draws a share", end, want)
	end, walk, ok = impl.WalkChain(s, stays(12), 3, 0)
	wantDrawnList(t, "WalkChain of no step", draws{s}, []int64{3}, end, walk, ok)
	// A walk goes on from where it ended.
	c := drawnChain(new(drawnBits), 7, 0, 1)
	_, whole, _ := impl.WalkChain(s, c, 0, 300)
	middle, first, _ := impl.WalkChain(s, c, 0, 100)
	_, second, _ := impl.WalkChain(middle, c, first[100], 200)
	wantList(t, "a walk in two parts", slices.Concat(first, second[1:]), whole)
}

// TestWalksAreEven counts the steps from each state.
func TestWalksAreEven(t *testing.T) {
	d := drawnBits(162)
	c, s := drawnChain(&d, 4, 0, 1), impl.Seed{Kind: impl.SeedCount, A: 5}
	counts, all := map[[2]int64]float64{}, map[int64]float64{}
	at := int64(0)
	for range 200 {
		end, walk, _ := impl.WalkChain(s, c, at, 512)
		for i, state := range walk[:512] {
			counts[[2]int64{state, walk[i+1]}]++
			all[state]++
		}
		s, at = end, walk[512]
	}
	for i := range c.Side {
		for k := range c.Side {
			wantNear(t, "the part of a step", counts[[2]int64{i, k}]/all[i], float64(stepOf(c, i, k)), 0.02)
		}
	}
}

func TestWalksFail(t *testing.T) {
	good, c := impl.Seed{Kind: impl.SeedCount}, sameRows(0.5, 0.25, 0.25)
	fails := func(s impl.Seed, from, other, steps int64) {
		t.Helper()
		end, walk, ok := impl.WalkChain(s, c, from, steps)
		wantFailure(t, fmt.Sprint("WalkChain ", s, from, steps), end, walk, ok)
		end, times, at, ok := impl.MeetWalks(s, c, from, other, steps)
		wantFailure(t, fmt.Sprint("MeetWalks ", s, from, other, steps), end, times, at, ok)
		end, times, at, ok = impl.MeetWalks(s, c, other, from, steps)
		wantFailure(t, fmt.Sprint("MeetWalks ", s, other, from, steps), end, times, at, ok)
	}
	for _, steps := range []int64{0, 1, 512} {
		for _, state := range outStates(3) {
			fails(good, state, 0, steps)
			fails(good, state, state, steps)
		}
		for _, s := range badSeeds() {
			fails(s, 0, 0, steps)
			fails(s, 1, 2, steps)
		}
	}
	for _, steps := range badWalkCounts() {
		fails(good, 0, 0, steps)
		fails(good, 0, 1, steps)
	}
	for _, s := range badSeeds() {
		end, state, far, ok := impl.PastDraw(s, c, 512)
		wantFailure(t, fmt.Sprint("PastDraw ", s), end, state, far, ok)
	}
	for _, far := range append(badWalkCounts(), 0) {
		end, state, n, ok := impl.PastDraw(good, c, far)
		wantFailure(t, fmt.Sprint("PastDraw ", far), end, state, n, ok)
	}
}

// meetReference walks until both are in one state, or 512 times, where they are not.
func meetReference(s impl.Seed, c impl.Chain, a, b int64) (draws, int64, int64, bool) {
	d := draws{s}
	for times := range int64(513) {
		if a == b {
			return d, times, a, true
		}
		share := d.share()
		a, b = goReference(c, a, share), goReference(c, b, share)
	}
	return d, 0, 0, false
}

func TestMeetWalks(t *testing.T) {
	chains := goodChains()
	kinds := map[string]int{}
	for i, s := range append(seedsOfDraws(500), oddSeeds()...) {
		c := chains[i%len(chains)]
		a, b := int64(i/5)%c.Side, int64(i/7)%c.Side
		d, times, at, ok := meetReference(s, c, a, b)
		for _, most := range []int64{0, 1, 10, times - 1, times, times + 1, 511, 512} {
			if most < 0 || most > 512 {
				continue
			}
			end, n, state, met := impl.MeetWalks(s, c, a, b, most)
			what := fmt.Sprint("MeetWalks ", s, c, a, b, most)
			if !ok || most < times {
				wantFailure(t, what, end, n, state, met)
				continue
			}
			wantDrawnCount(t, what, d, times, end, n, met)
			wantSame(t, "the state in which they meet", state, at)
		}
		switch {
		case !ok:
			kinds["never"]++
		case times == 0:
			kinds["at once"]++
		case times > 20:
			kinds["late"]++
		case times > 1:
			kinds["soon"]++
		}
	}
	wantSame(t, fmt.Sprint("walks that meet: ", kinds), min(kinds["never"], kinds["at once"], kinds["late"], kinds["soon"]) > 5, true)
	s := impl.Seed{Kind: impl.SeedCount}
	end, n, state, ok := impl.MeetWalks(s, stays(12), 11, 11, 0)
	wantDrawnCount(t, "walks that have met", draws{s}, 0, end, n, ok)
	wantSame(t, "they are where they were", state, 11)
	end, n, state, ok = impl.MeetWalks(s, turns(2), 0, 1, 512)
	wantFailure(t, "walks that never meet", end, n, state, ok)
	for _, c := range []struct{ first, second, times, at int64 }{{0, 0, 1, 0}, {1 << 30, 0, 2, 0}, {3 << 30, 1 << 30, 1, 1}, {1 << 31, mostWord, 2, 1}} {
		// Both go to the same state with small and with great shares, and change places with others.
		_, n, state, ok = impl.MeetWalks(lineOfWords(c.first, c.second), chainWith(2, 0.25, 0.75, 0.75, 0.25), 0, 1, 2)
		wantList(t, fmt.Sprint("walks with known shares ", c), []int64{n, state}, []int64{c.times, c.at})
		wantSame(t, "success", ok, true)
	}
}

// pastReference puts each share that is drawn in front of all others, and goes up to 512 steps back.
func pastReference(s impl.Seed, c impl.Chain) (draws, int64, int64, bool) {
	d, list := draws{s}, []float32{}
	for n := int64(1); n <= 512; n *= 2 {
		for int64(len(list)) < n {
			list = slices.Insert(list, 0, d.share())
		}
		ends := map[int64]bool{}
		for state := range c.Side {
			for _, share := range list {
				state = goReference(c, state, share)
			}
			ends[state] = true
		}
		if len(ends) == 1 {
			for state := range ends {
				return d, state, n, true
			}
		}
	}
	return d, 0, 0, false
}

func TestPastDraw(t *testing.T) {
	chains := goodChains()
	kinds := map[int64]int{}
	for i, s := range append(seedsOfDraws(500), oddSeeds()...) {
		c := chains[i%len(chains)]
		d, state, n, ok := pastReference(s, c)
		kinds[n]++
		for _, most := range []int64{1, 2, 3, n - 1, n, n + 1, 2*n - 1, 2 * n, 511, 512} {
			if most < 1 || most > 512 {
				continue
			}
			end, at, far, done := impl.PastDraw(s, c, most)
			what := fmt.Sprint("PastDraw ", s, c, most)
			if !ok || most < n {
				wantFailure(t, what, end, at, far, done)
				continue
			}
			wantDrawnCount(t, what, d, state, end, at, done)
			wantSame(t, "how far it went", far, n)
		}
	}
	wantSame(t, fmt.Sprint("draws from the past: ", kinds), kinds[0] > 10 && kinds[1] > 10 && kinds[2] > 10 && kinds[4] > 10 && kinds[16]+kinds[32] > 5 && kinds[64]+kinds[128]+kinds[256]+kinds[512] > 5, true)
	s := impl.Seed{Kind: impl.SeedCount}
	for _, most := range []int64{1, 2, 512} {
		d := draws{s}
		d.share()
		end, state, n, ok := impl.PastDraw(s, chainWith(1, 1), most)
		wantDrawnCount(t, "PastDraw of one state", d, 0, end, state, ok)
		wantSame(t, "it goes one step", n, 1)
		for _, c := range []impl.Chain{turns(2), stays(2), turns(12)} {
			end, state, n, ok = impl.PastDraw(s, c, most)
			wantFailure(t, fmt.Sprint("PastDraw of states that never meet ", c, most), end, state, n, ok)
		}
	}
	// Great shares go up, small ones down: the first share drawn is the last one of the walk.
	c := chainWith(3, 0.5, 0.5, 0, 0.5, 0, 0.5, 0, 0.5, 0.5)
	_, state, n, ok := impl.PastDraw(lineOfWords(0, 1<<31), c, 1)
	wantFailure(t, "PastDraw one step", impl.Seed{}, state, n, ok)
	_, state, n, ok = impl.PastDraw(lineOfWords(0, 0), c, 2)
	wantList(t, "PastDraw down and down", []int64{state, n}, []int64{0, 2})
	wantSame(t, "success", ok, true)
	_, state, n, ok = impl.PastDraw(lineOfWords(1<<31, 1<<31), c, 2)
	wantList(t, "PastDraw up and up", []int64{state, n}, []int64{2, 2})
	wantSame(t, "success", ok, true)
	// Only a small share leads to a state that is then left with a great one.
	c = chainWith(2, 0, 1, 0.5, 0.5)
	_, state, n, ok = impl.PastDraw(lineOfWords(0, 1<<31), c, 2)
	wantList(t, "PastDraw of a great share, and then a small one", []int64{state, n}, []int64{0, 2})
	wantSame(t, "success", ok, true)
}

// TestPastDrawsAreEven counts the states, which rest as they are drawn.
func TestPastDrawsAreEven(t *testing.T) {
	d := drawnBits(163)
	c := drawnChain(&d, 5, 0, 1)
	rest, _, _ := impl.RestOf(c, 1e-7, 512)
	s, counts := impl.Seed{Kind: impl.SeedPair, A: 9}, make([]float64, 5)
	const times = 20000
	for range times {
		end, state, _, ok := impl.PastDraw(s, c, 512)
		wantSame(t, "success", ok, true)
		s = end
		counts[state]++
	}
	for i, count := range counts {
		wantNear(t, "the part of a state", count/times, float64(rest[i]), 0.02)
	}
}

func TestSwapChance(t *testing.T) {
	energies := append(oddNumbers(), 2, -2, 5, 10, -10, 87.5, 103, -103, 150, -199, 1e3, 1e10, -1e38, 2e38)
	heats := append(oddNumbers(), 0.1, 0.3, 2, 10, 100, 1e-10, 1e-38, 2e-39, 2.9e-39, 1e38)
	for _, a := range energies {
		for _, b := range energies {
			for _, heat := range heats {
				for _, other := range heats {
					got, ok := impl.SwapChance(a, b, heat, other)
					if !(isFinite(a) && isFinite(b) && isFinite(heat) && isFinite(other) && heat > 0 && other > 0) {
						wantFailure(t, "SwapChance", got, ok)
						continue
					}
					x := shortTimes(shortLess(a, b), shortLess(shortOver(1, heat), shortOver(1, other)))
					want := nan
					switch {
					case x > 0:
						want = 1
					case x <= 0:
						want = shortExp(x)
					}
					wantTold(t, call{"SwapChance ", a, b, heat, other}, got, ok, want)
				}
			}
		}
	}
	for _, c := range []struct{ a, b, heat, other, want float32 }{
		{1, 1, 1, 2, 1}, {3, 3, 0.5, 0.5, 1}, {-7, -7, 100, 0.001, 1}, {0, minusZero, 1, 2, 1}, {most, most, 1, 2, 1},
		{1, 2, 1, 1, 1}, {5, 1, 1, 2, 1}, {1, 5, 2, 1, 1}, {1, 5, 1, 2, shortExp(-2)}, {5, 1, 2, 1, shortExp(-2)}, {0, 1, 1, most, shortExp(-1)}, {0, 1, 0.5, 1, shortExp(-1)},
		{most, -most, 1, 2, 1}, {-most, most, 1, 2, 0}, {0, 500, 0.5, 2, 0}, {0, 1, least, 1, 0}, {1, 0, least, 1, 1}, {1, 0, 1, least, 0}, {0, 200, 0.5, 1, expReference(-200)}, {0, 200.00002, 0.5, 1, 0},
		// Infinities bring a not-a-number.
		{1, 1, least, 1, nan}, {1, 2, least, least, nan}, {most, -most, 1, 1, nan}, {0, 0, 1, least, nan},
	} {
		got, ok := impl.SwapChance(c.a, c.b, c.heat, c.other)
		wantTold(t, call{"SwapChance ", c}, got, ok, c.want)
	}
}
