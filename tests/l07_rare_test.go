package tests

import (
	"fmt"
	"math"
	"slices"
	"testing"

	"loop.example/g01339/impl"
)

// rareWalk tells how a walk to a level ended.
type rareWalk struct{ state, steps int64 }

// farReference returns how likely a walk comes to far states, and all walks that it took.
func farReference(d *draws, c impl.Chain, from int64, levels []int64, walks int64) (float32, []rareWalk) {
	starts, p, all := []int64{from}, float32(1), []rareWalk{}
	for _, level := range levels {
		came := []int64{}
		for i := range walks {
			w := rareWalk{state: starts[i%int64(len(starts))]}
			for w.state < level && w.steps < 64 {
				w.state = goReference(c, w.state, d.share())
				w.steps++
				if w.state == 0 {
					break
				}
			}
			if w.state >= level {
				came = append(came, w.state)
			}
			all = append(all, w)
		}
		p = shortOver(shortTimes(p, float32(len(came))), float32(walks))
		if len(came) == 0 {
			return p, all
		}
		starts = came
	}
	return p, all
}

// levelsOf has levels of n states behind a state: all, one, and some.
func levelsOf(d *drawnBits, n, from int64) [][]int64 {
	lists := [][]int64{}
	all, some := []int64{}, []int64{}
	for level := from + 1; level < n; level++ {
		lists = append(lists, []int64{level})
		if len(all) < 8 {
			all = append(all, level)
		}
		if d.next()%2 == 0 && len(some) < 8 {
			some = append(some, level)
		}
	}
	for _, list := range [][]int64{all, some} {
		if len(list) > 0 {
			lists = append(lists, list)
		}
	}
	return lists
}

func TestRareChance(t *testing.T) {
	chains := goodChains()
	d := drawnBits(164)
	kinds := map[string]int{}
	for i, s := range append(seedsOfDraws(500), oddSeeds()...) {
		c := chains[i%len(chains)]
		from := int64(i/5) % c.Side
		if i%2 == 0 {
			from = 0
		}
		walks := []int64{1, 2, 3, 10, 63, 64}[d.next()%6]
		if c.Side > 6 {
			walks = walks%10 + 1 // as these take longer to tell
		}
		for _, levels := range levelsOf(&d, c.Side, from) {
			d := draws{s}
			want, all := farReference(&d, c, from, levels, walks)
			end, got, ok := impl.RareChance(s, c, from, levels, walks)
			wantDrawnNumber(t, fmt.Sprint("RareChance ", s, c, from, levels, walks), d, want, end, got, ok)
			for _, w := range all {
				switch {
				case w.steps == 0:
					kinds["there at once"]++
				case w.steps == 64 && w.state < levels[0]:
					kinds["tired"]++
				case w.state == 0:
					kinds["back"]++
				}
			}
			switch {
			case want == 0:
				kinds["never"]++
			case want < 1:
				kinds["rare"]++
			}
		}
	}
	wantSame(t, fmt.Sprint("walks to levels: ", kinds), len(kinds) == 5 && min(kinds["there at once"], kinds["tired"], kinds["back"], kinds["never"], kinds["rare"]) > 50, true)
}

// TestRareChanceOfLongWalks looks at walks that come to their level in the last step, or not.
func TestRareChanceOfLongWalks(t *testing.T) {
	c := chainWith(3, 0, 1, 0, 0, 1-0x1p-6, 0x1p-6, 0, 0, 1)
	kinds := map[string]int{}
	for _, s := range drawnSeeds(4000) {
		d := draws{s}
		want, all := farReference(&d, c, 1, []int64{2}, 1)
		end, got, ok := impl.RareChance(s, c, 1, []int64{2}, 1)
		wantDrawnNumber(t, fmt.Sprint("RareChance ", s), d, want, end, got, ok)
		if all[0].steps == 64 {
			kinds[fmt.Sprint("last step ", all[0].state)]++
		} else if all[0].steps == 63 {
			kinds["step before"]++
		}
	}
	wantSame(t, fmt.Sprint("long walks: ", kinds), kinds["last step 1"] > 100 && kinds["last step 2"] > 5 && kinds["step before"] > 5, true)
}

func TestRareChanceOfKnownChains(t *testing.T) {
	s := impl.Seed{Kind: impl.SeedCount}
	for _, c := range []struct {
		chain  impl.Chain
		from   int64
		levels []int64
		walks  int64
		want   float32
		drawn  int64
	}{
		{turns(12), 0, []int64{1}, 64, 1, 64}, {turns(12), 0, []int64{11}, 64, 1, 11 * 64}, {turns(12), 0, []int64{1, 2, 3, 4, 5, 6, 7, 8}, 3, 1, 24}, {turns(12), 3, []int64{4, 5, 6, 7, 8, 9, 10, 11}, 1, 1, 8}, {turns(12), 10, []int64{11}, 1, 1, 1},
		// A state is left only to another one that is at both levels.
		{chainWith(3, 0, 0, 1, 0, 1, 0, 0, 0, 1), 0, []int64{1, 2}, 5, 1, 5},
		// One that is never left, and one that is left to 0.
		{stays(3), 1, []int64{2}, 3, 0, 3 * 64}, {stays(3), 0, []int64{1}, 3, 0, 3}, {stays(3), 0, []int64{1, 2}, 3, 0, 3}, {chainWith(3, 0, 1, 0, 1, 0, 0, 0, 0, 1), 0, []int64{1, 2}, 4, 0, 8}, {chainWith(3, 0, 1, 0, 1, 0, 0, 0, 0, 1), 0, []int64{2}, 4, 0, 8}, {chainWith(3, 0, 1, 0, 1, 0, 0, 0, 0, 1), 1, []int64{2}, 64, 0, 64},
		{turns(2), 0, []int64{1}, 1, 1, 1},
	} {
		end, got, ok := impl.RareChance(s, c.chain, c.from, c.levels, c.walks)
		want, _ := impl.SkipSeed(s, c.drawn)
		wantTold(t, call{"RareChance ", c}, got, ok, c.want)
		wantSame(t, fmt.Sprint("the seed after RareChance ", c), end, want)
	}
	// The first walk goes up, the second one back: then, both begin where the first one came.
	c := chainWith(4, 0.5, 0, 0.5, 0, 1, 0, 0, 0, 0.5, 0, 0, 0.5, 0, 0, 0, 1)
	_, got, ok := impl.RareChance(lineOfWords(1<<31, 0), c, 0, []int64{1}, 2)
	wantTold(t, call{"RareChance up and back"}, got, ok, 0.5)
}

// TestRareChancesAreEven looks at a line, on which a walk comes to the end before it comes to 0 one time in four.
func TestRareChancesAreEven(t *testing.T) {
	for _, levels := range [][]int64{{4}, {2, 4}, {2, 3, 4}} {
		sum := 0.0
		s := impl.Seed{Kind: impl.SeedShift, A: 3}
		for range 1000 {
			end, p, _ := impl.RareChance(s, fair(5), 1, levels, 64)
			s, sum = end, sum+float64(p)
		}
		wantNear(t, fmt.Sprint("the mean of chances to come to ", levels), sum/1000, 0.25, 0.01)
	}
}

func TestRareShared(t *testing.T) {
	chains := goodChains()
	d := drawnBits(165)
	for i, s := range append(drawnSeeds(300), oddSeeds()...) {
		c := chains[(i*7)%len(chains)]
		if c.Side < 2 {
			continue
		}
		lists := levelsOf(&d, c.Side, 0)
		levels, walks := lists[i%len(lists)], int64(i%5+1)
		for _, streams := range []int64{0, 1, int64(i % 17), 16} {
			want := []float32{}
			for stream := range streams {
				d := draws{splitReference(s, uint64(stream))}
				p, _ := farReference(&d, c, 0, levels, walks)
				want = append(want, p)
			}
			for _, workers := range []int64{1, int64(i%8 + 1), 8} {
				got, ok := impl.RareShared(s, c, 0, levels, walks, streams, workers)
				wantNumbers(t, fmt.Sprint("RareShared ", s, c, levels, walks, streams, workers), got, want)
				wantSame(t, "success", ok, true)
			}
		}
	}
	s := impl.Seed{Kind: impl.SeedPair, B: 1}
	want, _ := impl.RareShared(s, fair(12), 2, []int64{3, 5, 11}, 64, 16, 1)
	for workers := int64(1); workers <= 8; workers++ {
		got, ok := impl.RareShared(s, fair(12), 2, []int64{3, 5, 11}, 64, 16, workers)
		wantNumbers(t, fmt.Sprint("RareShared with workers ", workers), got, want)
		wantSame(t, "success", ok, true)
	}
	for stream, got := range want {
		split, _ := impl.SplitSeed(s, int64(stream))
		_, p, _ := impl.RareChance(split, fair(12), 2, []int64{3, 5, 11}, 64)
		wantNumber(t, "the chance of a stream", got, p)
	}
}

func TestRareSharedLeavesNoWorkers(t *testing.T) {
	wantNoWorkers(t, func(streams int64) {
		impl.RareShared(impl.Seed{Kind: impl.SeedCount}, turns(3), 0, []int64{1, 2}, 2, streams, 8)
	})
}

func TestRareChancesFail(t *testing.T) {
	good, c := impl.Seed{Kind: impl.SeedCount}, turns(12)
	fails := func(s impl.Seed, from int64, levels []int64, walks int64) {
		t.Helper()
		end, p, ok := impl.RareChance(s, c, from, levels, walks)
		wantFailure(t, fmt.Sprint("RareChance ", s, from, levels, walks), end, p, ok)
		for _, streams := range []int64{0, 1, 16} {
			list, ok := impl.RareShared(s, c, from, levels, walks, streams, 2)
			wantFailure(t, fmt.Sprint("RareShared ", s, from, levels, walks, streams), list, ok)
		}
	}
	for _, s := range badSeeds() {
		fails(s, 0, []int64{1}, 1)
	}
	for _, from := range outStates(12) {
		fails(good, from, []int64{1}, 1)
		fails(good, from, []int64{13, 14}, 1)
		fails(good, from, []int64{11}, 1)
	}
	for _, walks := range []int64{0, -1, 65, 66, 512, wordsEnd, wordsEnd + 1, math.MinInt64, math.MaxInt64} {
		fails(good, 0, []int64{1}, walks)
	}
	for _, levels := range [][]int64{
		nil, {}, {0}, {-1}, {12}, {13}, {math.MaxInt64}, {math.MinInt64}, {wordsEnd + 1}, {1, 1}, {2, 1}, {1, 3, 2}, {1, 2, 2}, {1, 0}, {1, -1}, {1, 12}, {1, 2, 3, 12}, {0, 1}, {-1, 1}, {11, 12}, {1, math.MaxInt64}, {1, math.MinInt64},
		{1, 2, 3, 4, 5, 6, 7, 8, 9}, {3, 4, 5, 6, 7, 8, 9, 10, 11}, {1, 2, 3, 4, 5, 6, 7, 7}, {1, 2, 3, 4, 5, 6, 7, 12}, ascending(12), repeated[int64](1, 64),
	} {
		fails(good, 0, levels, 1)
		fails(good, 0, levels, 64)
	}
	for from := range int64(12) {
		fails(good, from, []int64{from}, 1)
		fails(good, from, []int64{from - 1}, 1)
		fails(good, from, slices.Concat([]int64{from}, []int64{11}), 1)
	}
	fails(good, 11, []int64{12}, 1)
	for _, streams := range []int64{-1, 17, 18, 256, wordsEnd, wordsEnd + 1, math.MinInt64, math.MaxInt64} {
		list, ok := impl.RareShared(good, c, 0, []int64{1}, 1, streams, 1)
		wantFailure(t, fmt.Sprint("RareShared streams ", streams), list, ok)
	}
	for _, workers := range []int64{0, -1, 9, 10, 16, wordsEnd, wordsEnd + 1, math.MinInt64, math.MaxInt64} {
		for _, streams := range []int64{0, 1, 16} {
			list, ok := impl.RareShared(good, c, 0, []int64{1}, 1, streams, workers)
			wantFailure(t, fmt.Sprint("RareShared workers ", workers), list, ok)
		}
	}
}
