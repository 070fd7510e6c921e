package tests

import (
	"fmt"
	"math"
	"slices"
	"testing"

	"loop.example/g01339/impl"
)

func badCounts() []int64 {
	return []int64{-1, 65, 256, wordsEnd, wordsEnd + 1, math.MinInt64, math.MaxInt64}
}

func TestCardsSeed(t *testing.T) {
	for i, s := range append(seedsOfDraws(300), oddSeeds()...) {
		for n := int64(1); n <= 64; n++ {
			if n > 4 && n < 64 && (int64(i)+n)%16 != 0 {
				continue
			}
			d, want := draws{s}, []int64{}
			for i := range n {
				want = append(want, i)
			}
			for i := n; i > 1; i-- {
				k := d.below(i)
				at := want[k]
				want[k], want[i-1] = want[i-1], at
			}
			end, cards, ok := impl.CardsSeed(s, n)
			wantDrawnList(t, fmt.Sprint("CardsSeed ", s, n), d, want, end, cards, ok)
		}
	}
	for _, s := range append(badSeeds(), drawnSeeds(4)...) {
		for _, n := range append(badCounts(), 0) {
			end, cards, ok := impl.CardsSeed(s, n)
			wantFailure(t, fmt.Sprint("CardsSeed ", s, n), end, cards, ok)
		}
	}
	for _, s := range badSeeds() {
		for _, n := range []int64{1, 2, 64} {
			end, cards, ok := impl.CardsSeed(s, n)
			wantFailure(t, fmt.Sprint("CardsSeed ", s, n), end, cards, ok)
		}
	}
}

func TestSamplesOfOneSeed(t *testing.T) {
	s := impl.Seed{Kind: impl.SeedCount, A: 1, B: 2}
	stream := []int64{}
	for i := range int64(30) {
		stream = append(stream, 100+i)
	}
	_, cards, _ := impl.CardsSeed(s, 20)
	wantList(t, "CardsSeed", cards, []int64{11, 14, 17, 5, 15, 16, 7, 1, 12, 2, 10, 19, 3, 0, 18, 13, 9, 6, 4, 8})
	_, sample, _ := impl.SampleSeed(s, 20, 6)
	wantList(t, "SampleSeed", sample, []int64{3, 7, 10, 11, 18, 19})
	_, again, _ := impl.ReturnSeed(s, 20, 6)
	wantList(t, "ReturnSeed", again, []int64{8, 18, 14, 11, 13, 19})
	_, kept, _ := impl.StreamSeed(s, stream, 5)
	wantList(t, "StreamSeed", kept, []int64{123, 114, 115, 122, 104})
}

func sampleReference(d *draws, n, k int64) []int64 {
	in := map[int64]bool{}
	for j := n - k; j < n; j++ {
		if pick := d.below(j + 1); in[pick] {
			in[j] = true
		} else {
			in[pick] = true
		}
	}
	set := []int64{}
	for i := range n {
		if in[i] {
			set = append(set, i)
		}
	}
	return set
}

func TestSampleSeed(t *testing.T) {
	for i, s := range append(seedsOfDraws(300), oddSeeds()...) {
		for n := int64(1); n <= 64; n++ {
			for k := range n + 1 {
				if n > 3 && (int64(i)+n*3+k)%401 != 0 {
					continue
				}
				d := draws{s}
				want := sampleReference(&d, n, k)
				end, set, ok := impl.SampleSeed(s, n, k)
				wantDrawnList(t, fmt.Sprint("SampleSeed ", s, n, k), d, want, end, set, ok)
				wantSame(t, "how many numbers", int64(len(set)), k)
			}
		}
	}
	for n := int64(1); n <= 64; n++ {
		for _, k := range []int64{-1, n + 1, 65, math.MinInt64, math.MaxInt64} {
			end, set, ok := impl.SampleSeed(impl.Seed{Kind: impl.SeedCount}, n, k)
			wantFailure(t, fmt.Sprint("SampleSeed ", n, k), end, set, ok)
		}
	}
	for _, s := range append(badSeeds(), drawnSeeds(4)...) {
		for _, n := range append(badCounts(), 0) {
			for _, k := range append(badCounts(), 0, 1) {
				end, set, ok := impl.SampleSeed(s, n, k)
				wantFailure(t, fmt.Sprint("SampleSeed ", s, n, k), end, set, ok)
			}
		}
	}
	for _, s := range badSeeds() {
		for _, k := range []int64{0, 1, 5} {
			end, set, ok := impl.SampleSeed(s, 5, k)
			wantFailure(t, fmt.Sprint("SampleSeed ", s, 5, k), end, set, ok)
		}
	}
}

func TestReturnSeed(t *testing.T) {
	for i, s := range append(seedsOfDraws(300), oddSeeds()...) {
		for _, n := range []int64{1, 2, 3, 7, 52, 63, 64} {
			for _, k := range []int64{0, 1, 2, 63, 64} {
				if k > 2 && (int64(i)+n+k)%16 != 0 {
					continue
				}
				d, want := draws{s}, []int64{}
				for range k {
					want = append(want, d.below(n))
				}
				end, picks, ok := impl.ReturnSeed(s, n, k)
				wantDrawnList(t, fmt.Sprint("ReturnSeed ", s, n, k), d, want, end, picks, ok)
			}
		}
	}
	for _, s := range append(badSeeds(), drawnSeeds(4)...) {
		for _, bad := range badCounts() {
			end, picks, ok := impl.ReturnSeed(s, bad, 1)
			wantFailure(t, fmt.Sprint("ReturnSeed ", s, bad, 1), end, picks, ok)
			end, picks, ok = impl.ReturnSeed(s, bad, 0)
			wantFailure(t, fmt.Sprint("ReturnSeed ", s, bad, 0), end, picks, ok)
			end, picks, ok = impl.ReturnSeed(s, 1, bad)
			wantFailure(t, fmt.Sprint("ReturnSeed ", s, 1, bad), end, picks, ok)
		}
		end, picks, ok := impl.ReturnSeed(s, 0, 0)
		wantFailure(t, fmt.Sprint("ReturnSeed ", s, 0, 0), end, picks, ok)
		end, picks, ok = impl.ReturnSeed(s, 0, 1)
		wantFailure(t, fmt.Sprint("ReturnSeed ", s, 0, 1), end, picks, ok)
	}
	for _, s := range badSeeds() {
		for _, k := range []int64{0, 1} {
			end, picks, ok := impl.ReturnSeed(s, 5, k)
			wantFailure(t, fmt.Sprint("ReturnSeed ", s, 5, k), end, picks, ok)
		}
	}
}

func streamReference(d *draws, list []int64, k int64) []int64 {
	kept := slices.Clone(list[:min(len(list), int(k))])
	for i := int(k); i < len(list); i++ {
		if place := d.below(int64(i + 1)); place < k {
			kept[place] = list[i]
		}
	}
	return kept
}

func TestStreamSeed(t *testing.T) {
	numbers := []int64{math.MinInt64, math.MaxInt64, -1, 0, 0}
	for i := range int64(251) {
		numbers = append(numbers, i*1000003)
	}
	for i, s := range append(seedsOfDraws(300), oddSeeds()...) {
		for _, n := range []int{0, 1, 2, 5, 63, 64, 65, 255, 256} {
			for _, k := range []int64{1, 2, 5, 63, 64} {
				if n > 5 && (i+n+int(k))%16 != 0 {
					continue
				}
				d := draws{s}
				want := streamReference(&d, numbers[:n], k)
				end, kept, ok := impl.StreamSeed(s, numbers[:n], k)
				wantDrawnList(t, fmt.Sprint("StreamSeed ", s, n, k), d, want, end, kept, ok)
			}
		}
	}
	for _, s := range append(badSeeds(), drawnSeeds(4)...) {
		for _, n := range []int{0, 1, 100, 256} {
			for _, k := range append(badCounts(), 0) {
				end, kept, ok := impl.StreamSeed(s, numbers[:n], k)
				wantFailure(t, fmt.Sprint("StreamSeed ", s, n, k), end, kept, ok)
			}
		}
		for _, k := range []int64{1, 64} {
			end, kept, ok := impl.StreamSeed(s, make([]int64, 257), k)
			wantFailure(t, fmt.Sprint("StreamSeed of 257 numbers ", s, k), end, kept, ok)
		}
	}
	for _, s := range badSeeds() {
		for _, n := range []int{0, 1, 100} {
			end, kept, ok := impl.StreamSeed(s, numbers[:n], 5)
			wantFailure(t, fmt.Sprint("StreamSeed ", s, n), end, kept, ok)
		}
	}
}

func TestSamplesWithWordsThatAreTooGreat(t *testing.T) {
	// 4294967295 is a multiple of 3: the greatest word is not taken for a number below it.
	for _, c := range []struct{ second, want int64 }{{0, 0}, {1, 1}, {2, 2}, {mostWord - 1, 2}} {
		s := lineOfWords(mostWord, c.second)
		two, _ := impl.SkipSeed(s, 2)
		end, picks, ok := impl.ReturnSeed(s, 3, 1)
		wantDrawnList(t, fmt.Sprint("ReturnSeed below 3 ", c), draws{two}, []int64{c.want}, end, picks, ok)
		end, set, ok := impl.SampleSeed(s, 3, 1)
		wantDrawnList(t, fmt.Sprint("SampleSeed below 3 ", c), draws{two}, []int64{c.want}, end, set, ok)
		end, kept, ok := impl.StreamSeed(s, []int64{7, 8, 9}, 2)
		want := [][]int64{{9, 8}, {7, 9}, {7, 8}}[c.want]
		wantDrawnList(t, fmt.Sprint("StreamSeed of 3 ", c), draws{two}, want, end, kept, ok)
		end, index, ok := impl.TreeSeed(s, []int64{1, 2, 1})
		wantDrawnCount(t, fmt.Sprint("TreeSeed of 3 weights ", c), draws{two}, c.want, end, index, ok)
	}
}

// TestSamplesAreEven counts how often each order, and each set, comes.
func TestSamplesAreEven(t *testing.T) {
	orders, sets, places := map[string]int{}, map[string]int{}, map[int64]int{}
	s := impl.Seed{Kind: impl.SeedPair, A: 7, B: 9}
	for range 12000 {
		var list []int64
		s, list, _ = impl.CardsSeed(s, 3)
		orders[fmt.Sprint(list)]++
		s, list, _ = impl.SampleSeed(s, 5, 3)
		sets[fmt.Sprint(list)]++
		s, list, _ = impl.StreamSeed(s, []int64{0, 1, 2, 3, 4, 5}, 2)
		for _, number := range list {
			places[number]++
		}
	}
	wantSame(t, "how many orders and sets", [2]int{len(orders), len(sets)}, [2]int{6, 10})
	for order, n := range orders {
		wantNear(t, "how often the order comes: "+order, float64(n), 2000, 160)
	}
	for set, n := range sets {
		wantNear(t, "how often the set comes: "+set, float64(n), 1200, 130)
	}
	for number, n := range places {
		wantNear(t, fmt.Sprint("how often a number is kept: ", number), float64(n), 4000, 210)
	}
}
