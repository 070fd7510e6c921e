package tests

import (
	"fmt"
	"math"
	"runtime"
	"testing"
	"time"

	"loop.example/g01339/impl"
)

func TestSplitSeed(t *testing.T) {
	for _, s := range append(oddSeeds(), drawnSeeds(40)...) {
		for _, stream := range []int64{0, 1, 2, 15, 4096, 999999, 1000000} {
			split, ok := impl.SplitSeed(s, stream)
			wantSame(t, fmt.Sprint("SplitSeed succeeds for ", s, stream), ok, true)
			wantSame(t, fmt.Sprint("SplitSeed ", s, stream), split, splitReference(s, uint64(stream)))
			wantSame(t, fmt.Sprint("ValidSeed of SplitSeed ", s, stream), impl.ValidSeed(split), true)
		}
		for _, stream := range []int64{-1, 1000001, wordsEnd, math.MinInt64, math.MaxInt64} {
			split, ok := impl.SplitSeed(s, stream)
			wantFailure(t, fmt.Sprint("SplitSeed ", s, stream), split, ok)
		}
	}
	for _, s := range badSeeds() {
		split, ok := impl.SplitSeed(s, 0)
		wantFailure(t, fmt.Sprint("SplitSeed ", s), split, ok)
	}
}

func TestSplitSeedWhoseSumIsZero(t *testing.T) {
	// MixWord of 0 is 0, so that the sum is 0 where A and B + stream + 1 are.
	for _, c := range []struct {
		kind   int64
		b      uint64
		stream int64
	}{
		{impl.SeedLine, mostWide, 0}, {impl.SeedLine, mostWide - 2, 2}, {impl.SeedLine, mostWide - 999998, 999998},
		{impl.SeedCount, mostWide, 0}, {impl.SeedCount, mostWide - 1, 1}, {impl.SeedCount, mostWide - 1000000, 1000000},
		{impl.SeedPair, mostWide, 0}, {impl.SeedPair, mostWide - 7, 7},
	} {
		want := impl.Seed{Kind: c.kind, A: 1, B: mixReference(1)}
		if c.kind == impl.SeedLine {
			want.B |= 1
		}
		split, ok := impl.SplitSeed(impl.Seed{Kind: c.kind, B: c.b}, c.stream)
		wantSame(t, fmt.Sprint("SplitSeed ", c), split, want)
		wantSame(t, fmt.Sprint("SplitSeed succeeds for ", c), ok, true)
	}
}

func TestSplitSeedMakesLinesOdd(t *testing.T) {
	changed, kept := 0, 0
	for stream := range int64(100) {
		line, _ := impl.SplitSeed(impl.Seed{Kind: impl.SeedLine, A: 5, B: 7}, stream)
		count, _ := impl.SplitSeed(impl.Seed{Kind: impl.SeedCount, A: 5, B: 7}, stream)
		wantSame(t, "A of two kinds", line.A, count.A)
		switch line.B - count.B {
		case 0:
			kept++
		case 1:
			changed++
		default:
			t.Errorf("B of two kinds: %v and %v", line.B, count.B)
		}
		wantSame(t, "B of a line is odd", line.B%2, 1)
	}
	wantSame(t, "some lines are made odd, and some are", changed > 0 && kept > 0, true)
}

func wantStreams(t *testing.T, s impl.Seed, streams, count int64, lists [][]int64, ok bool) {
	t.Helper()
	wantSame(t, "streams succeed", ok, true)
	wantSame(t, "how many streams", int64(len(lists)), streams)
	for i, list := range lists {
		split, _ := impl.SplitSeed(s, int64(i))
		_, words, _ := impl.WordsOf(split, count)
		wantList(t, fmt.Sprint("stream ", i, " of ", s), list, words)
	}
}

func TestStreamWords(t *testing.T) {
	for _, s := range append(drawnSeeds(8), oddSeeds()[:4]...) {
		for streams := range int64(17) {
			for _, count := range []int64{0, 1, 17, 256} {
				lists, ok := impl.StreamWords(s, streams, count)
				wantStreams(t, s, streams, count, lists, ok)
			}
		}
	}
}

func TestStreamsSharedAreThoseOfOneWorker(t *testing.T) {
	for _, s := range append(drawnSeeds(8), oddSeeds()[:4]...) {
		for workers := int64(1); workers <= 8; workers++ {
			for _, streams := range []int64{0, 1, 2, 3, 7, 8, 9, 16} {
				for _, count := range []int64{0, 1, 256} {
					lists, ok := impl.StreamsShared(s, streams, count, workers)
					wantStreams(t, s, streams, count, lists, ok)
				}
			}
		}
	}
	for range 300 {
		s := impl.Seed{Kind: impl.SeedPair, A: 1}
		lists, ok := impl.StreamsShared(s, 16, 3, 8)
		wantStreams(t, s, 16, 3, lists, ok)
	}
}

// wantNoWorkers calls a function with workers often, and waits until none is left.
func wantNoWorkers(t *testing.T, call func(streams int64)) {
	t.Helper()
	before := runtime.NumGoroutine()
	for range 200 {
		for _, streams := range []int64{0, 1, 16} {
			call(streams)
		}
	}
	// A worker that has been waited for may still be on its way out.
	for i := 0; i < 1000 && runtime.NumGoroutine() > before; i++ {
		time.Sleep(time.Millisecond)
	}
	wantSame(t, "no more goroutines than before", runtime.NumGoroutine() <= before, true)
}

func TestStreamsSharedLeaveNoWorkers(t *testing.T) {
	wantNoWorkers(t, func(streams int64) {
		impl.StreamsShared(impl.Seed{Kind: impl.SeedCount}, streams, 256, 8)
	})
}

func TestStreamsFail(t *testing.T) {
	good := impl.Seed{Kind: impl.SeedCount}
	fails := func(s impl.Seed, streams, count int64) {
		t.Helper()
		lists, ok := impl.StreamWords(s, streams, count)
		wantFailure(t, fmt.Sprint("StreamWords ", s, streams, count), lists, ok)
		lists, ok = impl.StreamsShared(s, streams, count, 1)
		wantFailure(t, fmt.Sprint("StreamsShared ", s, streams, count), lists, ok)
	}
	for _, n := range []int64{-1, 17, 257, wordsEnd, math.MinInt64, math.MaxInt64} {
		fails(good, n, 1)
	}
	for _, n := range []int64{-1, 257, wordsEnd, math.MinInt64, math.MaxInt64} {
		fails(good, 1, n)
		fails(good, 0, n) // there is no stream that could fail
	}
	for _, s := range badSeeds() {
		fails(s, 2, 2)
		fails(s, 0, 0)
	}
	for _, workers := range []int64{-1, 0, 9, wordsEnd + 1, math.MinInt64, math.MaxInt64} {
		for _, streams := range []int64{0, 1, 16} {
			lists, ok := impl.StreamsShared(good, streams, 2, workers)
			wantFailure(t, fmt.Sprint("StreamsShared by ", workers), lists, ok)
		}
	}
}

// wantOwnMemory changes lists of at least 3 numbers, which must change no other list.
func wantOwnMemory[T comparable](t *testing.T, call func() [][]T, other T) {
	t.Helper()
	lists, want := call(), call()
	for i := range lists {
		_ = append(lists[i], other, other, other, other)
		lists[i][0], lists[i][2] = other, other
		for k := i + 1; k < len(lists); k++ {
			wantList(t, "a list behind a change of another one", lists[k], want[k])
		}
	}
	for i, list := range call() {
		wantList(t, "a list behind a change of a former result", list, want[i])
	}
}

func TestStreamsShareNoMemory(t *testing.T) {
	s := impl.Seed{Kind: impl.SeedLine, B: 1}
	wantOwnMemory(t, func() [][]int64 {
		lists, _ := impl.StreamWords(s, 16, 3)
		return lists
	}, -5)
	for _, workers := range []int64{1, 5} {
		wantOwnMemory(t, func() [][]int64 {
			lists, _ := impl.StreamsShared(s, 16, 3, workers)
			return lists
		}, -5)
	}
}

func TestCombineSeeds(t *testing.T) {
	seeds := append(drawnSeeds(12), oddSeeds()[:6]...)
	for _, a := range seeds {
		for _, b := range seeds {
			for _, count := range []int64{0, 1, 256} {
				_, first, _ := impl.WordsOf(a, count)
				_, second, _ := impl.WordsOf(b, count)
				for i := range first {
					first[i] = int64(uint32(first[i]) + uint32(second[i]))
				}
				words, ok := impl.CombineSeeds(a, b, count)
				wantList(t, fmt.Sprint("CombineSeeds ", a, b), words, first)
				wantSame(t, "CombineSeeds succeeds", ok, true)
			}
		}
	}
	for _, c := range [][3]int64{{mostWord, mostWord, mostWord - 1}, {mostWord, 1, 0}, {mostWord, 0, mostWord}, {1 << 31, 1 << 31, 0}, {1<<31 - 1, 1 << 31, mostWord}} {
		words, _ := impl.CombineSeeds(lineOfWord(c[0]), lineOfWord(c[1]), 1)
		wantList(t, fmt.Sprint("the sum of words ", c), words, c[2:])
	}
}

func TestCombineSeedsFails(t *testing.T) {
	good := impl.Seed{Kind: impl.SeedCount}
	for _, s := range badSeeds() {
		for _, count := range []int64{0, 2} {
			words, ok := impl.CombineSeeds(s, good, count)
			wantFailure(t, fmt.Sprint("CombineSeeds ", s), words, ok)
			words, ok = impl.CombineSeeds(good, s, count)
			wantFailure(t, fmt.Sprint("CombineSeeds ", s), words, ok)
		}
	}
	for _, count := range []int64{-1, 257, wordsEnd, math.MinInt64, math.MaxInt64} {
		words, ok := impl.CombineSeeds(good, good, count)
		wantFailure(t, fmt.Sprint("CombineSeeds ", count), words, ok)
	}
}
