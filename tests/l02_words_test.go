package tests

import (
	"fmt"
	"maps"
	"math"
	"slices"
	"strconv"
	"strings"
	"testing"

	"loop.example/g01339/impl"
)

// drawnWords gives lists of words of many lengths, whose digits are alike in some of them.
func drawnWords(count int) [][]int64 {
	d := drawnBits(3)
	var lists [][]int64
	for i := range count {
		step := []int64{1, 1 << 16, 429496730, 1 << 30}[i%4]
		list := make([]int64, 1+d.next()%256)
		for k := range list {
			list[k] = int64(d.next()) / step * step
		}
		lists = append(lists, list)
	}
	return append(lists, []int64{0}, []int64{mostWord}, repeated[int64](0, 256), repeated[int64](mostWord, 256))
}

// badWords has lists that are no words.
func badWords() [][]int64 {
	lists := [][]int64{nil, {}, repeated[int64](1, 257), append(repeated[int64](1, 255), wordsEnd)}
	for _, odd := range []int64{-1, wordsEnd, -wordsEnd, math.MaxInt64, math.MinInt64} {
		lists = append(lists, []int64{odd}, []int64{odd, 1, 2, 3, 4}, []int64{1, 2, 3, 4, odd})
	}
	return lists
}

func TestAreWords(t *testing.T) {
	for _, list := range drawnWords(100) {
		wantSame(t, fmt.Sprint("AreWords ", list), impl.AreWords(list), true)
	}
	for _, list := range badWords() {
		wantSame(t, fmt.Sprint("AreWords ", list), impl.AreWords(list), false)
	}
	for _, n := range []int{1, 255, 256} {
		wantSame(t, fmt.Sprint("AreWords of so many: ", n), impl.AreWords(repeated[int64](mostWord, n)), true)
	}
}

func TestWordsAreRequired(t *testing.T) {
	for _, list := range badWords() {
		what := fmt.Sprint(" of ", list)
		bits, ok := impl.BitsOfWords(list, 0)
		wantFailure(t, "BitsOfWords"+what, bits, ok)
		bits, ok = impl.BitsOfWords(list, 1)
		wantFailure(t, "BitsOfWords"+what, bits, ok)
		counts, ok := impl.GapsIn(list, 5)
		wantFailure(t, "GapsIn"+what, counts, ok)
		counts, ok = impl.HandsIn(list)
		wantFailure(t, "HandsIn"+what, counts, ok)
		counts, ok = impl.PairsIn(list, 2)
		wantFailure(t, "PairsIn"+what, counts, ok)
		rank, ok := impl.RankOfBits(list)
		wantFailure(t, "RankOfBits"+what, rank, ok)
		words, differences, ok := impl.MeetingsIn(list, 1)
		wantFailure(t, "MeetingsIn"+what, words, differences, ok)
	}
}

func TestBitsOfWords(t *testing.T) {
	for _, list := range drawnWords(60) {
		text := ""
		for _, word := range list {
			digits := strconv.FormatInt(word, 2)
			text += strings.Repeat("0", 32-len(digits)) + digits
		}
		for _, count := range []int{0, 1, 31, 32, len(text) / 2, len(text) - 1, len(text)} {
			bits, ok := impl.BitsOfWords(list, int64(count))
			wantSame(t, "BitsOfWords succeeds", ok, true)
			wantSame(t, "BitsOfWords, how many", len(bits), count)
			for i, bit := range bits {
				wantSame(t, fmt.Sprint("a bit of words: ", i), bit, text[i] == '1')
			}
		}
		for _, count := range []int64{-1, int64(len(text)) + 1, math.MinInt64, math.MaxInt64} {
			bits, ok := impl.BitsOfWords(list, count)
			wantFailure(t, fmt.Sprint("BitsOfWords, so many: ", count), bits, ok)
		}
	}
	bits, _ := impl.BitsOfWords([]int64{1 << 31, 1}, 64)
	wantSame(t, "the first bit is the greatest one", bits[0] && bits[63] && !bits[1] && !bits[32], true)
}

// runsOf has runs of true and of false, in turn, with the given lengths.
func runsOf(lengths ...int) []bool {
	var bits []bool
	for i, length := range lengths {
		bits = append(bits, repeated(i%2 == 0, length)...)
	}
	return bits
}

// tallied returns 16 numbers, all 0 but those at some indices.
func tallied(pairs ...int64) []int64 {
	list := make([]int64, 16)
	for i := 0; i < len(pairs); i += 2 {
		list[pairs[i]] = pairs[i+1]
	}
	return list
}

func TestRunsIn(t *testing.T) {
	for _, c := range []struct {
		lengths []int
		want    []int64
	}{
		{[]int{1}, tallied(0, 1)}, {[]int{0, 1}, tallied(0, 1)}, {[]int{2, 1, 1}, tallied(0, 2, 1, 1)}, {[]int{1, 1, 1, 1}, tallied(0, 4)},
		{[]int{14, 15, 16, 17, 15}, tallied(13, 1, 14, 2, 15, 2)}, {[]int{0, 16}, tallied(15, 1)}, {[]int{100, 1, 3}, tallied(0, 1, 2, 1, 15, 1)},
		{[]int{8192}, tallied(15, 1)}, {[]int{8191, 1}, tallied(0, 1, 15, 1)}, {repeated(1, 8192), tallied(0, 8192)}, {repeated(16, 512), tallied(15, 512)},
	} {
		runs, ok := impl.RunsIn(runsOf(c.lengths...))
		wantList(t, "RunsIn", runs, c.want)
		wantSame(t, "RunsIn succeeds", ok, true)
	}
	for _, bits := range [][]bool{nil, {}, repeated(true, 8193), make([]bool, 100000)} {
		runs, ok := impl.RunsIn(bits)
		wantFailure(t, fmt.Sprint("RunsIn so many bits: ", len(bits)), runs, ok)
	}
}

func TestRunsInDrawnBits(t *testing.T) {
	for _, list := range drawnWords(60) {
		bits, _ := impl.BitsOfWords(list, 32*int64(len(list)))
		var lengths []int
		for i, bit := range bits {
			if i == 0 || bits[i-1] != bit {
				lengths = append(lengths, 0)
			}
			lengths[len(lengths)-1]++
		}
		want := make([]int64, 16)
		for _, length := range lengths {
			want[min(length, 16)-1]++
		}
		runs, _ := impl.RunsIn(bits)
		wantList(t, "RunsIn drawn bits", runs, want)
	}
}

// spaced has small words with as many great ones before each as told, and one at the end.
func spaced(gaps ...int) []int64 {
	var list []int64
	for _, gap := range gaps {
		list = append(append(list, repeated[int64](mostWord, gap)...), 3)
	}
	return append(list, mostWord)
}

func TestGapsIn(t *testing.T) {
	for _, c := range []struct {
		words []int64
		level int64
		want  []int64
	}{
		{[]int64{1, 9, 2, 3}, 5, tallied(0, 1, 1, 1)}, {[]int64{9, 9, 1}, 5, tallied()}, {[]int64{9}, 5, tallied()}, {[]int64{9, 5, 5}, 5, tallied()},
		{[]int64{4, 5, 4}, 5, tallied(1, 1)}, {[]int64{0, 1, 0}, 1, tallied(1, 1)}, {[]int64{0, 0}, 1, tallied(0, 1)}, {[]int64{1, 1}, 1, tallied()},
		{[]int64{mostWord, mostWord}, wordsEnd, tallied(0, 1)}, {[]int64{mostWord, mostWord}, mostWord, tallied()},
		{[]int64{0, mostWord, mostWord - 1}, mostWord, tallied(1, 1)},
		{spaced(20, 0, 13, 14, 15, 16, 14, 40), 4, tallied(0, 1, 13, 1, 14, 2, 15, 3)}, {spaced(15), 4, tallied()},
		{repeated[int64](0, 256), 1, tallied(0, 255)}, {spaced(0, 253), 4, tallied(15, 1)},
	} {
		gaps, ok := impl.GapsIn(c.words, c.level)
		wantList(t, fmt.Sprint("GapsIn ", c.words, c.level), gaps, c.want)
		wantSame(t, "GapsIn succeeds", ok, true)
	}
	for _, level := range []int64{0, -1, wordsEnd + 1, math.MinInt64, math.MaxInt64} {
		gaps, ok := impl.GapsIn([]int64{1, 2}, level)
		wantFailure(t, fmt.Sprint("GapsIn with the level ", level), gaps, ok)
	}
}

func TestHandsIn(t *testing.T) {
	const d = 429496730
	for _, c := range []struct {
		words []int64
		want  []int64
	}{
		{[]int64{0, d, 2 * d, 3 * d, 4 * d}, []int64{1, 0, 0, 0, 0, 0, 0}}, {[]int64{0, d, 2 * d, 0, 4 * d}, []int64{0, 1, 0, 0, 0, 0, 0}},
		{[]int64{0, d, 0, 4 * d, d}, []int64{0, 0, 1, 0, 0, 0, 0}}, {[]int64{9 * d, 0, 9 * d, d, 9 * d}, []int64{0, 0, 0, 1, 0, 0, 0}},
		{[]int64{d, 0, d, 0, d}, []int64{0, 0, 0, 0, 1, 0, 0}}, {[]int64{d, d, d, 0, d}, []int64{0, 0, 0, 0, 0, 1, 0}},
		{[]int64{d, d, d, d, d}, []int64{0, 0, 0, 0, 0, 0, 1}}, {repeated[int64](0, 256), []int64{0, 0, 0, 0, 0, 0, 51}},
		// The ends of a digit, and of the words.
		{[]int64{d - 1, 0, d, d, d}, []int64{0, 0, 0, 0, 1, 0, 0}}, {[]int64{mostWord, 9 * d, 9 * d, 9 * d, 0}, []int64{0, 0, 0, 0, 0, 1, 0}},
		{[]int64{d - 1, d, 2*d - 1, 2 * d, 0}, []int64{0, 0, 1, 0, 0, 0, 0}}, {[]int64{mostWord, 9 * d, 9*d - 1, 8 * d, 8*d - 1}, []int64{0, 0, 1, 0, 0, 0, 0}},
		// Words that are left, also where no hand is full.
		{repeated[int64](0, 4), make([]int64, 7)}, {[]int64{7}, make([]int64, 7)}, {repeated[int64](0, 9), []int64{0, 0, 0, 0, 0, 0, 1}},
		{[]int64{0, d, 2 * d, 3 * d, 4 * d, 4 * d, 4 * d, 4 * d, 4 * d, 4 * d}, []int64{1, 0, 0, 0, 0, 0, 1}},
	} {
		hands, ok := impl.HandsIn(c.words)
		wantList(t, fmt.Sprint("HandsIn ", c.words), hands, c.want)
		wantSame(t, "HandsIn succeeds", ok, true)
	}
}

func TestHandsInDrawnWords(t *testing.T) {
	kinds := map[string]int{"11111": 0, "1112": 1, "122": 2, "113": 3, "23": 4, "14": 5, "5": 6}
	for _, list := range drawnWords(200) {
		want := make([]int64, 7)
		for from := 0; from+5 <= len(list); from += 5 {
			of := map[int64]int{}
			for _, word := range list[from : from+5] {
				of[word/429496730]++
			}
			var sizes []string
			for _, size := range of {
				sizes = append(sizes, strconv.Itoa(size))
			}
			slices.Sort(sizes)
			want[kinds[strings.Join(sizes, "")]]++
		}
		hands, _ := impl.HandsIn(list)
		wantList(t, fmt.Sprint("HandsIn ", list), hands, want)
	}
}

func TestPairsIn(t *testing.T) {
	for _, c := range []struct {
		words []int64
		d     int64
		want  []int64
	}{
		{[]int64{0, 1 << 31, mostWord, 1}, 2, []int64{0, 1, 1, 0}}, {[]int64{7}, 1, []int64{0}}, {[]int64{0, mostWord, 5}, 1, []int64{1}},
		{repeated[int64](9, 256), 1, []int64{128}}, {repeated[int64](9, 255), 1, []int64{127}}, {[]int64{7}, 3, make([]int64, 9)},
		// A third begins at the first word that is not less than it.
		{[]int64{1431655765, 1431655766}, 3, []int64{0, 1, 0, 0, 0, 0, 0, 0, 0}}, {[]int64{2863311531, 2863311530}, 3, []int64{0, 0, 0, 0, 0, 0, 0, 1, 0}},
		{[]int64{1<<31 - 1, 1 << 31, 0, 1 << 31, 1 << 31, 0}, 2, []int64{0, 2, 1, 0}},
	} {
		pairs, ok := impl.PairsIn(c.words, c.d)
		wantList(t, fmt.Sprint("PairsIn ", c.words, c.d), pairs, c.want)
		wantSame(t, "PairsIn succeeds", ok, true)
	}
	for _, list := range drawnWords(60) {
		for d := int64(1); d <= 16; d++ {
			want := make([]int64, d*d)
			digit := func(word int64) int64 { return int64(math.Floor(float64(word) / 0x1p32 * float64(d))) }
			for i := 1; i < len(list); i += 2 {
				want[d*digit(list[i-1])+digit(list[i])]++
			}
			pairs, ok := impl.PairsIn(list, d)
			wantList(t, fmt.Sprint("PairsIn ", list, d), pairs, want)
			wantSame(t, "PairsIn succeeds", ok, true)
		}
	}
	for _, d := range []int64{0, -1, -2, 17, wordsEnd, math.MinInt64, math.MaxInt64} {
		pairs, ok := impl.PairsIn([]int64{1, 2}, d)
		wantFailure(t, fmt.Sprint("PairsIn with d ", d), pairs, ok)
	}
}

// rankReference counts the sums of all choices of words: there are 2 to the power of the rank.
func rankReference(words []int64) int64 {
	sums := map[int64]bool{0: true}
	for _, word := range words {
		for _, sum := range slices.Collect(maps.Keys(sums)) {
			sums[sum^word] = true
		}
	}
	return int64(math.Round(math.Log2(float64(len(sums)))))
}

func TestRankOfBits(t *testing.T) {
	var lower, single []int64 // of the rank 32, in both orders
	for i := range 32 {
		single = append(single, 1<<i)
		lower = append(lower, 1<<(i+1)-1)
	}
	upper := slices.Clone(lower)
	slices.Reverse(upper)
	for _, c := range []struct {
		words []int64
		want  int64
	}{
		{[]int64{3, 1, 2}, 2}, {[]int64{0}, 0}, {[]int64{1}, 1}, {[]int64{mostWord}, 1}, {[]int64{5, 5}, 1}, {[]int64{0, 0, 7, 0}, 1},
		{single, 32}, {lower, 32}, {upper, 32}, {repeated[int64](0, 32), 0}, {repeated[int64](mostWord, 32), 1},
		{append(slices.Clone(lower[:31]), lower[30]), 31}, {append(slices.Clone(single[1:]), mostWord-1), 31}, {append(slices.Clone(single[1:]), mostWord), 32},
	} {
		rank, ok := impl.RankOfBits(c.words)
		wantSame(t, fmt.Sprint("RankOfBits ", c.words), rank, c.want)
		wantSame(t, "RankOfBits succeeds", ok, true)
	}
	d := drawnBits(4)
	for range 2000 {
		words := make([]int64, 1+d.next()%9)
		mask := d.next() & d.next() & d.next()
		for i := range words {
			words[i] = int64(d.next() & mask)
		}
		rank, _ := impl.RankOfBits(words)
		wantSame(t, fmt.Sprint("RankOfBits ", words), rank, rankReference(words))
	}
	rank, ok := impl.RankOfBits(repeated[int64](1, 33))
	wantFailure(t, "RankOfBits of 33 words", rank, ok)
}

// meetingsReference looks at all numbers before each one.
func meetingsReference(list []int64) int64 {
	count := int64(0)
	for i, n := range list {
		if slices.Contains(list[:i], n) {
			count++
		}
	}
	return count
}

func TestMeetingsIn(t *testing.T) {
	for _, c := range []struct {
		words              []int64
		size               int64
		equal, differences int64
	}{
		{[]int64{1, 3, 3, 5}, 1, 1, 1}, {[]int64{5, 3, 1, 3}, 1, 1, 1}, {[]int64{9}, 1, 0, 0}, {[]int64{9, 9}, 1, 1, 0}, {[]int64{9, 9, 9}, 1, 2, 1},
		{[]int64{1, 2, 3, 4}, 1, 0, 2}, {[]int64{4, 2, 1, 3}, 1, 0, 2}, {[]int64{1, 2, 4, 8}, 1, 0, 0}, {[]int64{2, 3, 4, 5}, 2, 2, 1},
		{[]int64{0, 1 << 31, mostWord}, wordsEnd, 2, 1}, {[]int64{0, mostWord - 1, mostWord}, mostWord, 1, 0}, {[]int64{0, mostWord}, 1, 0, 0},
		{repeated[int64](mostWord, 256), 1, 255, 254}, {[]int64{10, 19, 20, 29, 40}, 10, 2, 1},
	} {
		equal, differences, ok := impl.MeetingsIn(c.words, c.size)
		wantSame(t, fmt.Sprint("MeetingsIn ", c), [2]int64{equal, differences}, [2]int64{c.equal, c.differences})
		wantSame(t, "MeetingsIn succeeds", ok, true)
	}
	for _, list := range drawnWords(100) {
		for _, size := range []int64{1, 3, 1000003, 1 << 20, 1 << 26, mostWord, wordsEnd} {
			var days, differences []int64
			for _, word := range list {
				days = append(days, word/size)
			}
			slices.Sort(days)
			for i := range days[1:] {
				differences = append(differences, days[i+1]-days[i])
			}
			equal, same, _ := impl.MeetingsIn(list, size)
			wantSame(t, fmt.Sprint("MeetingsIn ", list, size), [2]int64{equal, same}, [2]int64{meetingsReference(days), meetingsReference(differences)})
		}
	}
	for _, size := range []int64{0, -1, wordsEnd + 1, math.MinInt64, math.MaxInt64} {
		equal, differences, ok := impl.MeetingsIn([]int64{1, 1, 1}, size)
		wantFailure(t, fmt.Sprint("MeetingsIn with the size ", size), equal, differences, ok)
	}
}
