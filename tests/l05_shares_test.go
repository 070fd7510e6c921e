package tests

import (
	"fmt"
	"math"
	"testing"

	"loop.example/g01339/impl"
)

func TestLimitsOfShares(t *testing.T) {
	wantSame(t, "the limits", [2]int{impl.MaxValues, impl.MaxRounds}, [2]int{64, 64})
}

func TestValidShare(t *testing.T) {
	for _, s := range goodShares() {
		wantSame(t, fmt.Sprint("ValidShare ", s), impl.ValidShare(s), true)
	}
	// Each last place of sums near the ends of what is allowed.
	for off := -20; off <= 20; off++ {
		high, low := mostAlone+float32(off)*0x1p-23, leastAlone+float32(off)*0x1p-24
		wantSame(t, fmt.Sprint("ValidShare of the sum ", high), impl.ValidShare(shareOf([]float32{0}, high)), off <= 0)
		wantSame(t, fmt.Sprint("ValidShare of the sum ", low), impl.ValidShare(shareOf([]float32{0}, low)), off >= 0)
		s := shareOf([]float32{1, 2, 3}, 0.5, 0.25, high-0.75)
		wantSame(t, fmt.Sprint("ValidShare of parts with the sum ", high), impl.ValidShare(s), off <= 0)
	}
	// The sum of chances depends on their order.
	tiny := float32(0x1p-24 - 0x1p-40)
	wantSame(t, "ValidShare of a sum that begins with much", impl.ValidShare(shareOf([]float32{1, 2, 3}, mostAlone, tiny, tiny)), true)
	wantSame(t, "ValidShare of a sum that begins with little", impl.ValidShare(shareOf([]float32{1, 2, 3}, tiny, tiny, mostAlone)), false)
}

func TestSameShare(t *testing.T) {
	one := []float32{1}
	list := []impl.Share{
		{}, {Values: one}, {Chances: one}, {Values: one, Chances: one}, {Values: []float32{1, 1}}, {Chances: []float32{1, 1}}, {Values: []float32{1, 1}, Chances: one}, {Values: one, Chances: []float32{1, 1}},
		{Values: []float32{0}, Chances: one}, {Values: []float32{minusZero}, Chances: one}, {Values: one, Chances: []float32{0}}, {Values: one, Chances: []float32{minusZero}},
		{Values: []float32{nan}, Chances: one}, {Values: []float32{inf}, Chances: one}, {Values: []float32{-inf}, Chances: one}, {Values: one, Chances: []float32{nan}}, {Values: one, Chances: []float32{inf}},
		{Values: []float32{1, 2, 3}, Chances: []float32{4, 5, 6}}, {Values: []float32{1, 2, 3}, Chances: []float32{4, 5, 7}}, {Values: []float32{1, 2, 4}, Chances: []float32{4, 5, 6}}, {Values: []float32{1, 2, 3}, Chances: []float32{0, 5, 6}}, {Values: []float32{0, 2, 3}, Chances: []float32{4, 5, 6}},
		{Values: wholes(300), Chances: wholes(300)}, {Values: wholes(300), Chances: wholes(299)}, {Values: []float32{1, afterOne}, Chances: one}, {Values: []float32{1, 1, least}, Chances: one},
	}
	for i, a := range list {
		for k, b := range list {
			// A copy, in which all not-a-numbers have other bits.
			c := impl.Share{Values: append([]float32{}, b.Values...), Chances: append([]float32{}, b.Chances...)}
			for _, part := range [][]float32{c.Values, c.Chances} {
				for at, x := range part {
					if x != x {
						part[at] = math.Float32frombits(0xff800001)
					}
				}
			}
			wantSame(t, fmt.Sprint("SameShare ", a, c), impl.SameShare(a, c), i == k)
			wantSame(t, fmt.Sprint("SameShare ", c, a), impl.SameShare(c, a), i == k)
		}
	}
}

// listsToGather has lists of 1 to 64 finite numbers, many of which are equal.
func listsToGather() [][]float32 {
	lists := [][]float32{
		{0}, {minusZero}, {0, minusZero}, {minusZero, 0}, {1, minusZero, 0}, {0, 1, minusZero}, {-1, minusZero, -1, 0, 0}, {most, -most}, {most, most}, {least, 0, -least}, {1, 2, 3}, {3, 2, 1}, {3, 1, 2, 1, 3}, {1, afterOne, 1},
		wholes(64), repeated[float32](5, 64), repeated(minusZero, 63), append(wholes(63), 62), append([]float32{62}, wholes(63)...),
	}
	d := drawnBits(102)
	for n := 1; n <= 64; n++ {
		for _, different := range []uint32{2, 7, 40, 1000} {
			var list []float32
			for range n {
				x := float32(int(d.next()%different)-int(different)/2) / 4
				if x == 0 && d.next()%2 == 0 {
					x = minusZero
				}
				list = append(list, x)
			}
			lists = append(lists, list)
		}
	}
	return lists
}

func listsNotToGather() [][]float32 {
	lists := [][]float32{nil, {}, wholes(65), repeated[float32](1, 65), repeated[float32](1, 66), repeated[float32](1, 300), repeated(nan, 2)}
	for _, odd := range oddFloats() {
		lists = append(lists, []float32{odd}, []float32{odd, 1}, []float32{1, odd}, []float32{1, odd, 1}, append(repeated[float32](1, 63), odd), append(repeated(odd, 63), 1))
	}
	return lists
}

func TestPlainShare(t *testing.T) {
	for _, values := range listsToGather() {
		var entries []entry
		for _, value := range values {
			entries = append(entries, entry{value, shortOver(1, float32(len(values)))})
		}
		want, can := gatherReference(entries)
		wantSame(t, fmt.Sprint("it can be gathered: ", values), can, true)
		s, ok := impl.PlainShare(values)
		wantShare(t, call{"PlainShare ", values}, s, ok, want, true)
	}
	for _, values := range listsNotToGather() {
		s, ok := impl.PlainShare(values)
		wantFailure(t, fmt.Sprint("PlainShare ", values), s, ok)
	}
}

func TestPlainShareThatIsKnown(t *testing.T) {
	third := float32(1.0 / 3)
	for _, c := range []struct {
		values []float32
		want   impl.Share
	}{
		{[]float32{3, 1, 2}, shareOf([]float32{1, 2, 3}, third, third, third)}, {[]float32{1, 0, 1, 1}, shareOf([]float32{0, 1}, 0.25, 0.75)},
		{[]float32{0, minusZero}, shareOf([]float32{0}, 1)}, {[]float32{minusZero, 0}, shareOf([]float32{minusZero}, 1)}, {[]float32{1, minusZero, 0, 1}, shareOf([]float32{minusZero, 1}, 0.5, 0.5)}, {repeated[float32](-7, 64), shareOf([]float32{-7}, 1)},
	} {
		s, ok := impl.PlainShare(c.values)
		wantShare(t, call{"PlainShare ", c.values}, s, ok, c.want, true)
	}
	s, _ := impl.PlainShare([]float32{1, 2, 3})
	mean, _ := impl.MeanOfShare(s)
	wantNear(t, "the mean of 1, 2 and 3", float64(mean), 2, 1e-6)
}

func TestCountShare(t *testing.T) {
	d := drawnBits(103)
	for i, values := range listsToGather() {
		for _, limit := range []uint32{2, 5, 100, 1000001} {
			var entries []entry
			var counts []int64
			all := int64(0)
			for range values {
				counts = append(counts, int64(d.next()%limit))
			}
			counts[i%len(counts)] = int64(limit) - 1
			for _, count := range counts {
				all += count
			}
			for i, value := range values {
				entries = append(entries, entry{value, shortOver(float32(counts[i]), float32(all))})
			}
			want, can := gatherReference(entries)
			wantSame(t, fmt.Sprint("it can be gathered: ", values, counts), can, true)
			s, ok := impl.CountShare(values, counts)
			wantShare(t, call{"CountShare ", values, counts}, s, ok, want, true)
		}
	}
}

func TestCountShareThatIsKnown(t *testing.T) {
	for _, c := range []struct {
		values []float32
		counts []int64
		want   impl.Share
	}{
		{[]float32{5, 5}, []int64{1, 3}, shareOf([]float32{5}, 1)}, {[]float32{5, 3}, []int64{1, 3}, shareOf([]float32{3, 5}, 0.75, 0.25)}, {[]float32{0, 1}, []int64{0, 7}, shareOf([]float32{0, 1}, 0, 1)}, {[]float32{1}, []int64{1000000}, shareOf([]float32{1}, 1)},
		{wholes(64), repeated[int64](1000000, 64), shareOf(wholes(64), repeated[float32](0x1p-6, 64)...)}, {[]float32{2, minusZero, 0}, []int64{2, 0, 2}, shareOf([]float32{minusZero, 2}, 0.5, 0.5)},
		// The sum is exact before it becomes a 32-bit number: as one of them, it would not grow by 1 behind 2 to the power of 24.
		{wholes(37), append(repeated[int64](1000000, 17), repeated[int64](1, 20)...), shareOf(wholes(37), append(repeated(float32(1000000)/17000020, 17), repeated(float32(1)/17000020, 20)...)...)},
	} {
		s, ok := impl.CountShare(c.values, c.counts)
		wantShare(t, call{"CountShare ", c.values, c.counts}, s, ok, c.want, true)
	}
}

func TestCountShareFails(t *testing.T) {
	for _, values := range listsNotToGather() {
		counts := repeated[int64](1, len(values))
		s, ok := impl.CountShare(values, counts)
		wantFailure(t, fmt.Sprint("CountShare ", values, counts), s, ok)
		if len(values) > 1 {
			// A number that is never counted must be finite as well.
			s, ok = impl.CountShare(values, append(repeated[int64](0, len(values)-1), 1))
			wantFailure(t, fmt.Sprint("CountShare ", values), s, ok)
		}
	}
	for _, c := range []struct {
		values []float32
		counts []int64
	}{
		{[]float32{1}, nil}, {nil, []int64{1}}, {[]float32{1, 2}, []int64{1}}, {[]float32{1}, []int64{1, 2}}, {[]float32{1, 2}, []int64{1, 2, 3}}, {[]float32{1}, []int64{0}}, {[]float32{1, 2, 3}, []int64{0, 0, 0}}, {wholes(64), make([]int64, 64)},
		{[]float32{1}, []int64{-1}}, {[]float32{1, 2}, []int64{-1, 2}}, {[]float32{1, 2}, []int64{2, -1}}, {[]float32{1}, []int64{1000001}}, {[]float32{1, 2}, []int64{1, 1000001}}, {[]float32{1, 2}, []int64{1000001, 1}},
		{[]float32{1, 2}, []int64{math.MaxInt64, math.MaxInt64}}, {[]float32{1, 2}, []int64{math.MinInt64, math.MinInt64}}, {[]float32{1, 2}, []int64{wordsEnd, 1}}, {[]float32{1, 1}, []int64{-1, 1}}, {wholes(64), repeated[int64](1, 63)}, {wholes(63), repeated[int64](1, 64)},
	} {
		s, ok := impl.CountShare(c.values, c.counts)
		wantFailure(t, fmt.Sprint("CountShare ", c), s, ok)
	}
}

// hitsReference makes a new list for each try.
func hitsReference(n int64, chance float32) []float32 {
	list := []float32{1}
	for range n {
		old := append(list, 0)
		list = make([]float32, len(old))
		list[0] = shortTimes(old[0], shortLess(1, chance))
		for k := 1; k < len(old); k++ {
			list[k] = shortPlus(shortTimes(old[k], shortLess(1, chance)), shortTimes(old[k-1], chance))
		}
	}
	return list
}

// chancesToHit has the ends, and some between.
func chancesToHit() []float32 {
	list := []float32{0, minusZero, 1, 0.5, 0.25, 0.1, 0.9, 1.0 / 3, least, leastNormal, 1 - 0x1p-24, 0x1p-24, 0x1p-25, 1e-20}
	d := drawnBits(104)
	for range 20 {
		list = append(list, float32(d.next()>>8)*0x1p-24)
	}
	return list
}

func TestHitsShare(t *testing.T) {
	for n := int64(0); n <= 63; n++ {
		for _, chance := range chancesToHit() {
			s, ok := impl.HitsShare(n, chance)
			wantShare(t, call{"HitsShare ", n, chance}, s, ok, shareOf(wholes(int(n)+1), hitsReference(n, chance)...), true)
			wantSame(t, fmt.Sprint("it is valid: ", s), isShare(s), true)
			mean, squares := 0.0, 0.0
			for k, c := range s.Chances {
				mean, squares = mean+float64(k)*float64(c), squares+float64(k*k)*float64(c)
			}
			p := float64(chance)
			wantNear(t, fmt.Sprint("the mean of ", s), mean, float64(n)*p, 0.001)
			wantNear(t, fmt.Sprint("the spread of ", s), squares-mean*mean, float64(n)*p*(1-p), 0.01)
		}
	}
	s, ok := impl.HitsShare(3, 0.5)
	wantShare(t, call{"HitsShare 3 0.5"}, s, ok, shareOf(wholes(4), 0.125, 0.375, 0.375, 0.125), true)
	s, ok = impl.HitsShare(2, 0.25)
	wantShare(t, call{"HitsShare 2 0.25"}, s, ok, shareOf(wholes(3), 0.5625, 0.375, 0.0625), true)
	s, ok = impl.HitsShare(63, 1)
	wantShare(t, call{"HitsShare 63 1"}, s, ok, shareOf(wholes(64), append(make([]float32, 63), 1)...), true)
}

func badTries() []int64 {
	return []int64{-1, 64, 65, 257, wordsEnd, math.MinInt64, math.MaxInt64, -wordsEnd + 1}
}

func TestHitsShareFails(t *testing.T) {
	for _, n := range badTries() {
		for _, chance := range []float32{0, 0.5, 1} {
			s, ok := impl.HitsShare(n, chance)
			wantFailure(t, fmt.Sprint("HitsShare ", n, chance), s, ok)
		}
	}
	for _, chance := range outside() {
		for _, n := range []int64{0, 1, 63} {
			s, ok := impl.HitsShare(n, chance)
			wantFailure(t, fmt.Sprint("HitsShare ", n, chance), s, ok)
		}
	}
}

func rareReference(mean float32, n int64) []float32 {
	terms := []float32{1}
	for k := int64(1); k <= n; k++ {
		terms = append(terms, shortOver(shortTimes(terms[k-1], mean), float32(k)))
	}
	all := sumOfWeights(terms)
	for k, term := range terms {
		terms[k] = shortOver(term, all)
	}
	return terms
}

func TestRareShare(t *testing.T) {
	means := append(chancesToHit(), 2, 3, 4.5, 7, 10, 15.75, 20, 31, 32-0x1p-19, 32)
	for n := int64(0); n <= 63; n++ {
		for _, mean := range means {
			s, ok := impl.RareShare(mean, n)
			wantShare(t, call{"RareShare ", mean, n}, s, ok, shareOf(wholes(int(n)+1), rareReference(mean, n)...), true)
			wantSame(t, fmt.Sprint("it is valid: ", s), isShare(s), true)
		}
	}
	for _, mean := range []float64{0.5, 1, 5, 20} {
		s, _ := impl.RareShare(float32(mean), 63)
		chance := math.Exp(-mean)
		for k, c := range s.Chances {
			wantNear(t, fmt.Sprint("the chance of ", k), float64(c), chance, 1e-6)
			chance *= mean / float64(k+1)
		}
	}
	s, ok := impl.RareShare(1, 2)
	wantShare(t, call{"RareShare 1 2"}, s, ok, shareOf(wholes(3), 0.4, 0.4, 0.2), true)
	s, ok = impl.RareShare(minusZero, 3)
	wantShare(t, call{"RareShare -0 3"}, s, ok, shareOf(wholes(4), 1, minusZero, 0, minusZero), true)
	s, ok = impl.RareShare(32, 0)
	wantShare(t, call{"RareShare 32 0"}, s, ok, shareOf(wholes(1), 1), true)
}

func TestRareShareFails(t *testing.T) {
	for _, n := range badTries() {
		for _, mean := range []float32{0, 1, 32} {
			s, ok := impl.RareShare(mean, n)
			wantFailure(t, fmt.Sprint("RareShare ", mean, n), s, ok)
		}
	}
	for _, mean := range append(oddFloats(), -least, -1, 32+0x1p-18, 33, most, -most) {
		for _, n := range []int64{0, 1, 63} {
			s, ok := impl.RareShare(mean, n)
			wantFailure(t, fmt.Sprint("RareShare ", mean, n), s, ok)
		}
	}
}
