package tests

import (
	"fmt"
	"math"
	"testing"

	"loop.example/g01339/impl"
)

// somePairs has pairs of good shares: all of the first ones, and some of the others.
func somePairs() [][2]impl.Share {
	shares := goodShares()
	var pairs [][2]impl.Share
	for i, a := range shares {
		for k, b := range shares {
			if i < 24 && k < 24 || (i*5+k)%61 == 0 {
				pairs = append(pairs, [2]impl.Share{a, b})
			}
		}
	}
	return pairs
}

// numbersOf has the values of a share, and the numbers next to them.
func numbersOf(s impl.Share) []float32 {
	list := []float32{0, minusZero, least, -least, 1, 0.5, most, -most}
	for _, value := range s.Values {
		list = append(list, value, math.Nextafter32(value, inf), math.Nextafter32(value, -inf))
	}
	return list
}

func meanReference(s impl.Share) float32 {
	mean := float32(0)
	for i, value := range s.Values {
		mean = shortPlus(mean, shortTimes(value, s.Chances[i]))
	}
	return mean
}

func TestMeanOfShare(t *testing.T) {
	failed := 0
	for _, s := range goodShares() {
		want := meanReference(s)
		if !isFinite(want) {
			failed++
		}
		mean, ok := impl.MeanOfShare(s)
		wantTold(t, call{"MeanOfShare ", s}, mean, ok, want)
	}
	wantSame(t, "some means are not finite", failed > 0, true)
	for _, c := range []struct {
		s    impl.Share
		want float32
	}{
		{shareOf([]float32{0, 1}, 0.5, 0.5), 0.5}, {shareOf([]float32{minusZero}, 1), 0}, {shareOf([]float32{-3, 5}, 0.25, 0.75), 3}, {shareOf([]float32{most}, 1), most}, {shareOf([]float32{-most, most}, 0.5, 0.5), 0}, {shareOf([]float32{most}, mostAlone), inf},
		// The sum is too large on its way only.
		{shareOf([]float32{-most, -most / 2, most}, 0.75, 0.25, 0), -most / 4 * 3.5}, {shareOf([]float32{-most, most}, mostAlone, 0), inf},
	} {
		mean, ok := impl.MeanOfShare(c.s)
		wantTold(t, call{"MeanOfShare ", c.s}, mean, ok, c.want)
	}
}

func momentReference(s impl.Share, n int64) float32 {
	mean, moment := meanReference(s), float32(0)
	for i, term := range s.Chances {
		for range n {
			term = shortTimes(term, shortLess(s.Values[i], mean))
		}
		moment = shortPlus(moment, term)
	}
	if !isFinite(mean) {
		return mean
	}
	return moment
}

func TestMomentOf(t *testing.T) {
	failed := 0
	for _, s := range goodShares() {
		for n := int64(0); n <= 8; n++ {
			want := momentReference(s, n)
			if !isFinite(want) {
				failed++
			}
			moment, ok := impl.MomentOf(s, n)
			wantTold(t, call{"MomentOf ", s, n}, moment, ok, want)
		}
		for _, n := range []int64{-1, 9, 10, 64, wordsEnd, wordsEnd + 2, math.MinInt64, math.MaxInt64} {
			moment, ok := impl.MomentOf(s, n)
			wantFailure(t, fmt.Sprint("MomentOf ", s, n), moment, ok)
		}
	}
	wantSame(t, "some moments are not finite", failed > 0, true)
	coin := shareOf([]float32{-1, 3}, 0.5, 0.5)
	for n, want := range []float32{1, 0, 4, 0, 16, 0, 64, 0, 256} {
		moment, ok := impl.MomentOf(coin, int64(n))
		wantTold(t, call{"MomentOf -1 and 3 ", n}, moment, ok, want)
	}
	for _, c := range []struct {
		s    impl.Share
		n    int64
		want float32
	}{
		{shareOf([]float32{0, 1, 4}, 0.5, 0.25, 0.25), 3, 4.21875}, {shareOf([]float32{-1e20, 1e20}, 0.5, 0.5), 1, 0}, {shareOf([]float32{-1e20, 1e20}, 0.5, 0.5), 2, inf}, {shareOf([]float32{0, 1}, mostAlone, 0), 0, mostAlone},
		// The difference of both values is too large, and nothing times it is not a number.
		{shareOf([]float32{-most, most}, 1, 0), 0, 1}, {shareOf([]float32{-most, most}, 1, 0), 1, nan},
		// Where there is no mean, nothing is told, even if the mean would be used no times.
		{shareOf([]float32{most}, mostAlone), 0, inf}, {shareOf([]float32{most}, mostAlone), 1, inf},
	} {
		moment, ok := impl.MomentOf(c.s, c.n)
		wantTold(t, call{"MomentOf ", c.s, c.n}, moment, ok, c.want)
	}
}

func belowReference(s impl.Share, x float32) float32 {
	sum := float32(0)
	for i, value := range s.Values {
		if value <= x {
			sum = shortPlus(sum, s.Chances[i])
		}
	}
	return sum
}

func TestChanceBelow(t *testing.T) {
	for _, s := range goodShares() {
		for _, x := range numbersOf(s) {
			if !isFinite(x) {
				continue
			}
			chance, ok := impl.ChanceBelow(s, x)
			wantTold(t, call{"ChanceBelow ", s, x}, chance, ok, belowReference(s, x))
		}
		for _, x := range oddFloats() {
			chance, ok := impl.ChanceBelow(s, x)
			wantFailure(t, fmt.Sprint("ChanceBelow ", s, x), chance, ok)
		}
	}
	for _, c := range []struct {
		s       impl.Share
		x, want float32
	}{
		{shareOf([]float32{1, 2}, 0.25, 0.75), 1, 0.25}, {shareOf([]float32{1, 2}, 0.25, 0.75), 0.5, 0}, {shareOf([]float32{1, 2}, 0.25, 0.75), 1.5, 0.25}, {shareOf([]float32{1, 2}, 0.25, 0.75), 2, 1}, {shareOf([]float32{0, 2}, 0.25, 0.75), minusZero, 0.25}, {shareOf([]float32{minusZero, 2}, 0.25, 0.75), 0, 0.25},
		{shareOf([]float32{1, 2}, minusZero, 1), 1, 0}, {shareOf([]float32{5}, mostAlone), most, mostAlone}, {shareOf([]float32{-most}, 1), -most, 1}, {shareOf([]float32{most}, 1), math.Nextafter32(most, 0), 0},
	} {
		chance, ok := impl.ChanceBelow(c.s, c.x)
		wantTold(t, call{"ChanceBelow ", c.s, c.x}, chance, ok, c.want)
	}
}

func quantileReference(s impl.Share, reached func(sum float32) bool) float32 {
	for i, value := range s.Values {
		if reached(sumOfWeights(s.Chances[:i+1])) {
			return value
		}
	}
	return s.Values[len(s.Values)-1]
}

// partsOfShare has the ends, the sums up to each value and their neighbours, and some others, from 0 to 1.
func partsOfShare(s impl.Share) []float32 {
	list := []float32{0, minusZero, least, 0.25, 0.5, 0.9, 1 - 0x1p-24, 1}
	for i := range s.Chances {
		sum := sumOfWeights(s.Chances[:i+1])
		for _, p := range []float32{sum, math.Nextafter32(sum, 0), math.Nextafter32(sum, 2)} {
			if p >= 0 && p <= 1 {
				list = append(list, p)
			}
		}
	}
	return list
}

func TestQuantileOf(t *testing.T) {
	unreached := 0
	for _, s := range goodShares() {
		for _, p := range partsOfShare(s) {
			want := quantileReference(s, func(sum float32) bool { return sum >= p })
			x, ok := impl.QuantileOf(s, p)
			wantTold(t, call{"QuantileOf ", s, p}, x, ok, want)
			// The part is below the quantile, but not below what comes before it.
			if belowReference(s, x) < p {
				unreached++
				wantSame(t, "a quantile that is not reached", x, s.Values[len(s.Values)-1])
			}
			if x > s.Values[0] && belowReference(s, math.Nextafter32(x, -inf)) >= p {
				t.Errorf("QuantileOf %v, %v is not the first one: %v", s, p, x)
			}
		}
		for _, p := range outside() {
			x, ok := impl.QuantileOf(s, p)
			wantFailure(t, fmt.Sprint("QuantileOf ", s, p), x, ok)
		}
	}
	wantSame(t, "some parts are never reached", unreached > 0, true)
	for _, c := range []struct {
		s       impl.Share
		p, want float32
	}{
		{shareOf([]float32{1, 2, 3}, 0.25, 0.5, 0.25), 0.5, 2}, {shareOf([]float32{1, 2, 3}, 0.25, 0.5, 0.25), 0.25, 1}, {shareOf([]float32{1, 2, 3}, 0, 0.5, 0.5), 0, 1}, {shareOf([]float32{1, 2, 3}, minusZero, 0.5, 0.5), minusZero, 1}, {shareOf([]float32{1, 2, 3}, 0, 0.5, 0.5), least, 2},
		{shareOf([]float32{1, 2, 3}, 0.5, leastAlone-0.5, 0), 1, 3}, {shareOf([]float32{1, 2}, 0.5, leastAlone-0.5), 1, 2}, {shareOf([]float32{1, 2}, 1, 0), 1, 1}, {shareOf([]float32{minusZero}, 1), 0.5, minusZero},
	} {
		x, ok := impl.QuantileOf(c.s, c.p)
		wantTold(t, call{"QuantileOf ", c.s, c.p}, x, ok, c.want)
	}
}

func TestShiftShare(t *testing.T) {
	numbers := []float32{0, minusZero, 1, -1, 0.5, -3, 1e-3, least, -least, 1e-40, 1e20, most, -most, 7.3}
	results := map[bool]int{}
	for _, s := range goodShares() {
		for _, by := range numbers {
			for _, plus := range numbers {
				var entries []entry
				for _, e := range entriesOf(s) {
					entries = append(entries, entry{shortPlus(shortTimes(e.value, by), plus), e.chance})
				}
				want, can := gatherReference(entries)
				results[can]++
				shifted, ok := impl.ShiftShare(s, by, plus)
				wantShare(t, call{"ShiftShare ", s, by, plus}, shifted, ok, want, can)
			}
		}
		for _, odd := range oddFloats() {
			for _, number := range []float32{0, 1} {
				shifted, ok := impl.ShiftShare(s, odd, number)
				wantFailure(t, fmt.Sprint("ShiftShare ", s, odd, number), shifted, ok)
				shifted, ok = impl.ShiftShare(s, number, odd)
				wantFailure(t, fmt.Sprint("ShiftShare ", s, number, odd), shifted, ok)
			}
		}
	}
	wantSame(t, "some succeed, and some fail", results[true] > 0 && results[false] > 0, true)
}

func TestShiftShareThatIsKnown(t *testing.T) {
	for _, c := range []struct {
		s, want  impl.Share
		by, plus float32
	}{
		{shareOf([]float32{0, 1}, 0.25, 0.75), shareOf([]float32{-0.5, 0.5}, 0.75, 0.25), -1, 0.5}, {shareOf([]float32{0, 1}, 0.25, 0.75), shareOf([]float32{5}, 1), 0, 5}, {shareOf([]float32{1, 2}, 0.25, 0.75), shareOf([]float32{minusZero}, 1), minusZero, minusZero},
		// Of equal values, the first one stays: here, -1 comes first.
		{shareOf([]float32{-1, 1}, 0.25, 0.75), shareOf([]float32{minusZero}, 1), 0, minusZero}, {shareOf([]float32{-1, 1}, 0.25, 0.75), shareOf([]float32{0}, 1), minusZero, minusZero}, {shareOf([]float32{-least, least}, 0.25, 0.75), shareOf([]float32{minusZero}, 1), 0.25, minusZero},
		{shareOf([]float32{1, 2}, minusZero, 1), shareOf([]float32{2, 4}, 0, 1), 2, 0}, {shareOf([]float32{most}, 1), shareOf([]float32{0}, 1), 1, -most},
	} {
		s, ok := impl.ShiftShare(c.s, c.by, c.plus)
		wantShare(t, call{"ShiftShare ", c.s, c.by, c.plus}, s, ok, c.want, true)
	}
	// The chances of the result, in their new order, have a sum that is too far from 1.
	tiny := float32(0x1p-24 - 0x1p-40)
	s, ok := impl.ShiftShare(shareOf([]float32{1, 2, 3}, mostAlone, tiny, tiny), -1, 0)
	wantFailure(t, "ShiftShare that changes the sum of chances", s, ok)
	for _, c := range [][2]float32{{2, 0}, {-2, 0}, {1, most}, {0, inf}, {0, nan}, {inf, 0}} {
		s, ok := impl.ShiftShare(shareOf([]float32{most}, 1), c[0], c[1])
		wantFailure(t, fmt.Sprint("ShiftShare of the greatest number ", c), s, ok)
	}
}

// joinReference joins each value of a with each one of b.
func joinReference(a, b impl.Share, join func(x, y float32) float32) (impl.Share, bool) {
	var entries []entry
	for _, x := range entriesOf(a) {
		for _, y := range entriesOf(b) {
			entries = append(entries, entry{join(x.value, y.value), shortTimes(x.chance, y.chance)})
		}
	}
	return gatherReference(entries)
}

func greaterOf(x, y float32) float32 {
	if y > x {
		return y
	}
	return x
}

func TestAddSharesAndGreaterShare(t *testing.T) {
	added, joined := map[bool]int{}, map[bool]int{}
	for _, pair := range somePairs() {
		want, can := joinReference(pair[0], pair[1], shortPlus)
		added[can]++
		s, ok := impl.AddShares(pair[0], pair[1])
		wantShare(t, call{"AddShares ", pair}, s, ok, want, can)
		want, can = joinReference(pair[0], pair[1], greaterOf)
		joined[can]++
		s, ok = impl.GreaterShare(pair[0], pair[1])
		wantShare(t, call{"GreaterShare ", pair}, s, ok, want, can)
	}
	for _, results := range []map[bool]int{added, joined} {
		wantSame(t, "some succeed, and some fail", results[true] > 0 && results[false] > 0, true)
	}
}

func TestAddSharesThatIsKnown(t *testing.T) {
	coin, near := shareOf([]float32{0, 1}, 0.5, 0.5), shareOf([]float32{0}, 1.0005)
	for _, c := range []struct{ a, b, want impl.Share }{
		{coin, coin, shareOf([]float32{0, 1, 2}, 0.25, 0.5, 0.25)}, {coin, shareOf([]float32{5}, 1), shareOf([]float32{5, 6}, 0.5, 0.5)}, {shareOf([]float32{-1, 1}, 0.25, 0.75), shareOf([]float32{-1, 1}, 0.25, 0.75), shareOf([]float32{-2, 0, 2}, 0.0625, 0.375, 0.5625)},
		{shareOf([]float32{minusZero}, 1), shareOf([]float32{minusZero}, 1), shareOf([]float32{minusZero}, 1)}, {shareOf([]float32{minusZero}, 1), shareOf([]float32{0}, 1), shareOf([]float32{0}, 1)}, {shareOf([]float32{0, 1}, minusZero, 1), shareOf([]float32{0}, 1), shareOf([]float32{0, 1}, 0, 1)},
		// Both values are so near to each other that they become one.
		{shareOf([]float32{1, afterOne}, 0.5, 0.5), shareOf([]float32{4}, 1), shareOf([]float32{5}, 1)}, {shareOf([]float32{-most}, 1), shareOf([]float32{most}, 1), shareOf([]float32{0}, 1)},
	} {
		s, ok := impl.AddShares(c.a, c.b)
		wantShare(t, call{"AddShares ", c.a, c.b}, s, ok, c.want, true)
	}
	s, ok := impl.AddShares(near, near)
	wantFailure(t, "AddShares of sums that are too great together", s, ok)
	s, ok = impl.AddShares(shareOf([]float32{most}, 1), shareOf([]float32{most}, 1))
	wantFailure(t, "AddShares of the greatest numbers", s, ok)
	s, ok = impl.AddShares(shareOf([]float32{0, most}, 1, 0), shareOf([]float32{0, most}, 1, 0))
	wantFailure(t, "AddShares of the greatest numbers that never come", s, ok)
}

// spreadOut has n values, by steps of the given length.
func spreadOut(n int, step float32) impl.Share {
	list := wholes(n)
	for i := range list {
		list[i] *= step
	}
	return shareOf(list, repeated(shortOver(1, float32(n)), n)...)
}

func TestGatheredValuesAreNotTooMany(t *testing.T) {
	for _, c := range []struct {
		a, b impl.Share
		all  int
	}{
		{spreadOut(8, 1), spreadOut(8, 8), 64}, {spreadOut(8, 1), spreadOut(9, 8), 0}, {spreadOut(5, 1), spreadOut(13, 5), 0}, {spreadOut(64, 1), spreadOut(1, 1), 64}, {spreadOut(63, 1), spreadOut(2, 1), 64}, {spreadOut(64, 1), spreadOut(2, 1), 0}, {spreadOut(32, 1), spreadOut(33, 1), 64}, {spreadOut(33, 1), spreadOut(33, 1), 0}, {spreadOut(64, 1), spreadOut(64, 64), 0},
	} {
		s, ok := impl.AddShares(c.a, c.b)
		wantSame(t, fmt.Sprint("how many values are gathered: ", c.a, c.b), len(s.Values), c.all)
		wantSame(t, "whether they can be", ok, c.all > 0)
	}
	for _, c := range [][3]int{{32, 32, 64}, {33, 32, 0}, {63, 1, 64}, {64, 1, 0}, {64, 0, 64}} {
		a, b := spreadOut(c[0], 1), spreadOut(max(c[1], 1), 1)
		b, _ = impl.ShiftShare(b, 1, float32(c[0]))
		if c[1] == 0 {
			b, _ = impl.ShiftShare(a, 1, 0)
		}
		for _, part := range []float32{0, 0.5, 1} {
			s, ok := impl.MixShares(a, b, part)
			wantSame(t, fmt.Sprint("how many values are mixed: ", a, b, part), len(s.Values), c[2])
			wantSame(t, "whether they can be", ok, c[2] > 0)
		}
	}
}

func TestGreaterShareThatIsKnown(t *testing.T) {
	coin := shareOf([]float32{0, 1}, 0.5, 0.5)
	for _, c := range []struct{ a, b, want impl.Share }{
		{coin, coin, shareOf([]float32{0, 1}, 0.25, 0.75)}, {coin, shareOf([]float32{5}, 1), shareOf([]float32{5}, 1)}, {shareOf([]float32{5}, 1), coin, shareOf([]float32{5}, 1)}, {shareOf([]float32{-1, 1}, 0.25, 0.75), shareOf([]float32{0}, 1), shareOf([]float32{0, 1}, 0.25, 0.75)},
		// The value of b is not greater where it is equal.
		{shareOf([]float32{minusZero}, 1), shareOf([]float32{0}, 1), shareOf([]float32{minusZero}, 1)}, {shareOf([]float32{0}, 1), shareOf([]float32{minusZero}, 1), shareOf([]float32{0}, 1)}, {shareOf([]float32{-1, minusZero}, 0.5, 0.5), shareOf([]float32{0}, 1), shareOf([]float32{0}, 1)}, {shareOf([]float32{minusZero, 1}, 0.5, 0.5), shareOf([]float32{-1, 0}, 0.5, 0.5), shareOf([]float32{minusZero, 1}, 0.5, 0.5)},
	} {
		s, ok := impl.GreaterShare(c.a, c.b)
		wantShare(t, call{"GreaterShare ", c.a, c.b}, s, ok, c.want, true)
	}
}

func TestSumShare(t *testing.T) {
	results := map[bool]int{}
	for i, s := range goodShares() {
		want, can := s, true
		for n := int64(1); n <= 16; n++ {
			if n > 1 && can {
				want, can = joinReference(want, s, shortPlus)
			}
			results[can]++
			sum, ok := impl.SumShare(s, n)
			wantShare(t, call{"SumShare ", s, n}, sum, ok, want, can)
		}
		if i > 5 {
			continue
		}
		for _, n := range []int64{-1, 0, 17, 18, 64, wordsEnd, wordsEnd + 1, math.MinInt64, math.MaxInt64} {
			sum, ok := impl.SumShare(s, n)
			wantFailure(t, fmt.Sprint("SumShare ", s, n), sum, ok)
		}
	}
	wantSame(t, "some succeed, and some fail", results[true] > 0 && results[false] > 0, true)
	for n := int64(1); n <= 16; n++ {
		sum, ok := impl.SumShare(shareOf([]float32{0, 1}, 0.5, 0.5), n)
		want, _ := impl.HitsShare(n, 0.5)
		wantShare(t, call{"the sum of coins ", n}, sum, ok, want, true)
	}
	five := spreadOut(5, 1)
	sum, ok := impl.SumShare(five, 15)
	wantSame(t, "15 times 0 to 4 have 61 sums", ok && len(sum.Values) == 61, true)
	sum, ok = impl.SumShare(five, 16)
	wantFailure(t, "16 times 0 to 4 have 65 sums", sum, ok)
	sum, ok = impl.SumShare(shareOf([]float32{1}, 1.0005), 2)
	wantFailure(t, "SumShare of a sum of chances that becomes too great", sum, ok)
	// Nothing is gathered for a sum of one.
	sum, ok = impl.SumShare(shareOf([]float32{minusZero, 1}, minusZero, 1), 1)
	wantShare(t, call{"SumShare of one"}, sum, ok, shareOf([]float32{minusZero, 1}, minusZero, 1), true)
}

func TestMixShares(t *testing.T) {
	results := map[bool]int{}
	parts := []float32{0, minusZero, 1, 0.5, 0.25, 0.1, 1.0 / 3, least, 1 - 0x1p-24, 0x1p-25}
	for i, pair := range somePairs() {
		part := parts[i%len(parts)]
		var entries []entry
		for _, e := range entriesOf(pair[0]) {
			entries = append(entries, entry{e.value, shortTimes(shortLess(1, part), e.chance)})
		}
		for _, e := range entriesOf(pair[1]) {
			entries = append(entries, entry{e.value, shortTimes(part, e.chance)})
		}
		want, can := gatherReference(entries)
		results[can]++
		s, ok := impl.MixShares(pair[0], pair[1], part)
		wantShare(t, call{"MixShares ", pair, part}, s, ok, want, can)
	}
	wantSame(t, "some succeed, and some fail", results[true] > 0 && results[false] > 0, true)
	coin, four := shareOf([]float32{0, 1}, 0.5, 0.5), shareOf([]float32{minusZero, 4}, 0.25, 0.75)
	for _, c := range []struct {
		a, b, want impl.Share
		part       float32
	}{
		{coin, four, shareOf([]float32{0, 1, 4}, 0.375, 0.25, 0.375), 0.5}, {four, coin, shareOf([]float32{minusZero, 1, 4}, 0.4375, 0.375, 0.1875), 0.75}, {coin, four, shareOf([]float32{0, 1, 4}, 0.5, 0.5, 0), 0}, {coin, four, shareOf([]float32{0, 1, 4}, 0.25, 0, 0.75), 1}, {coin, coin, coin, 0.25}, {coin, four, shareOf([]float32{0, 1, 4}, 0.5, 0.5, 0), minusZero},
	} {
		s, ok := impl.MixShares(c.a, c.b, c.part)
		wantShare(t, call{"MixShares ", c.a, c.b, c.part}, s, ok, c.want, true)
	}
	for _, part := range outside() {
		// Of a share and itself, each part would bring the share again.
		for _, b := range []impl.Share{coin, four} {
			s, ok := impl.MixShares(coin, b, part)
			wantFailure(t, fmt.Sprint("MixShares ", b, part), s, ok)
		}
	}
}

func TestGivenAbove(t *testing.T) {
	results := map[bool]int{}
	for _, s := range goodShares() {
		for _, x := range numbersOf(s) {
			if !isFinite(x) {
				continue
			}
			var want impl.Share
			for _, e := range entriesOf(s) {
				if e.value > x {
					want.Values, want.Chances = append(want.Values, e.value), append(want.Chances, e.chance)
				}
			}
			all := sumOfWeights(want.Chances)
			for i, chance := range want.Chances {
				want.Chances[i] = shortOver(chance, all)
			}
			results[all > 0]++
			given, ok := impl.GivenAbove(s, x)
			wantShare(t, call{"GivenAbove ", s, x}, given, ok, want, all > 0)
			wantSame(t, "what is given is valid", !ok || isShare(given), true)
		}
		for _, x := range oddFloats() {
			given, ok := impl.GivenAbove(s, x)
			wantFailure(t, fmt.Sprint("GivenAbove ", s, x), given, ok)
		}
	}
	wantSame(t, "some succeed, and some fail", results[true] > 0 && results[false] > 0, true)
}

func TestGivenAboveThatIsKnown(t *testing.T) {
	s := shareOf([]float32{minusZero, 1, 2, 3}, 0.5, 0.25, minusZero, 0.25)
	for _, c := range []struct {
		s, want impl.Share
		x       float32
	}{
		{s, shareOf([]float32{1, 2, 3}, 0.5, minusZero, 0.5), 0}, {s, shareOf([]float32{1, 2, 3}, 0.5, minusZero, 0.5), minusZero}, {s, s, -least}, {s, shareOf([]float32{3}, 1), 2}, {s, shareOf([]float32{2, 3}, minusZero, 1), 1}, {s, shareOf([]float32{3}, 1), 2.5},
		{shareOf([]float32{1, 2, 3}, 1, least, least), shareOf([]float32{2, 3}, 0.5, 0.5), 1}, {shareOf([]float32{5}, mostAlone), shareOf([]float32{5}, 1), 4},
	} {
		given, ok := impl.GivenAbove(c.s, c.x)
		wantShare(t, call{"GivenAbove ", c.s, c.x}, given, ok, c.want, true)
	}
	for _, x := range []float32{3, math.Nextafter32(3, 4), most} {
		given, ok := impl.GivenAbove(s, x)
		wantFailure(t, fmt.Sprint("GivenAbove, where nothing is greater than ", x), given, ok)
	}
	for _, nothing := range []float32{0, minusZero} {
		given, ok := impl.GivenAbove(shareOf([]float32{1, 2, 3}, 1, nothing, nothing), 1)
		wantFailure(t, "GivenAbove, where what is greater has no chance", given, ok)
	}
}

// TestSumsOfShares looks at the means and spreads of shares whose sums are not far from 1.
func TestSumsOfShares(t *testing.T) {
	d := drawnBits(105)
	told := func(x float32, ok bool) float64 {
		t.Helper()
		wantSame(t, "a mean or a spread is told", ok, true)
		return float64(x)
	}
	for range 300 {
		a := shareOf(drawnValues(&d, 1+int(d.next()%6), 1), 1)
		a.Chances = drawnChances(&d, len(a.Values), 1)
		b, _ := impl.HitsShare(int64(d.next()%8), float32(d.next()%9)/8)
		s, ok := impl.AddShares(a, b)
		wantSame(t, fmt.Sprint("AddShares ", a, b), ok, true)
		meanA, meanB := told(impl.MeanOfShare(a)), told(impl.MeanOfShare(b))
		wideA, wideB := told(impl.MomentOf(a, 2)), told(impl.MomentOf(b, 2))
		wantNear(t, fmt.Sprint("the mean of ", s), told(impl.MeanOfShare(s)), meanA+meanB, 1e-4)
		wantNear(t, fmt.Sprint("the spread of ", s), told(impl.MomentOf(s, 2)), wideA+wideB, 1e-3)
		by, plus := float32(int(d.next()%9)-4), float32(int(d.next()%9)-4)
		shifted, _ := impl.ShiftShare(a, by, plus)
		wantNear(t, fmt.Sprint("the mean of ", shifted), told(impl.MeanOfShare(shifted)), meanA*float64(by)+float64(plus), 1e-4)
		wantNear(t, fmt.Sprint("the spread of ", shifted), told(impl.MomentOf(shifted, 2)), wideA*float64(by*by), 1e-2)
		n := int64(d.next()%3) + 1
		if sum, ok := impl.SumShare(b, n); ok {
			wantNear(t, fmt.Sprint("the mean of ", sum), told(impl.MeanOfShare(sum)), meanB*float64(n), 1e-4)
			wantNear(t, fmt.Sprint("the spread of ", sum), told(impl.MomentOf(sum, 2)), wideB*float64(n), 1e-3)
		}
		part := float64(d.next()%5) / 4
		mixed, _ := impl.MixShares(a, b, float32(part))
		wantNear(t, fmt.Sprint("the mean of ", mixed), told(impl.MeanOfShare(mixed)), meanA*(1-part)+meanB*part, 1e-4)
	}
}
