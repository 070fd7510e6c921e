package tests

import (
	"fmt"
	"math"
	"slices"
	"testing"

	"loop.example/g01339/impl"
)

func mixtureOf(weights, means, spreads []float32) impl.Mixture {
	return impl.Mixture{Weights: weights, Means: means, Spreads: spreads}
}

// oneBell has a mean and a spread.
func oneBell(mean, spread float32) impl.Mixture {
	return mixtureOf([]float32{1}, []float32{mean}, []float32{spread})
}

// isMixture reads the rules for mixtures.
func isMixture(m impl.Mixture) bool {
	n := len(m.Weights)
	if n < 1 || n > 8 || len(m.Means) != n || len(m.Spreads) != n || !isNearOne(sumOfWeights(m.Weights)) {
		return false
	}
	for i, weight := range m.Weights {
		mean, spread := m.Means[i], m.Spreads[i]
		if !isFinite(weight) || weight < 0 || !isFinite(mean) || !isFinite(spread) || spread <= 0 {
			return false
		}
	}
	return true
}

func goodMixtures() []impl.Mixture {
	list := []impl.Mixture{
		oneBell(0, 1), oneBell(2, 0.5), oneBell(minusZero, 1), oneBell(most, 1), oneBell(-most, most), oneBell(0, least), oneBell(0, leastNormal), oneBell(0, 1e-38), oneBell(0, 2e-39), oneBell(0, 1e20), oneBell(0, most), oneBell(5, 0.01),
		mixtureOf([]float32{mostAlone}, []float32{0}, []float32{1}), mixtureOf([]float32{leastAlone}, []float32{0}, []float32{1}), mixtureOf([]float32{0, 1}, []float32{3, -1}, []float32{1, 2}), mixtureOf([]float32{1, minusZero}, []float32{3, -1}, []float32{1, 2}),
		mixtureOf([]float32{0.5, 0.5}, []float32{-2, 2}, []float32{1, 1}), mixtureOf([]float32{0.5, 0.5}, []float32{1, 1}, []float32{1, 1}), mixtureOf([]float32{0.5, 0.5}, []float32{0, 1000}, []float32{1, 1}), mixtureOf([]float32{0.9995, 0.0005}, []float32{0, 0}, []float32{1, 1}), mixtureOf([]float32{0.5, 0.5}, []float32{0, 0}, []float32{1, least}),
		mixtureOf([]float32{1, least}, []float32{0, 0}, []float32{1, 1}), mixtureOf([]float32{1, least}, []float32{100, 0}, []float32{1, 1}), mixtureOf(repeated[float32](0.125, 8), wholes(8), repeated[float32](0.7, 8)), mixtureOf(append(make([]float32, 7), 1), wholes(8), repeated[float32](3, 8)),
	}
	d := drawnBits(107)
	for n := 1; n <= 8; n++ {
		for _, sum := range []float64{1, 1, 1, 1, 1.0009, 0.9991} {
			m := mixtureOf(drawnChances(&d, n, sum), nil, nil)
			for range n {
				m.Means = append(m.Means, (float32(d.next()>>8)*0x1p-24-0.5)*8)
				m.Spreads = append(m.Spreads, (float32(d.next()>>8)*0x1p-24+0.01)*2)
			}
			list = append(list, m)
		}
	}
	return list
}

func badMixtures() []impl.Mixture {
	one, two := []float32{1}, []float32{0.5, 0.5}
	list := []impl.Mixture{
		{}, {Weights: one}, {Means: one, Spreads: one}, mixtureOf(one, one, nil), mixtureOf(one, nil, one), mixtureOf(nil, one, one), mixtureOf(two, one, one), mixtureOf(one, two, one), mixtureOf(one, one, two), mixtureOf(two, two, one), mixtureOf(two, one, two), mixtureOf(one, two, two), mixtureOf([]float32{}, []float32{}, []float32{}),
		mixtureOf([]float32{0}, one, one), mixtureOf([]float32{minusZero}, one, one), mixtureOf([]float32{2}, one, one), mixtureOf([]float32{-1}, one, one), mixtureOf([]float32{mostAlone + 0x1p-23}, one, one), mixtureOf([]float32{leastAlone - 0x1p-24}, one, one), mixtureOf([]float32{2, -1}, two, two), mixtureOf([]float32{1, -least}, two, two), mixtureOf([]float32{-least, 1}, two, two), mixtureOf([]float32{most, most}, two, two), mixtureOf([]float32{0, 0}, two, two),
		oneBell(0, 0), oneBell(0, minusZero), oneBell(0, -least), oneBell(0, -1), mixtureOf(two, two, []float32{1, 0}), mixtureOf(two, two, []float32{0, 1}), mixtureOf(two, two, []float32{1, -1}), mixtureOf([]float32{1, 0}, two, []float32{1, 0}),
		mixtureOf(repeated[float32](1.0/9, 9), wholes(9), repeated[float32](1, 9)), mixtureOf(append(make([]float32, 8), 1), wholes(9), repeated[float32](1, 9)), mixtureOf(append(make([]float32, 256), 1), wholes(257), repeated[float32](1, 257)),
	}
	for _, odd := range oddFloats() {
		list = append(list, oneBell(odd, 1), oneBell(0, odd), mixtureOf([]float32{odd}, one, one), mixtureOf([]float32{1, odd}, two, two), mixtureOf([]float32{odd, 1}, two, two), mixtureOf(two, []float32{1, odd}, two), mixtureOf(two, []float32{odd, 1}, two), mixtureOf(two, two, []float32{1, odd}), mixtureOf(two, two, []float32{odd, 1}))
	}
	return list
}

func TestValidMixture(t *testing.T) {
	for _, m := range goodMixtures() {
		wantSame(t, fmt.Sprint("a good mixture ", m), isMixture(m), true)
		wantSame(t, fmt.Sprint("ValidMixture ", m), impl.ValidMixture(m), true)
	}
	for _, m := range badMixtures() {
		wantSame(t, fmt.Sprint("a bad mixture ", m), isMixture(m), false)
		wantSame(t, fmt.Sprint("ValidMixture ", m), impl.ValidMixture(m), false)
		dense, ok := impl.MixtureAt(m, 0)
		wantFailure(t, fmt.Sprint("MixtureAt ", m), dense, ok)
		like, ok := impl.LikeOf(m, []float32{0, 1})
		wantFailure(t, fmt.Sprint("LikeOf ", m), like, ok)
		for _, rounds := range []int64{0, 1, 64} {
			fitted, ok := impl.FitMixture(m, []float32{0, 1}, rounds)
			wantFailure(t, fmt.Sprint("FitMixture ", m), fitted, ok)
		}
	}
	for off := -20; off <= 20; off++ {
		high, low := mostAlone+float32(off)*0x1p-23, leastAlone+float32(off)*0x1p-24
		wantSame(t, fmt.Sprint("ValidMixture of the sum ", high), impl.ValidMixture(mixtureOf([]float32{high}, []float32{0}, []float32{1})), off <= 0)
		wantSame(t, fmt.Sprint("ValidMixture of the sum ", low), impl.ValidMixture(mixtureOf([]float32{low}, []float32{0}, []float32{1})), off >= 0)
	}
}

// bellsReference has how dense each part is.
func bellsReference(m impl.Mixture, x float32) []float32 {
	var parts []float32
	for i, weight := range m.Weights {
		u := shortOver(shortLess(x, m.Means[i]), m.Spreads[i])
		e := shortExp(shortTimes(shortTimes(-0.5, u), u))
		parts = append(parts, shortOver(shortTimes(weight, e), shortTimes(2.5066283, m.Spreads[i])))
	}
	return parts
}

// placesOfMixture has numbers at and near its bells, and far away.
func placesOfMixture(m impl.Mixture) []float32 {
	list := []float32{0, minusZero, 1, -1, 0.3, -2.7, 5, 19, 20, 100, -1e6, 1e20, least, most, -most}
	for i, mean := range m.Means {
		for _, u := range []float32{0, 0.5, -1, 3, 10, 19.9, 20.1} {
			if x := mean + u*m.Spreads[i]; isFinite(x) {
				list = append(list, x, math.Nextafter32(x, 0))
			}
		}
	}
	return list
}

func TestMixtureAt(t *testing.T) {
	failed := 0
	for _, m := range goodMixtures() {
		for _, x := range placesOfMixture(m) {
			want := sumOfWeights(bellsReference(m, x))
			if !isFinite(want) {
				failed++
			}
			dense, ok := impl.MixtureAt(m, x)
			wantTold(t, call{"MixtureAt ", m, x}, dense, ok, want)
		}
		for _, x := range oddFloats() {
			dense, ok := impl.MixtureAt(m, x)
			wantFailure(t, fmt.Sprint("MixtureAt ", m, x), dense, ok)
		}
	}
	wantSame(t, "some are too dense", failed > 0, true)
	peak := float32(1) / 2.5066283
	for _, c := range []struct {
		m       impl.Mixture
		x, want float32
	}{
		{oneBell(0, 1), 0, peak}, {oneBell(0, 1), 100, 0}, {oneBell(0, 1), most, 0}, {oneBell(-most, 1), most, 0}, {oneBell(3, 0.5), 3, 2 * peak}, {oneBell(0, least), least, fromBits(0x7f800000)}, {oneBell(0, least), 1, 0}, {oneBell(0, most), 0, 0}, {mixtureOf([]float32{1, minusZero}, []float32{100, 0}, []float32{1, 1}), 0, 0},
		{mixtureOf([]float32{0.25, 0.75}, []float32{0, 0}, []float32{1, 1}), 0, peak}, {mixtureOf([]float32{minusZero, 1}, []float32{0, 100}, []float32{1, 1}), 0, 0}, {oneBell(5, 1e-39), 5, inf}, {oneBell(5, 0x1p-127), 5, 2 * peak * 0x1p126},
	} {
		dense, ok := impl.MixtureAt(c.m, c.x)
		wantTold(t, call{"MixtureAt ", c.m, c.x}, dense, ok, c.want)
	}
	for _, x := range []float64{-2, -0.5, 0, 1, 2.5} {
		dense, _ := impl.MixtureAt(mixtureOf([]float32{0.25, 0.75}, []float32{-1, 1}, []float32{0.5, 2}), float32(x))
		bell := func(u float64) float64 { return math.Exp(-u*u/2) / math.Sqrt(2*math.Pi) }
		wantNear(t, fmt.Sprint("MixtureAt ", x), float64(dense), 0.25*bell((x+1)/0.5)/0.5+0.75*bell((x-1)/2)/2, 1e-6)
	}
}

// likeReference is a not-a-number where there is none.
func likeReference(m impl.Mixture, list []float32) float32 {
	like := float32(0)
	for _, x := range list {
		dense := sumOfWeights(bellsReference(m, x))
		if !isFinite(dense) || dense <= 0 {
			return nan
		}
		like = shortPlus(like, shortLog(dense))
	}
	return like
}

// numbersToFit has lists of 2 to 256 numbers.
func numbersToFit() [][]float32 {
	lists := [][]float32{{0, 1}, {1, 3}, {2, 2}, {0, minusZero}, {minusZero, minusZero}, {-1, 0, 1, 1, 2, 5}, repeated[float32](2, 256), repeated[float32](0, 3), {0, least}, {0, 1000}, {most, 0}, {0, 19}, {0, 0, 20.5}, {1e20, 1e20}, {-3, 0.5, 0.25, 4}}
	d := drawnBits(108)
	for _, n := range []int{2, 3, 5, 10, 50, 255, 256} {
		for _, wide := range []float32{1, 6, 20} {
			var list []float32
			for range n {
				list = append(list, (float32(d.next()>>8)*0x1p-24-0.5)*wide)
			}
			lists = append(lists, list)
		}
	}
	return lists
}

func TestLikeOf(t *testing.T) {
	failed := 0
	for _, m := range goodMixtures() {
		for _, list := range append(numbersToFit(), []float32{0}, []float32{1.5}, []float32{1000}) {
			want := likeReference(m, list)
			if !isFinite(want) {
				failed++
			}
			like, ok := impl.LikeOf(m, list)
			wantTold(t, call{"LikeOf ", m, list}, like, ok, want)
		}
	}
	wantSame(t, "some are not like it at all", failed > 0, true)
	bell := oneBell(0, 1)
	for _, list := range [][]float32{nil, {}, repeated[float32](0, 257), repeated[float32](0, 300), {nan}, {inf}, {-inf}, {0, nan}, {nan, 0}, {0, inf}, {100}, {0, 100}, {100, 0}, {most}} {
		like, ok := impl.LikeOf(bell, list)
		wantFailure(t, fmt.Sprint("LikeOf ", list), like, ok)
	}
	for _, m := range []impl.Mixture{oneBell(0, least), oneBell(0, most), mixtureOf([]float32{0, 1}, []float32{0, 100}, []float32{1, 1})} {
		like, ok := impl.LikeOf(m, []float32{0})
		wantFailure(t, fmt.Sprint("LikeOf ", m), like, ok)
	}
	like, ok := impl.LikeOf(bell, []float32{0})
	wantTold(t, call{"LikeOf one number"}, like, ok, shortLog(1/float32(2.5066283)))
	like, _ = impl.LikeOf(bell, repeated[float32](1, 256))
	wantNear(t, "LikeOf the most numbers", float64(like), -256*(0.5+math.Log(2*math.Pi)/2), 1e-2)
}

// fitReference makes one round, and reports whether it can.
func fitReference(m impl.Mixture, list []float32) (impl.Mixture, bool) {
	var shares [][]float32 // one list for each number
	for _, x := range list {
		parts := bellsReference(m, x)
		all := sumOfWeights(parts)
		if !isFinite(all) || all == 0 {
			return impl.Mixture{}, false
		}
		for i, part := range parts {
			parts[i] = shortOver(part, all)
		}
		shares = append(shares, parts)
	}
	fitted := mixtureOf(slices.Clone(m.Weights), slices.Clone(m.Means), slices.Clone(m.Spreads))
	for i := range m.Weights {
		n, sum, around := float32(0), float32(0), float32(0)
		for k, x := range list {
			n = shortPlus(n, shares[k][i])
			sum = shortPlus(sum, shortTimes(shares[k][i], x))
		}
		if n <= 0.001 {
			continue
		}
		mean := shortOver(sum, n)
		for k, x := range list {
			z := shortLess(x, mean)
			around = shortPlus(around, shortTimes(shares[k][i], shortTimes(z, z)))
		}
		fitted.Weights[i], fitted.Means[i] = shortOver(n, float32(len(list))), mean
		fitted.Spreads[i] = shortRoot(shortPlus(shortOver(around, n), 0.0001))
	}
	return fitted, isMixture(fitted)
}

func wantMixture(t *testing.T, what call, got impl.Mixture, ok bool, want impl.Mixture, can bool) {
	t.Helper()
	if !can {
		want = impl.Mixture{}
	}
	if ok != can || !sameNumbers(got.Weights, want.Weights) || !sameNumbers(got.Means, want.Means) || !sameNumbers(got.Spreads, want.Spreads) {
		t.Errorf("%v: got %v, %v, want %v, %v", what, got, ok, want, can)
	}
}

func TestFitMixture(t *testing.T) {
	results := map[bool]int{}
	for _, m := range goodMixtures() {
		for i, list := range numbersToFit() {
			last := int64(3)
			if len(list) < 8 || i%7 == 0 {
				last = 64
			}
			want, can := m, true
			for rounds := int64(0); rounds <= last; rounds++ {
				if rounds > 0 && can {
					want, can = fitReference(want, list)
				}
				if rounds > 3 && rounds < 63 {
					continue
				}
				results[can]++
				fitted, ok := impl.FitMixture(m, list, rounds)
				wantMixture(t, call{"FitMixture ", m, list, rounds}, fitted, ok, want, can)
			}
		}
	}
	wantSame(t, "some succeed, and some fail", results[true] > 0 && results[false] > 0, true)
}

func TestFitMixtureFails(t *testing.T) {
	bell := oneBell(0, 1)
	for _, rounds := range []int64{-1, 65, 66, 257, wordsEnd, wordsEnd + 1, math.MinInt64, math.MaxInt64} {
		fitted, ok := impl.FitMixture(bell, []float32{0, 1}, rounds)
		wantFailure(t, fmt.Sprint("FitMixture ", rounds), fitted, ok)
	}
	for _, list := range [][]float32{nil, {}, {0}, repeated[float32](0, 257), repeated[float32](0, 1000), {nan, 0}, {0, nan}, {inf, 0}, {0, inf}, {0, -inf}, {nan}, append(repeated[float32](0, 255), nan)} {
		for _, rounds := range []int64{0, 1, 2, 64} {
			fitted, ok := impl.FitMixture(bell, list, rounds)
			wantFailure(t, fmt.Sprint("FitMixture ", list, rounds), fitted, ok)
		}
	}
	for _, c := range []struct {
		m    impl.Mixture
		list []float32
	}{
		// A number that no part comes to.
		{bell, []float32{0, 1000}}, {bell, []float32{1000, 0}}, {oneBell(0, most), []float32{0, 0}}, {oneBell(0, least), []float32{0, 1}}, {oneBell(0, least), []float32{1, 0}},
		// Both are at the far part, but the near one keeps its weight.
		{mixtureOf([]float32{0.5, 0.5}, []float32{0, 1000}, []float32{1, 1}), []float32{1000, 1001}}, {mixtureOf([]float32{0.5, 0.5}, []float32{0, 1000}, []float32{1, 1}), []float32{0, 1}},
		// The sum of all numbers, or that of their squares, is too great.
		{oneBell(most, 1), []float32{most, most}}, {oneBell(0, 1e20), []float32{-1e20, 1e20}},
		// The only part is infinitely dense at one number, or at all of them.
		{oneBell(0, 1e-39), []float32{0, 0}}, {oneBell(0, 1e-39), []float32{0, 1e-39}}, {oneBell(0, 1e-39), []float32{1e-39, 0}}, {oneBell(0, least), []float32{0, minusZero}}, {oneBell(-3, least), []float32{-3, -3, -3}},
		// So is one part beside others that are not: the first one, the last one, one of little weight, and at the last number alone.
		{mixtureOf([]float32{0.5, 0.5}, []float32{0, 4}, []float32{least, 1}), []float32{0, 5}}, {mixtureOf([]float32{0.5, 0.5}, []float32{0, 4}, []float32{1, least}), []float32{4, 5}}, {mixtureOf([]float32{0.25, 0.5, 0.25}, []float32{3, 4, 5}, []float32{1, least, 2}), []float32{3, 5, 4}}, {mixtureOf([]float32{1, 0.0001}, []float32{0, 0}, []float32{1, least}), []float32{1, 2, 3, 0}},
		// No part is, but the sum of two, or of eight.
		{mixtureOf([]float32{0.5, 0.5}, []float32{0, 0}, []float32{1e-39, 1e-39}), []float32{0, 0}}, {mixtureOf(repeated[float32](0.125, 8), make([]float32, 8), repeated[float32](1e-39, 8)), []float32{0, 0, 0}},
	} {
		fitted, ok := impl.FitMixture(c.m, c.list, 0)
		wantMixture(t, call{"FitMixture no rounds ", c.m, c.list}, fitted, ok, c.m, true)
		for _, rounds := range []int64{1, 2, 64} {
			fitted, ok = impl.FitMixture(c.m, c.list, rounds)
			wantFailure(t, fmt.Sprint("FitMixture ", c.m, c.list, rounds), fitted, ok)
		}
	}
}

func TestFitMixtureThatIsKnown(t *testing.T) {
	for _, c := range []struct {
		m, want impl.Mixture
		list    []float32
		rounds  int64
	}{
		{oneBell(0, 1), oneBell(2, shortRoot(1.0001)), []float32{1, 3}, 1}, {oneBell(0, 1), oneBell(2, shortRoot(1.0001)), []float32{1, 3}, 64}, {oneBell(0, 1), oneBell(5, 0.01), repeated[float32](5, 7), 64}, {oneBell(0, 1), oneBell(0, 0.01), []float32{minusZero, minusZero}, 1},
		// A part that no number is near to stays as it is, where its weight lets it.
		{mixtureOf([]float32{1, 0}, []float32{0, minusZero}, []float32{1, 3}), mixtureOf([]float32{1, 0}, []float32{2, minusZero}, []float32{shortRoot(1.0001), 3}), []float32{1, 3}, 1}, {mixtureOf([]float32{minusZero, 1}, []float32{1, 0}, []float32{1, 3}), mixtureOf([]float32{minusZero, 1}, []float32{1, 2}, []float32{1, shortRoot(1.0001)}), []float32{1, 3}, 5}, {mixtureOf([]float32{0.9995, 0.0005}, []float32{0, 1000}, []float32{1, 1}), mixtureOf([]float32{1, 0.0005}, []float32{2, 1000}, []float32{shortRoot(1.0001), 1}), []float32{1, 3}, 3},
		{mixtureOf([]float32{0.5, 0.5}, []float32{0, 1000}, []float32{1, 1}), mixtureOf([]float32{0.5, 0.5}, []float32{1, 1001}, []float32{shortRoot(1.0001), shortRoot(1.0001)}), []float32{0, 1000, 2, 1002}, 64},
	} {
		fitted, ok := impl.FitMixture(c.m, c.list, c.rounds)
		wantMixture(t, call{"FitMixture ", c.m, c.list, c.rounds}, fitted, ok, c.want, true)
	}
}

// TestFitMixtureWhereMixtureAtFails looks at the spreads at which a part, or
// the sum of two, becomes infinite. There is no mixture of which this comes only
// behind a first round: a part that was fitted has a spread of at least 0.01,
// and one that stayed has at each number what it had before, at most about
// 0.001 of a sum that was finite.
func TestFitMixtureWhereMixtureAtFails(t *testing.T) {
	results := map[bool]int{}
	near := int32(bitsOf(1.1723e-39))
	for off := int32(-3000); off <= 3000; off += 7 {
		spread := fromBits(uint32(near + off))
		for _, m := range []impl.Mixture{oneBell(0, spread), mixtureOf([]float32{0.5, 0.5}, []float32{0, 0}, []float32{spread, spread}), mixtureOf([]float32{0.0005, 1}, []float32{0, 0}, []float32{1, spread})} {
			_, can := impl.MixtureAt(m, 0)
			results[can]++
			for _, rounds := range []int64{0, 1, 2, 3} {
				_, ok := impl.FitMixture(m, []float32{0, minusZero}, rounds)
				wantSame(t, fmt.Sprint("FitMixture ", m, rounds, " succeeds"), ok, can || rounds == 0)
			}
		}
	}
	wantSame(t, "MixtureAt succeeds at some, and fails at others", results[true] > 0 && results[false] > 0, true)
}

// TestFitMixtureAtTheLeastPart looks at parts with n near 0.001: these bells
// have the same share of each number, so that n is the number of all times it.
func TestFitMixtureAtTheLeastPart(t *testing.T) {
	changed, equal := map[bool]int{}, 0
	for bits := -200; bits <= 200; bits++ {
		for _, list := range [][]float32{{0, 1}, {0, 1, 2, 0.5}} {
			weight := float32(0.001)/float32(len(list)) + float32(bits)*0x1p-34
			m := mixtureOf([]float32{1 - weight, weight}, []float32{0, 0}, []float32{1, 1})
			n := float32(0)
			for _, x := range list {
				parts := bellsReference(m, x)
				n = shortPlus(n, shortOver(parts[1], sumOfWeights(parts)))
			}
			if n == float32(0.001) {
				equal++
			}
			want, can := fitReference(m, list)
			fitted, ok := impl.FitMixture(m, list, 1)
			wantMixture(t, call{"FitMixture ", m, list}, fitted, ok, want, can)
			changed[ok && fitted.Means[1] != 0]++
		}
	}
	wantSame(t, "some parts are changed, some stay", changed[true] > 0 && changed[false] > 0, true)
	wantSame(t, "some parts have just this much", equal > 0, true)
}

func TestFitMixtureBecomesMoreLike(t *testing.T) {
	list := []float32{-2.1, -1.8, -2.5, -1.1, -3, 2.2, 1.7, 3.1, 2, 0.4}
	m := mixtureOf([]float32{0.5, 0.5}, []float32{-1, 0.5}, []float32{1, 1})
	before, _ := impl.LikeOf(m, list)
	for rounds := int64(1); rounds <= 64; rounds++ {
		fitted, ok := impl.FitMixture(m, list, rounds)
		like, told := impl.LikeOf(fitted, list)
		wantSame(t, fmt.Sprint("it is at least as like as before: ", rounds, like, before), ok && told && like >= before-0.01, true)
		before = like
	}
	fitted, _ := impl.FitMixture(m, list, 64)
	wantNear(t, "the mean of the lesser part", float64(fitted.Means[0]), -2.1, 0.2)
	wantNear(t, "the mean of the greater part", float64(fitted.Means[1]), 1.9, 0.3)
}
