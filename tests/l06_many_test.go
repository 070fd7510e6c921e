package tests

import (
	"fmt"
	"math"
	"testing"

	"loop.example/g01339/impl"
)

// comesBefore tells whether the share i comes before the share k in ascending order, equal ones in the order of their indices.
func comesBefore(list []float32, i, k int) bool {
	return list[i] < list[k] || list[i] == list[k] && i < k
}

// placeOf has how many come before the share i.
func placeOf(list []float32, i int) int {
	place := 0
	for k := range list {
		if comesBefore(list, k, i) {
			place++
		}
	}
	return place
}

func upToOne(x float32) float32 {
	if x > 1 {
		return 1
	}
	return x
}

// manyReference has for each share the best one of those that are told with it, the first one of equal ones.
func manyReference(list []float32, with func(place, own int) bool, told func(share float32, place int) float32, better func(a, b float32) bool) []float32 {
	n := len(list)
	inOrder := make([]float32, n)
	for i, share := range list {
		inOrder[placeOf(list, i)] = share
	}
	many := []float32{}
	for i := range list {
		var best []float32
		for place, share := range inOrder {
			if with(place, placeOf(list, i)) {
				if x := upToOne(told(share, place)); len(best) == 0 || better(x, best[0]) {
					best = []float32{x}
				}
			}
		}
		many = append(many, best[0])
	}
	return many
}

func holmReference(list []float32) []float32 {
	return manyReference(list, func(place, own int) bool { return place <= own }, func(share float32, place int) float32 {
		return shortTimes(share, float32(len(list)-place))
	}, func(a, b float32) bool { return a > b })
}

func stepReference(list []float32) []float32 {
	return manyReference(list, func(place, own int) bool { return place >= own }, func(share float32, place int) float32 {
		return shortOver(shortTimes(share, float32(len(list))), float32(place+1))
	}, func(a, b float32) bool { return a < b })
}

// manyShares has lists of 1 to 64 shares, with equal ones, and with both zeros.
func manyShares() [][]float32 {
	lists := [][]float32{{0}, {minusZero}, {1}, {0.5}, {least}, {0.25, 0.75}, {0.75, 0.25}, {0.01, 0.04}, {0, minusZero}, {minusZero, 0}, {0, minusZero, 0, minusZero}, {minusZero, 0, minusZero, 0.5, 0}, {1, 1}, {1, 0, 1}, {0.5, 0.5, 0.5}, {0.3, 0.1, 0.3, 0.1, 0.2}, {least, 0, minusZero, least}, {0.01, 0.02, 0.03, 0.04, 0.05}, {0.05, 0.04, 0.03, 0.02, 0.01}, {1 - 0x1p-24, 1}, {1, 1 - 0x1p-24},
		repeated[float32](0, 64), repeated(minusZero, 64), repeated[float32](1, 64), repeated[float32](0.02, 64), repeated[float32](1.0/64, 64), append(repeated[float32](0, 63), minusZero), append(repeated(minusZero, 63), 0)}
	d := drawnBits(151)
	for n := 1; n <= 64; n++ {
		for _, most := range []float32{1, 0.2, 2 / float32(n)} {
			for _, steps := range []uint32{3, 10, 1 << 24} {
				list := []float32{}
				for range n {
					list = append(list, upToOne(shortTimes(float32(d.next()%(steps+1))/float32(steps), most)))
					if d.next()%8 == 0 {
						list[len(list)-1] = minusZero
					}
				}
				lists = append(lists, list)
			}
		}
	}
	return lists
}

func TestMany(t *testing.T) {
	for _, list := range manyShares() {
		want := []float32{}
		for _, share := range list {
			want = append(want, upToOne(shortTimes(share, float32(len(list)))))
		}
		many, ok := impl.PlainMany(list)
		wantNumbers(t, fmt.Sprint("PlainMany ", list), many, want)
		wantSame(t, fmt.Sprint("PlainMany succeeds: ", list), ok, true)
		holm, ok := impl.HolmMany(list)
		wantNumbers(t, fmt.Sprint("HolmMany ", list), holm, holmReference(list))
		wantSame(t, fmt.Sprint("HolmMany succeeds: ", list), ok, true)
		step, ok := impl.StepMany(list)
		wantNumbers(t, fmt.Sprint("StepMany ", list), step, stepReference(list))
		wantSame(t, fmt.Sprint("StepMany succeeds: ", list), ok, true)
		wantOrder(t, list, many, holm, step)
	}
}

// wantOrder looks whether shares for many tests stay in order, equal ones in
// that of their indices, and lie between those that were and the plain ones: a
// product that is divided again can become less, nearly not.
func wantOrder(t *testing.T, list, many, holm, step []float32) {
	t.Helper()
	for i, share := range list {
		if !(share <= holm[i] && holm[i] <= many[i] && many[i] <= 1 && share*(1-0x1p-22) <= step[i] && step[i] <= many[i]) {
			t.Errorf("the number %d of %v does not lie where it must: %v %v %v", i, list, many, holm, step)
		}
		for k := range list {
			if comesBefore(list, i, k) && !(many[i] <= many[k] && holm[i] <= holm[k] && step[i] <= step[k]) {
				t.Errorf("the numbers %d and %d of %v change their order: %v %v %v", i, k, list, many, holm, step)
			}
		}
	}
}

func TestManyOfKnownShares(t *testing.T) {
	for _, c := range []struct{ list, plain, holm, step []float32 }{
		{[]float32{0.25, 0.75}, []float32{0.5, 1}, []float32{0.5, 0.75}, []float32{0.5, 0.75}}, {[]float32{0.25, 0.375}, []float32{0.5, 0.75}, []float32{0.5, 0.5}, []float32{0.375, 0.375}}, {[]float32{0.01, 0.04}, []float32{0.02, 0.08}, []float32{0.02, 0.04}, []float32{0.02, 0.04}}, {[]float32{0.04, 0.01}, []float32{0.08, 0.02}, []float32{0.04, 0.02}, []float32{0.04, 0.02}}, {[]float32{0.5}, []float32{0.5}, []float32{0.5}, []float32{0.5}}, {[]float32{1}, []float32{1}, []float32{1}, []float32{1}}, {[]float32{0}, []float32{0}, []float32{0}, []float32{0}}, {[]float32{minusZero}, []float32{minusZero}, []float32{minusZero}, []float32{minusZero}},
		{[]float32{1, 0}, []float32{1, 0}, []float32{1, 0}, []float32{1, 0}}, {[]float32{0.25, 0.25, 0.25}, []float32{0.75, 0.75, 0.75}, []float32{0.75, 0.75, 0.75}, []float32{0.25, 0.25, 0.25}}, {[]float32{0.5, 0.125, 0.25, 0.25}, []float32{1, 0.5, 1, 1}, []float32{0.75, 0.5, 0.75, 0.75}, []float32{0.5, 1.0 / 3, 1.0 / 3, 1.0 / 3}},
		// The first one of equal zeros gives its sign.
		{[]float32{0, minusZero}, []float32{0, minusZero}, []float32{0, 0}, []float32{0, minusZero}}, {[]float32{minusZero, 0}, []float32{minusZero, 0}, []float32{minusZero, minusZero}, []float32{minusZero, 0}}, {[]float32{0.5, minusZero, 0}, []float32{1, minusZero, 0}, []float32{0.5, minusZero, minusZero}, []float32{0.5, minusZero, 0}}, {[]float32{least, 0, minusZero}, []float32{3 * least, 0, minusZero}, []float32{least, 0, 0}, []float32{least, 0, minusZero}},
	} {
		plain, _ := impl.PlainMany(c.list)
		wantNumbers(t, fmt.Sprint("PlainMany ", c.list), plain, c.plain)
		holm, _ := impl.HolmMany(c.list)
		wantNumbers(t, fmt.Sprint("HolmMany ", c.list), holm, c.holm)
		step, _ := impl.StepMany(c.list)
		wantNumbers(t, fmt.Sprint("StepMany ", c.list), step, c.step)
	}
}

func TestManyFails(t *testing.T) {
	lists := [][]float32{nil, {}, make([]float32, 65), repeated[float32](0.5, 65), repeated[float32](1, 256), repeated(nan, 65)}
	for _, bad := range outside() {
		lists = append(lists, []float32{bad}, []float32{bad, 0.5}, []float32{0.5, bad}, []float32{0, bad, 1}, append(repeated[float32](0.5, 63), bad), append([]float32{bad}, repeated[float32](0.5, 63)...))
	}
	for _, list := range lists {
		many, ok := impl.PlainMany(list)
		wantFailure(t, fmt.Sprint("PlainMany ", list), many, ok)
		many, ok = impl.HolmMany(list)
		wantFailure(t, fmt.Sprint("HolmMany ", list), many, ok)
		many, ok = impl.StepMany(list)
		wantFailure(t, fmt.Sprint("StepMany ", list), many, ok)
	}
}

// quotientLog is the logarithm of a quotient, infinite where this is too great, or 0.
func quotientLog(a, b float32) float32 {
	quotient := shortOver(a, b)
	if quotient > most {
		return inf
	}
	return shortLog(quotient)
}

func ratioReference(bits []bool, low, high float32) ([]float32, bool) {
	walk, finite, at := []float32{}, true, float32(0)
	up, down := quotientLog(high, low), quotientLog(shortLess(1, high), shortLess(1, low))
	for _, bit := range bits {
		if bit {
			at = shortPlus(at, up)
		} else {
			at = shortPlus(at, down)
		}
		walk, finite = append(walk, at), finite && isFinite(at)
	}
	return walk, finite
}

func listsOfBits() [][]bool {
	lists := [][]bool{{true}, {false}, {true, true}, {true, false}, {false, true}, {false, false}, {false, false, true}, {true, false, true, true, false}, repeated(true, 5), repeated(false, 5), repeated(true, 256), repeated(false, 256), append(repeated(false, 255), true), append(repeated(true, 255), false)}
	d := drawnBits(152)
	for _, n := range []int{3, 7, 16, 40, 100, 255, 256} {
		for _, rare := range []uint32{2, 5} {
			list := []bool{}
			for range n {
				list = append(list, d.next()%rare == 0)
			}
			lists = append(lists, list)
		}
	}
	return lists
}

func badBits() [][]bool {
	return [][]bool{nil, {}, repeated(true, 257), repeated(false, 257), repeated(true, 1000)}
}

// insideOne has numbers greater than 0 and less than 1.
func insideOne() []float32 {
	return []float32{0.5, 0.25, 0.75, 0.1, 0.9, 0.3, 0.01, 1e-6, 1 - 0x1p-24, 1 - 0x1p-23, 0x1p-24, 0x1p-25, leastNormal, least, 3 * least, 1e-39, 2e-39, 0x1p-127}
}

func TestRatioWalk(t *testing.T) {
	results := map[bool]int{}
	for _, bits := range listsOfBits() {
		for _, low := range insideOne() {
			for _, high := range insideOne() {
				if len(bits) > 50 && low < 0.2 && high < 0.2 {
					continue
				}
				want, can := ratioReference(bits, low, high)
				results[can]++
				if !can {
					want = nil
				}
				walk, ok := impl.RatioWalk(bits, low, high)
				if ok != can || !sameNumbers(walk, want) {
					t.Errorf("RatioWalk %v %v %v: got %v, %v, want %v, %v", bits, low, high, walk, ok, want, can)
				}
			}
		}
	}
	wantSame(t, "some succeed, some fail", results[true] > 1000 && results[false] > 10, true)
	walk, _ := impl.RatioWalk([]bool{true, false}, 0.5, 0.5)
	wantNumbers(t, "RatioWalk of equal chances", walk, []float32{0, 0})
	walk, _ = impl.RatioWalk([]bool{true, true, false}, 0.25, 0.5)
	up, down := shortLog(2), shortLog(shortOver(0.5, 0.75))
	wantNumbers(t, "RatioWalk", walk, []float32{up, shortPlus(up, up), shortPlus(shortPlus(up, up), down)})
	// The quotient of both is too great, or 0, but it is not taken for false.
	for _, c := range [][2]float32{{least, 0.5}, {1e-39, 0.9}} {
		walk, ok := impl.RatioWalk([]bool{false, false}, c[0], c[1])
		miss := shortLog(shortLess(1, c[1]))
		wantNumbers(t, fmt.Sprint("RatioWalk of false alone ", c), walk, []float32{miss, shortPlus(miss, miss)})
		wantSame(t, "RatioWalk of false alone succeeds", ok, true)
		for _, bits := range [][]bool{{true}, {false, true}, {true, false}, append(repeated(false, 255), true)} {
			walk, ok = impl.RatioWalk(bits, c[0], c[1])
			wantFailure(t, fmt.Sprint("RatioWalk ", bits, c), walk, ok)
		}
	}
}

// outsideOne has no numbers greater than 0 and less than 1.
func outsideOne() []float32 {
	return append(outside(), 0, minusZero, 1)
}

func TestRatioWalkAndRatioStopFail(t *testing.T) {
	fails := func(bits []bool, low, high, left, right float32) {
		t.Helper()
		index, side, ok := impl.RatioStop(bits, low, high, left, right)
		wantFailure(t, fmt.Sprint("RatioStop ", bits, low, high, left, right), index, side, ok)
	}
	for _, bits := range listsOfBits()[:10] {
		for _, bad := range outsideOne() {
			for _, good := range []float32{0.5, 0.25, bad} {
				walk, ok := impl.RatioWalk(bits, bad, good)
				wantFailure(t, fmt.Sprint("RatioWalk ", bits, bad, good), walk, ok)
				walk, ok = impl.RatioWalk(bits, good, bad)
				wantFailure(t, fmt.Sprint("RatioWalk ", bits, good, bad), walk, ok)
				fails(bits, bad, good, -1, 1)
				fails(bits, good, bad, -1, 1)
			}
		}
		for _, odd := range oddFloats() {
			fails(bits, 0.25, 0.5, odd, 1)
			fails(bits, 0.25, 0.5, -1, odd)
			fails(bits, 0.25, 0.5, odd, odd)
		}
		for _, c := range [][2]float32{{1, 1}, {1, -1}, {0, 0}, {0, minusZero}, {minusZero, 0}, {least, 0}, {0, -least}, {most, -most}, {2, 1}, {-1, -2}} {
			fails(bits, 0.25, 0.5, c[0], c[1])
		}
	}
	for _, bits := range badBits() {
		walk, ok := impl.RatioWalk(bits, 0.25, 0.5)
		wantFailure(t, fmt.Sprint("RatioWalk ", bits), walk, ok)
		fails(bits, 0.25, 0.5, -1, 1)
	}
	// It fails where RatioWalk does, though it would stop before.
	fails([]bool{true, true}, least, 0.5, -1, 1)
	fails([]bool{false, true}, least, 0.5, -0.1, 1)
	fails(append(repeated(false, 255), true), least, 0.5, -0.1, 1)
}

func TestRatioStop(t *testing.T) {
	bounds := []float32{-most, -100, -3, -1, -0.4054651, -0.1, -least, minusZero, 0, least, 0.1, 0.6931472, 1, 3, 100, most}
	sides := map[int64]int{}
	for i, bits := range listsOfBits() {
		for k, low := range insideOne()[:9] {
			for m, high := range insideOne()[:9] {
				if len(bits) > 50 && (i+k+m)%9 > 0 {
					continue
				}
				walk, _ := ratioReference(bits, low, high)
				for l, left := range bounds {
					for _, right := range bounds[l+1:] {
						if !(left < right) {
							continue
						}
						wantIndex, wantSide := int64(len(bits)), int64(0)
						for n := len(walk) - 1; n >= 0; n-- {
							if walk[n] >= right {
								wantIndex, wantSide = int64(n), 1
							} else if walk[n] <= left {
								wantIndex, wantSide = int64(n), -1
							}
						}
						sides[wantSide]++
						index, side, ok := impl.RatioStop(bits, low, high, left, right)
						if index != wantIndex || side != wantSide || !ok {
							t.Errorf("RatioStop %v %v %v %v %v: got %v, %v, %v, want %v, %v", bits, low, high, left, right, index, side, ok, wantIndex, wantSide)
						}
					}
				}
			}
		}
	}
	wantSame(t, "walks stop on both sides, and on none", sides[-1] > 100 && sides[0] > 100 && sides[1] > 100, true)
	up, down := shortLog(2), shortLog(shortOver(0.5, 0.75))
	for _, c := range []struct {
		bits        []bool
		left, right float32
		index, side int64
	}{
		{[]bool{true, true}, -1, 1, 1, 1}, {[]bool{true, true}, -1, up, 0, 1}, {[]bool{true, true}, -1, math.Nextafter32(up, 1), 1, 1}, {[]bool{false, true}, down, 1, 0, -1}, {[]bool{false, true}, math.Nextafter32(down, -1), 1, 2, 0}, {[]bool{true}, 0.5, 3, 1, 0}, {[]bool{true}, up, 3, 0, -1}, {[]bool{true}, 1, 3, 0, -1}, {[]bool{false}, -1, -0.5, 0, 1}, {repeated(true, 256), -1, 1000, 256, 0}, {append(repeated(true, 255), true), -1, 177, 255, 1}, {repeated(false, 256), -most, most, 256, 0},
	} {
		index, side, ok := impl.RatioStop(c.bits, 0.25, 0.5, c.left, c.right)
		wantSame(t, fmt.Sprint("where RatioStop stops ", c), index, c.index)
		wantSame(t, fmt.Sprint("on which side RatioStop stops ", c), side, c.side)
		wantSame(t, fmt.Sprint("RatioStop succeeds ", c), ok, true)
	}
	index, side, ok := impl.RatioStop([]bool{true, false}, 0.5, 0.5, -1, 0)
	wantSame(t, "a walk that stays at 0 is at once at least 0", fmt.Sprint(index, side, ok), "0 1 true")
	index, side, ok = impl.RatioStop([]bool{true, false}, 0.5, 0.5, minusZero, 1)
	wantSame(t, "a walk that stays at 0 is at once at most -0", fmt.Sprint(index, side, ok), "0 -1 true")
}

func wealthReference(bits []bool, share, stake float32) ([]float32, bool) {
	list, finite, w := []float32{}, true, float32(1)
	for _, bit := range bits {
		if bit {
			w = shortTimes(w, shortPlus(1, shortTimes(stake, shortLess(1, share))))
		} else {
			w = shortTimes(w, shortLess(1, shortTimes(stake, share)))
		}
		list, finite = append(list, w), finite && isFinite(w)
	}
	return list, finite
}

func TestBetWealth(t *testing.T) {
	shares := []float32{0, minusZero, least, 0.1, 0.25, 1.0 / 3, 0.5, 0.7, 1 - 0x1p-24, 1}
	results := map[bool]int{}
	for _, bits := range listsOfBits() {
		for _, share := range shares {
			for _, stake := range shares {
				want, can := wealthReference(bits, share, stake)
				results[can]++
				if !can {
					want = nil
				}
				list, ok := impl.BetWealth(bits, share, stake)
				if ok != can || !sameNumbers(list, want) {
					t.Errorf("BetWealth %v %v %v: got %v, %v, want %v, %v", bits, share, stake, list, ok, want, can)
				}
			}
		}
	}
	wantSame(t, "some succeed, some become too great", results[true] > 1000 && results[false] >= 3, true)
	for _, c := range []struct {
		bits         []bool
		share, stake float32
		want         []float32
	}{
		{[]bool{true, false}, 0.5, 1, []float32{1.5, 0.75}}, {[]bool{true, false, true}, 0, 1, []float32{2, 2, 4}}, {[]bool{true, false, true}, 1, 1, []float32{1, 0, 0}}, {[]bool{false, true}, 1, 1, []float32{0, 0}}, {[]bool{true, false}, 0.3, 0, []float32{1, 1}}, {[]bool{true, false}, 0.25, 0.5, []float32{1.375, 1.203125}}, {[]bool{false}, 0.5, 0.5, []float32{0.75}},
	} {
		list, _ := impl.BetWealth(c.bits, c.share, c.stake)
		wantNumbers(t, fmt.Sprint("BetWealth ", c), list, c.want)
	}
	list, ok := impl.BetWealth(repeated(true, 127), 0, 1)
	wantNumber(t, "the greatest power of 2", list[126], 0x1p127)
	wantSame(t, "BetWealth succeeds", ok, true)
	list, ok = impl.BetWealth(repeated(true, 128), 0, 1)
	wantFailure(t, "BetWealth that becomes too great", list, ok)
	list, ok = impl.BetWealth(append(repeated(true, 128), repeated(false, 128)...), least, 1)
	wantFailure(t, "BetWealth that is too great on the way", list, ok)
	list, ok = impl.BetWealth(append(append(repeated(true, 4), false), repeated(true, 251)...), 1, 1)
	wantNumbers(t, "BetWealth that has lost all", list, append([]float32{1, 1, 1, 1}, make([]float32, 252)...))
	wantSame(t, "BetWealth succeeds", ok, true)
}

func TestBetWealthFails(t *testing.T) {
	for _, bits := range append(listsOfBits()[:8], badBits()...) {
		for _, bad := range outside() {
			for _, good := range []float32{0, 0.5, 1, bad} {
				list, ok := impl.BetWealth(bits, bad, good)
				wantFailure(t, fmt.Sprint("BetWealth ", bits, bad, good), list, ok)
				list, ok = impl.BetWealth(bits, good, bad)
				wantFailure(t, fmt.Sprint("BetWealth ", bits, good, bad), list, ok)
			}
		}
	}
	for _, bits := range badBits() {
		for _, share := range []float32{0, 0.5, 1} {
			list, ok := impl.BetWealth(bits, share, share)
			wantFailure(t, fmt.Sprint("BetWealth ", bits, share), list, ok)
		}
	}
}
