package tests

import (
	"fmt"
	"math"
	"slices"
	"testing"

	"loop.example/g01339/impl"
)

func shareOf(values []float32, chances ...float32) impl.Share {
	return impl.Share{Values: values, Chances: chances}
}

// The chances nearest to 1.001 and to 0.999 that can stand alone.
const (
	mostAlone  = float32(1 + 8388*0x1p-23)
	leastAlone = float32(1 - 16777*0x1p-24)
)

func isNearOne(sum float32) bool { return math.Abs(float64(shortLess(sum, 1))) <= 0.001 }

// isShare reads the rules for shares.
func isShare(s impl.Share) bool {
	n := len(s.Values)
	if n < 1 || n > 64 || len(s.Chances) != n || !isNearOne(sumOfWeights(s.Chances)) {
		return false
	}
	for i, value := range s.Values {
		chance := s.Chances[i]
		if !isFinite(value) || !isFinite(chance) || chance < 0 || i > 0 && !(s.Values[i-1] < value) {
			return false
		}
	}
	return true
}

// entry is a value with its chance.
type entry struct{ value, chance float32 }

func entriesOf(s impl.Share) []entry {
	var list []entry
	for i, value := range s.Values {
		list = append(list, entry{value, s.Chances[i]})
	}
	return list
}

// gatherReference puts all entries in order first, and reports whether this brings a share.
func gatherReference(list []entry) (impl.Share, bool) {
	sorted := slices.Clone(list)
	slices.SortStableFunc(sorted, func(a, b entry) int {
		switch {
		case a.value < b.value:
			return -1
		case a.value > b.value:
			return 1
		}
		return 0
	})
	var s impl.Share
	for i, e := range sorted {
		if i == 0 || e.value > sorted[i-1].value {
			s.Values, s.Chances = append(s.Values, e.value), append(s.Chances, 0)
		}
		last := len(s.Chances) - 1
		s.Chances[last] = shortPlus(s.Chances[last], e.chance)
	}
	return s, isShare(s)
}

// call tells which call it is, and is made a text only where its result is wrong.
type call []any

func (c call) String() string { return fmt.Sprint([]any(c)...) }

func sameNumbers(a, b []float32) bool {
	return slices.EqualFunc(a, b, func(x, y float32) bool { return bitsOf(x) == bitsOf(y) })
}

// wantShare takes the share that is wanted, and whether there is one.
func wantShare(t *testing.T, what call, got impl.Share, ok bool, want impl.Share, can bool) {
	t.Helper()
	if !can {
		want = impl.Share{}
	}
	if ok != can || !sameNumbers(got.Values, want.Values) || !sameNumbers(got.Chances, want.Chances) {
		t.Errorf("%v: got %v, %v, want %v, %v", what, got, ok, want, can)
	}
}

// wantTold takes the number that is wanted, which must be finite for a success.
func wantTold(t *testing.T, what call, got float32, ok bool, want float32) {
	t.Helper()
	can := isFinite(want)
	if !can {
		want = 0
	}
	if ok != can || bitsOf(got) != bitsOf(want) {
		t.Errorf("%v: got %v (%08x), %v, want %v (%08x), %v", what, got, bitsOf(got), ok, want, bitsOf(want), can)
	}
}

// wholes has the numbers from 0 on.
func wholes(n int) []float32 {
	list := []float32{}
	for i := range n {
		list = append(list, float32(i))
	}
	return list
}

// drawnChances returns n numbers that add up to the given sum, nearly.
func drawnChances(d *drawnBits, n int, sum float64) []float32 {
	list, all := make([]float32, n), 0.0
	for i := range list {
		if d.next()%4 > 0 {
			list[i] = float32(d.next()%1000 + 1)
		}
		all += float64(list[i])
	}
	if all == 0 {
		list[0], all = 1, 1
	}
	for i := range list {
		list[i] = float32(float64(list[i]) / all * sum)
	}
	return list
}

// drawnValues returns n different numbers in ascending order.
func drawnValues(d *drawnBits, n int, kind int) []float32 {
	var list []float32
	for len(list) < n {
		x := float32(int(d.next()%90) - 40)
		switch kind {
		case 1:
			x = shortTimes(x, 0.25)
		case 2:
			x = math.Float32frombits(d.next())
		case 3:
			x = (float32(d.next())/0x1p32 - 0.5) * 5
		}
		if isFinite(x) && !slices.Contains(list, x) {
			list = append(list, x)
		}
	}
	slices.Sort(list)
	return list
}

// goodShares has valid ones, with some of each length.
func goodShares() []impl.Share {
	tiny := float32(0x1p-24 - 0x1p-40)
	list := []impl.Share{
		shareOf([]float32{0}, 1), shareOf([]float32{minusZero}, 1), shareOf([]float32{least}, 1), shareOf([]float32{most}, 1), shareOf([]float32{-most}, 1), shareOf([]float32{5}, mostAlone), shareOf([]float32{5}, leastAlone), shareOf([]float32{most}, mostAlone),
		shareOf([]float32{0, 1}, 0.5, 0.5), shareOf([]float32{0, 1}, 0, 1), shareOf([]float32{0, 1}, 1, 0), shareOf([]float32{minusZero, 1}, minusZero, 1), shareOf([]float32{0, 1}, 1, minusZero), shareOf([]float32{-1, minusZero}, 0.25, 0.75),
		shareOf([]float32{-least, 0, least}, 0.25, 0.5, 0.25), shareOf([]float32{-least, least}, 0.5, 0.5), shareOf([]float32{-most, most}, 0.5, 0.5), shareOf([]float32{-most, most}, 1, 0), shareOf([]float32{-most, 0, most}, 0, 1, 0), shareOf([]float32{-1e20, 1e20}, 0.5, 0.5),
		shareOf([]float32{1, 2, 3}, 0.25, minusZero, 0.75), shareOf([]float32{1, 2, 3}, 0, 0, 1), shareOf([]float32{1, 2, 3}, least, 1, least), shareOf([]float32{1, 2, 3}, 1, least, leastNormal), shareOf([]float32{1, afterOne}, 0.5, 0.5),
		// The sum of these is too far from 1 if it begins with the last one.
		shareOf([]float32{1, 2, 3}, mostAlone, tiny, tiny), shareOf([]float32{-2, 0, 3, 4}, mostAlone, tiny/2, tiny/2, tiny/2),
		shareOf([]float32{1, 2}, leastAlone-0.5, 0.5), shareOf([]float32{1, 2}, mostAlone-0.5, 0.5), shareOf([]float32{-3, 4}, 0.50025, 0.50025), shareOf([]float32{-3, 4}, 0.49975, 0.49975),
		shareOf(wholes(64), repeated[float32](0x1p-6, 64)...), shareOf(wholes(64), append(repeated[float32](0, 63), 1)...), shareOf(wholes(63), append([]float32{1}, repeated[float32](0, 62)...)...), shareOf(wholes(5), 0.2, 0.2, 0.2, 0.2, 0.2),
	}
	d := drawnBits(101)
	for n := 1; n <= 64; n++ {
		if n > 12 && n < 60 && n%8 != 0 {
			continue
		}
		for kind := range 4 {
			for _, sum := range []float64{1, 1, 1.00095, 0.99905, 1.00045, 0.99955} {
				if s := shareOf(drawnValues(&d, n, kind), drawnChances(&d, n, sum)...); isShare(s) {
					list = append(list, s)
				}
			}
		}
	}
	return list
}

func badShares() []impl.Share {
	list := []impl.Share{
		{}, {Values: []float32{}, Chances: []float32{}}, {Values: []float32{1}}, {Chances: []float32{1}}, shareOf([]float32{1, 2}, 1), shareOf([]float32{1}, 1, 0), shareOf([]float32{1}, 0.5, 0.5), shareOf([]float32{1, 2, 3}, 0.5, 0.5),
		shareOf([]float32{1, 1}, 0.5, 0.5), shareOf([]float32{2, 1}, 0.5, 0.5), shareOf([]float32{0, minusZero}, 0.5, 0.5), shareOf([]float32{minusZero, 0}, 0.5, 0.5), shareOf([]float32{1, 2, 2}, 0.5, 0.5, 0), shareOf([]float32{1, 3, 2}, 0.5, 0.5, 0), shareOf([]float32{2, 1, 3}, 0.5, 0.5, 0),
		shareOf([]float32{0}, 0), shareOf([]float32{0}, minusZero), shareOf([]float32{0}, 0.5), shareOf([]float32{0}, 2), shareOf([]float32{0}, -1), shareOf([]float32{0}, mostAlone+0x1p-23), shareOf([]float32{0}, leastAlone-0x1p-24), shareOf([]float32{0}, 1.0011), shareOf([]float32{0}, 0.9989),
		shareOf([]float32{0, 1}, 0.5, 0.502), shareOf([]float32{0, 1}, 0.5, 0.498), shareOf([]float32{0, 1}, 1, -least), shareOf([]float32{0, 1}, -least, 1), shareOf([]float32{0, 1}, 2, -1), shareOf([]float32{0, 1}, -1, 2), shareOf([]float32{0, 1}, most, most), shareOf([]float32{0, 1}, 0, 0),
		shareOf(wholes(65), repeated[float32](1.0/65, 65)...), shareOf(wholes(65), append([]float32{1}, repeated[float32](0, 64)...)...), shareOf(wholes(257), append([]float32{1}, repeated[float32](0, 256)...)...), shareOf(wholes(64), repeated[float32](0x1p-5, 64)...), shareOf(wholes(64), repeated[float32](0x1p-6, 63)...),
	}
	for _, odd := range oddFloats() {
		list = append(list, shareOf([]float32{odd}, 1), shareOf([]float32{odd, 1}, 0.5, 0.5), shareOf([]float32{1, odd}, 0.5, 0.5), shareOf([]float32{1, odd, 3}, 0.5, 0.5, 0), shareOf([]float32{1, 2, odd}, 0.5, 0.5, 0),
			shareOf([]float32{1}, odd), shareOf([]float32{1, 2}, 1, odd), shareOf([]float32{1, 2}, odd, 1), shareOf([]float32{1, 2, 3}, 0.5, odd, 0.5))
	}
	return append(list, shareOf([]float32{1, 2}, inf, -inf), shareOf([]float32{-inf, inf}, 0.5, 0.5))
}

func TestSharesOfTheTestsAreSuch(t *testing.T) {
	for _, s := range goodShares() {
		wantSame(t, fmt.Sprint("a good share ", s), isShare(s), true)
	}
	for _, s := range badShares() {
		wantSame(t, fmt.Sprint("a bad share ", s), isShare(s), false)
	}
}

// wantNoShare takes a share that is not valid.
func wantNoShare(t *testing.T, s impl.Share) {
	t.Helper()
	number := func(name string) func(x float32, ok bool) {
		return func(x float32, ok bool) { t.Helper(); wantFailure(t, fmt.Sprint(name, s), x, ok) }
	}
	share := func(name string) func(x impl.Share, ok bool) {
		return func(x impl.Share, ok bool) { t.Helper(); wantFailure(t, fmt.Sprint(name, s), x, ok) }
	}
	good := shareOf([]float32{0, 1}, 0.5, 0.5)
	number("MeanOfShare ")(impl.MeanOfShare(s))
	number("MomentOf 0 ")(impl.MomentOf(s, 0))
	number("MomentOf 2 ")(impl.MomentOf(s, 2))
	number("ChanceBelow ")(impl.ChanceBelow(s, 1))
	number("QuantileOf ")(impl.QuantileOf(s, 0.5))
	number("EntropyOf ")(impl.EntropyOf(s))
	number("ApartShares ")(impl.ApartShares(s, good))
	number("ApartShares of a good one and ")(impl.ApartShares(good, s))
	number("StepsApart ")(impl.StepsApart(s, good))
	number("StepsApart of a good one and ")(impl.StepsApart(good, s))
	share("ShiftShare ")(impl.ShiftShare(s, 1, 0))
	share("AddShares ")(impl.AddShares(s, good))
	share("AddShares of a good one and ")(impl.AddShares(good, s))
	share("SumShare 1 ")(impl.SumShare(s, 1))
	share("SumShare 2 ")(impl.SumShare(s, 2))
	share("GreaterShare ")(impl.GreaterShare(s, good))
	share("GreaterShare of a good one and ")(impl.GreaterShare(good, s))
	for _, part := range []float32{0, 0.5, 1} {
		share("MixShares ")(impl.MixShares(s, good, part))
		share("MixShares of a good one and ")(impl.MixShares(good, s, part))
	}
	share("GivenAbove ")(impl.GivenAbove(s, 0))
	end, x, ok := impl.SeedShare(impl.Seed{Kind: impl.SeedCount}, s)
	wantFailure(t, fmt.Sprint("SeedShare ", s), end, x, ok)
}

func TestBadSharesFail(t *testing.T) {
	for _, s := range badShares() {
		wantSame(t, fmt.Sprint("ValidShare ", s), impl.ValidShare(s), false)
		wantNoShare(t, s)
	}
}
