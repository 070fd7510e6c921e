package tests

import (
	"fmt"
	"math"
	"testing"

	"loop.example/g01339/impl"
)

func chainWith(side int64, steps ...float32) impl.Chain {
	return impl.Chain{Side: side, Steps: steps}
}

// stepOf tells a Step by the states from and to which it leads.
func stepOf(c impl.Chain, i, k int64) float32 { return c.Steps[i*c.Side+k] }

// isChain reads the rules for chains.
func isChain(c impl.Chain) bool {
	if c.Side < 1 || c.Side > 12 || len(c.Steps) != int(c.Side*c.Side) {
		return false
	}
	for i := range c.Side {
		sum := float32(0)
		for k := range c.Side {
			step := stepOf(c, i, k)
			if !(step >= 0 && step <= 1) {
				return false
			}
			sum = shortPlus(sum, step)
		}
		if !isNearOne(sum) {
			return false
		}
	}
	return true
}

// chainReference has the steps that are told.
func chainReference(side int64, step func(i, k int64) float32) impl.Chain {
	c := impl.Chain{Side: side}
	for i := range side {
		for k := range side {
			c.Steps = append(c.Steps, step(i, k))
		}
	}
	return c
}

// sameRows has a chain that goes on in the same way from each state.
func sameRows(row ...float32) impl.Chain {
	return chainReference(int64(len(row)), func(_, k int64) float32 { return row[k] })
}

// stays has a chain of which no state is ever left.
func stays(side int64) impl.Chain {
	return chainReference(side, func(i, k int64) float32 {
		if i == k {
			return 1
		}
		return 0
	})
}

// turns has a chain that goes from each state to the next one, and from the last one to 0.
func turns(side int64) impl.Chain {
	return chainReference(side, func(i, k int64) float32 {
		if (i+1)%side == k {
			return 1
		}
		return 0
	})
}

// A number that is lost when it is added to 1, though two of them are not.
const lost = float32(0x1p-24 - 0x1p-40)

// oddChains has valid ones at the ends of what is valid.
func oddChains() []impl.Chain {
	return []impl.Chain{
		chainWith(1, 1), chainWith(1, leastAlone), stays(2), turns(2), stays(12), turns(12), turns(3), stays(3),
		chainWith(2, 0.5, 0.5, 0.5, 0.5), chainWith(2, 1, 0, 1, 0), chainWith(2, 0, 1, 0, 1), chainWith(2, minusZero, 1, 1, minusZero), chainWith(2, 1, minusZero, 0.25, 0.75), chainWith(2, 0.25, 0.75, 0, 1),
		chainWith(2, 1, mostAlone-1, mostAlone-0.5, 0.5), chainWith(2, leastAlone, 0, 0.5, leastAlone-0.5), chainWith(2, 0.5, mostAlone-0.5, 0, 1), chainWith(2, 1, least, least, 1), chainWith(2, 1, lost, lost, 1), chainWith(2, 0.999, 0.001, 0.001, 0.999),
		// The sum of these is too far from 1 if it begins with the last one.
		sameRows(1, mostAlone-1, lost, lost), sameRows(1, mostAlone-1, lost/2, lost/2, lost/2), sameRows(0, 1, mostAlone-1, lost, lost, 0),
		sameRows(1, 1e-20, 1e-20), sameRows(0.2, 0.2, 0.2, 0.2, 0.2), sameRows(repeated[float32](1.0/12, 12)...), sameRows(0, 0, 0, 1), sameRows(leastNormal, 1, leastNormal), sameRows(0.5, leastAlone-0.5, 0), sameRows(0.5, leastAlone-0.5, minusZero),
		// One goes from state 1 to state 2 so seldom, and back, that the product is subnormal.
		chainWith(3, 1, 0, 0, 1, 0, 1e-20, 0, 1e-20, 1), chainWith(3, 1, 0, 0, 1, 0, 1e-23, 0, 1e-23, 1),
		chainWith(3, 1, 0, 0, 0.1, 0.9, 0, 0, 1, 0), chainWith(3, 0, 1, 0, 0, 0, 1, 0, 0, 1), chainWith(3, 0.5, 0.5, 0, 0.5, 0, 0.5, 0, 0.5, 0.5), chainWith(3, 0, 0.5, 0.5, 0, 1, 0, 0, 0, 1), chainWith(3, 0.25, 0.25, 0.5, 0.5, 0.25, 0.25, 0.25, 0.5, 0.25),
		chainWith(4, 0, 1, 0, 0, 1, 0, 0, 0, 0, 0, 0, 1, 0, 0, 1, 0), chainWith(4, 0, 1, 0, 0, 1, 0, 0, 0, 0.5, 0, 0, 0.5, 0, 0, 1, 0), chainWith(4, 0, 1, 0, 0, 0, 0, 1, 0, 0.5, 0, 0, 0.5, 0, 0, 0, 1),
	}
}

// drawnChain returns a valid chain of a kind, whose rows have the given sum, nearly.
func drawnChain(d *drawnBits, side int64, kind int, sum float64) impl.Chain {
	weight := func(i, k int64) float64 {
		x := float64(d.next()%1000+1) / 1000
		block := d.next()
		switch kind {
		case 1: // many zeros
			return math.Floor(x * float64(block%3))
		case 2: // steps to both sides
			if gap := (k - i + side) % side; gap > 1 && gap < side-1 {
				return 0
			}
		case 3: // one step
			if (i*i+k)%side > 0 {
				return 0
			}
		case 4: // small and great ones
			return math.Exp(-60 * x)
		case 5: // groups that are left
			if k < i/3*3 || k >= i/3*3+3 && block%4 > 0 {
				return 0
			}
		}
		return x
	}
	for {
		c := impl.Chain{Side: side}
		for i := range side {
			row, all := make([]float64, side), 0.0
			for k := range row {
				row[k] = weight(i, int64(k))
				all += row[k]
			}
			if all == 0 {
				row[i], all = 1, 1
			}
			for _, x := range row {
				c.Steps = append(c.Steps, min(float32(x/all*sum), 1))
			}
		}
		if isChain(c) {
			return c
		}
		sum = 1
	}
}

// goodChains has valid ones, with some of each Side.
func goodChains() []impl.Chain {
	list := oddChains()
	d := drawnBits(151)
	for side := int64(1); side <= 12; side++ {
		for kind := range 6 {
			for _, sum := range []float64{1, 1, 1.00095, 0.99905} {
				list = append(list, drawnChain(&d, side, kind, sum))
			}
		}
	}
	return list
}

func badChains() []impl.Chain {
	list := []impl.Chain{
		{}, {Side: 1}, {Steps: []float32{1}}, {Side: 2}, {Side: -1, Steps: []float32{1}}, {Side: -2, Steps: []float32{0, 1, 1, 0}}, {Side: wordsEnd}, {Side: -wordsEnd}, {Side: wordsEnd + 1, Steps: []float32{1}}, {Side: wordsEnd + 2, Steps: []float32{0, 1, 1, 0}}, {Side: math.MaxInt64, Steps: []float32{1}}, {Side: math.MinInt64}, {Side: math.MinInt64 + 1, Steps: []float32{1}}, {Side: 1 << 31},
		stays(13), turns(13), sameRows(repeated[float32](1.0/13, 13)...), sameRows(repeated[float32](0x1p-4, 16)...), stays(64),
		chainWith(1, 1, 0), chainWith(2, 0, 1, 1), chainWith(2, 0, 1, 1, 0, 0), chainWith(3, 0, 1, 1, 0), chainWith(2, 1), chainWith(1, 0, 1, 1, 0), chainWith(4, 0, 1, 1, 0),
		chainWith(1, 0), chainWith(1, minusZero), chainWith(1, 0.5), chainWith(1, 2), chainWith(1, -1), chainWith(1, afterOne), chainWith(1, mostAlone), chainWith(1, leastAlone-0x1p-24),
		chainWith(2, 1, mostAlone-1+0x1p-23, 0, 1), chainWith(2, 0, 1, 1, mostAlone-1+0x1p-23), chainWith(2, 0.5, leastAlone-0.5-0x1p-24, 0, 1), chainWith(2, 0, 1, leastAlone-0x1p-24, 0), chainWith(2, 0.5, 0.502, 0.5, 0.5), chainWith(2, 0.5, 0.5, 0.5, 0.498), chainWith(2, 1, 0, 0, 0), chainWith(2, 0, 0, 0, 1),
		chainWith(2, 1, -least, 0, 1), chainWith(2, 0, 1, 1, -least), chainWith(2, -least, 1, 0, 1), chainWith(2, 2, -1, 0, 1), chainWith(2, 0, 1, -1, 2), chainWith(2, afterOne, 0, 0, 1), chainWith(2, 1, 0, 0, afterOne), chainWith(2, 1, 1, 0, 0), chainWith(2, 0.5, 0.5, 1, 1), chainWith(2, 1.5, 0.5, 0.5, -0.5),
		// The sum of these is near 1 only if it begins with the first one.
		sameRows(lost, lost, mostAlone-1, 1), sameRows(0, 0, 0),
	}
	for _, odd := range append(oddFloats(), most, -most) {
		list = append(list, chainWith(1, odd), chainWith(2, odd, 1, 0, 1), chainWith(2, 1, odd, 0, 1), chainWith(2, 0, 1, odd, 1), chainWith(2, 0, 1, 1, odd), chainWith(3, 1, 0, 0, 0, odd, 1, 0, 0, 1))
	}
	return append(list, chainWith(2, 0, 1, inf, -inf))
}

func TestChainsOfTheTestsAreSuch(t *testing.T) {
	for _, c := range goodChains() {
		wantSame(t, fmt.Sprint("a good chain ", c), isChain(c), true)
	}
	for _, c := range badChains() {
		wantSame(t, fmt.Sprint("a bad chain ", c), isChain(c), false)
	}
}

// wantChain takes the chain that is wanted, which must be valid for a success.
func wantChain(t *testing.T, what call, got impl.Chain, ok bool, want impl.Chain) {
	t.Helper()
	can := isChain(want)
	if !can {
		want = impl.Chain{}
	}
	if ok != can || got.Side != want.Side || !sameNumbers(got.Steps, want.Steps) {
		t.Errorf("%v: got %v, %v, want %v, %v", what, got, ok, want, can)
	}
}

// wantToldList takes the numbers that are wanted, which must be there, and finite, for a success.
func wantToldList(t *testing.T, what call, got []float32, ok bool, want []float32) {
	t.Helper()
	can := len(want) > 0
	for _, x := range want {
		can = can && isFinite(x)
	}
	if !can {
		want = nil
	}
	if ok != can || !sameNumbers(got, want) {
		t.Errorf("%v: got %v, %v, want %v, %v", what, got, ok, want, can)
	}
}

// rowsOf has rows of n numbers.
func rowsOf(d *drawnBits, n int64) [][]float32 {
	list := [][]float32{repeated[float32](0, int(n)), repeated(minusZero, int(n)), repeated[float32](1, int(n)), repeated(least, int(n)), repeated(most, int(n)), repeated(most/16, int(n)), wholes(int(n)), wholes(int(n) + 1)[1:]}
	for kind := range 4 {
		row := []float32{}
		for range n {
			x := shortOver(float32(d.next()>>8), 0x1p24)
			switch kind {
			case 1:
				x = float32(math.Abs(float64(math.Float32frombits(d.next()))))
				if !isFinite(x) {
					x = most
				}
			case 2:
				x = float32(d.next() % 3)
			case 3:
				x = float32(math.Exp(float64(x)*100 - 50))
			}
			row = append(row, x)
		}
		list = append(list, row)
	}
	for i := range n {
		row := repeated[float32](0, int(n))
		row[i] = 1
		list = append(list, row)
	}
	return list
}

// badRows has lists that are no rows of n numbers.
func badRows(n int64) [][]float32 {
	list := [][]float32{nil, {}, repeated[float32](1, int(n)+1), repeated[float32](0, int(n)-1), repeated[float32](1, 13), repeated[float32](1, 256)}
	for i := range n {
		for _, odd := range append(oddFloats(), -least, -1, -most) {
			row := repeated[float32](1, int(n))
			row[i] = odd
			list = append(list, row)
		}
	}
	return list
}

// outStates are no states of n.
func outStates(n int64) []int64 {
	return []int64{-1, n, n + 1, 12, 13, wordsEnd, wordsEnd + 1, -wordsEnd, math.MaxInt64, math.MinInt64}
}

// goReference goes on from a state.
func goReference(c impl.Chain, state int64, share float32) int64 {
	for k := range c.Side {
		upTo := c.Steps[state*c.Side : state*c.Side+k+1]
		if sumOfWeights(upTo) > share {
			return k
		}
	}
	for k := c.Side - 1; ; k-- {
		if stepOf(c, state, k) > 0 {
			return k
		}
	}
}
