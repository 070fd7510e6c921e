package tests

import (
	"fmt"
	"math"
	"slices"
	"testing"

	"loop.example/g01339/impl"
)

func TestLimitsOfChains(t *testing.T) {
	wantList(t, "the limits", []int64{impl.MaxStates, impl.MaxWalks, impl.MaxRecords}, []int64{12, 512, 8})
}

func TestValidChain(t *testing.T) {
	for _, c := range goodChains() {
		wantSame(t, fmt.Sprint("ValidChain ", c), impl.ValidChain(c), true)
	}
	for _, c := range badChains() {
		wantSame(t, fmt.Sprint("ValidChain ", c), impl.ValidChain(c), false)
	}
	// Each sum of a row, in each row, at and behind both ends.
	for side := int64(1); side <= 12; side++ {
		for i := range side {
			for _, sum := range []float32{leastAlone - 0x1p-24, leastAlone, 1, mostAlone, mostAlone + 0x1p-23} {
				c := stays(side)
				c.Steps[i*side+i] = min(sum, 1)
				if side > 1 && sum > 1 {
					c.Steps[i*side+(i+1)%side] = sum - 1
				}
				wantSame(t, fmt.Sprint("ValidChain ", c), impl.ValidChain(c), isChain(c))
			}
			for _, x := range oddNumbers() {
				c := stays(side)
				c.Steps[i*side+i] = x
				wantSame(t, fmt.Sprint("ValidChain ", c), impl.ValidChain(c), isChain(c))
			}
		}
	}
}

func TestSameChain(t *testing.T) {
	chains := append(goodChains(), badChains()...)
	for i, a := range chains {
		for k, b := range chains {
			same := a.Side == b.Side && sameNumbers(a.Steps, b.Steps)
			wantSame(t, fmt.Sprint("SameChain ", i, k), impl.SameChain(a, b), same)
			wantSame(t, "a chain and itself", same || i != k, true)
		}
	}
	wantSame(t, "other zeros", impl.SameChain(chainWith(1, 0), chainWith(1, minusZero)), false)
	wantSame(t, "not-a-numbers", impl.SameChain(chainWith(1, nan), chainWith(1, math.Float32frombits(0xffc00001))), true)
	wantSame(t, "other Sides", impl.SameChain(chainWith(1, 1), chainWith(2, 1)), false)
	wantSame(t, "no Steps", impl.SameChain(impl.Chain{}, impl.Chain{Steps: []float32{}}), true)
	wantSame(t, "more Steps", impl.SameChain(chainWith(1, 1), chainWith(1, 1, 1)), false)
	wantSame(t, "fewer Steps", impl.SameChain(chainWith(1, 1, 1), chainWith(1, 1)), false)
	wantSame(t, "another last Step", impl.SameChain(chainWith(2, 0, 1, 1, 0), chainWith(2, 0, 1, 1, least)), false)
	wantSame(t, "another first Step", impl.SameChain(chainWith(2, 0, 1, 1, 0), chainWith(2, least, 1, 1, 0)), false)
}

// ringReference writes the steps from each state to three others.
func ringReference(n int64, stay, right float32) impl.Chain {
	left := shortLess(shortLess(1, stay), right)
	if n < 3 || n > 12 || !(stay >= 0 && stay <= 1 && right >= 0 && right <= 1 && left >= 0) {
		return impl.Chain{}
	}
	c := chainWith(n, repeated[float32](0, int(n*n))...)
	for i := range n {
		c.Steps[i*n+i] = stay
		c.Steps[i*n+(i+1)%n] = right
		c.Steps[i*n+(i+n-1)%n] = left
	}
	return c
}

func TestRingChain(t *testing.T) {
	shares := append(oddNumbers(), 1-0x1p-24, 0.1, 0.2, 0.3, 0.4, 0.6, 0.7, 0.8, 0.9, 0x1p-25, 0x1p-26, -0x1p-25)
	d := drawnBits(152)
	for range 40 {
		u := shortOver(float32(d.next()>>8), 0x1p24)
		shares = append(shares, u, shortLess(1, u))
	}
	for _, n := range []int64{3, 4, 5, 6, 7, 8, 9, 10, 11, 12, 2, 1, 0, -1, -3, 13, 14, wordsEnd + 3, math.MaxInt64, math.MinInt64} {
		for _, stay := range shares {
			for _, right := range shares {
				got, ok := impl.RingChain(n, stay, right)
				wantChain(t, call{"RingChain ", n, stay, right}, got, ok, ringReference(n, stay, right))
			}
		}
	}
	c, ok := impl.RingChain(3, 0.25, 0.5)
	wantChain(t, call{"RingChain of 3"}, c, ok, chainWith(3, 0.25, 0.5, 0.25, 0.25, 0.25, 0.5, 0.5, 0.25, 0.25))
	c, ok = impl.RingChain(4, 0, 1)
	wantChain(t, call{"RingChain that goes right"}, c, ok, turns(4))
	c, ok = impl.RingChain(12, 1, 0)
	wantChain(t, call{"RingChain that stays"}, c, ok, stays(12))
	c, ok = impl.RingChain(4, 0, 0)
	wantChain(t, call{"RingChain that goes left"}, c, ok, chainWith(4, 0, 0, 0, 1, 1, 0, 0, 0, 0, 1, 0, 0, 0, 0, 1, 0))
}

func TestIsRow(t *testing.T) {
	d := drawnBits(153)
	for n := int64(1); n <= 12; n++ {
		for _, row := range rowsOf(&d, n) {
			wantSame(t, fmt.Sprint("IsRow ", row), impl.IsRow(row), true)
		}
		for _, row := range badRows(n) {
			can := len(row) > 0 && len(row) < 13 && !slices.ContainsFunc(row, func(x float32) bool { return !isFinite(x) || x < 0 })
			wantSame(t, fmt.Sprint("IsRow ", row), impl.IsRow(row), can)
		}
	}
	for _, x := range oddNumbers() {
		wantSame(t, fmt.Sprint("IsRow of ", x), impl.IsRow([]float32{x}), isFinite(x) && x >= 0)
	}
	wantSame(t, "IsRow of 12", impl.IsRow(wholes(12)), true)
	wantSame(t, "IsRow of 13", impl.IsRow(wholes(13)), false)
	wantSame(t, "IsRow of none", impl.IsRow(nil) || impl.IsRow([]float32{}), false)
}

// stepRowReference brings what each state has to all others, one state after another.
func stepRowReference(c impl.Chain, row []float32) []float32 {
	next := repeated[float32](0, len(row))
	for i, x := range row {
		for k := range next {
			next[k] = shortPlus(next[k], shortTimes(x, stepOf(c, int64(i), int64(k))))
		}
	}
	return next
}

// runReference is nothing behind a row that is not finite.
func runReference(c impl.Chain, row []float32, steps int) []float32 {
	for range steps {
		row = stepRowReference(c, row)
		if slices.ContainsFunc(row, func(x float32) bool { return !isFinite(x) }) {
			return nil
		}
	}
	return row
}

func TestStepRowAndRunRow(t *testing.T) {
	d := drawnBits(154)
	failed := 0
	for at, c := range goodChains() {
		for i, row := range rowsOf(&d, c.Side) {
			want := runReference(c, row, 1)
			got, ok := impl.StepRow(c, row)
			wantToldList(t, call{"StepRow ", c, row}, got, ok, want)
			if !ok {
				failed++
			}
			steps := []int64{0, 1, 2, 3, 17}
			if i == at%8 {
				steps = append(steps, 511, 512)
			}
			for _, times := range steps {
				want := runReference(c, row, int(times))
				got, ok := impl.RunRow(c, row, times)
				wantToldList(t, call{"RunRow ", c, row, times}, got, ok, want)
			}
		}
	}
	wantSame(t, "rows that grow too great", failed > 10, true)
}

func TestRowsOfKnownChains(t *testing.T) {
	ring, _ := impl.RingChain(3, 0.5, 0.5)
	row, ok := impl.StepRow(ring, []float32{1, 0, 0})
	wantToldList(t, call{"one state"}, row, ok, []float32{0.5, 0.5, 0})
	row, ok = impl.RunRow(ring, []float32{1, 0, 0}, 2)
	wantToldList(t, call{"one state, twice"}, row, ok, []float32{0.25, 0.5, 0.25})
	row, ok = impl.RunRow(turns(12), wholes(12), 13)
	wantToldList(t, call{"a ring, once round"}, row, ok, append([]float32{11}, wholes(11)...))
	row, ok = impl.RunRow(stays(2), []float32{minusZero, 1}, 0)
	wantToldList(t, call{"no step"}, row, ok, []float32{minusZero, 1})
	row, ok = impl.RunRow(stays(2), []float32{minusZero, 1}, 1)
	wantToldList(t, call{"a step begins with +0"}, row, ok, []float32{0, 1})
	row, ok = impl.StepRow(sameRows(0.5, 0.5), []float32{most, most})
	wantToldList(t, call{"the greatest numbers"}, row, ok, []float32{most, most})
	row, ok = impl.StepRow(chainWith(2, 1, 0, 1, 0), []float32{most, most})
	wantToldList(t, call{"too great numbers"}, row, ok, nil)
	// It grows too great in the second step, and one never comes back to it.
	for _, c := range []impl.Chain{chainWith(3, 0, 1, 0, 0, 0, 1, 0, 0, 1), chainWith(4, 0, 1, 0, 0, 0, 0, 0, 1, 0, 0, 1, 0, 0, 0, 1, 0)} {
		list := append([]float32{most, 0, most}, repeated[float32](0, int(c.Side)-3)...)
		for _, steps := range []int64{1, 2, 3, 4, 511, 512} {
			row, ok = impl.RunRow(c, list, steps)
			wantToldList(t, call{"a row that grows too great later ", c, steps}, row, ok, runReference(c, list, int(steps)))
			wantSame(t, "one step does", ok, steps == 1 || c.Side == 4 && steps == 2)
		}
	}
	// What is lost is lost in order: 1 comes first, or last.
	row, ok = impl.StepRow(chainWith(3, 1, 0, 0, 1, 0, 0, 1, 0, 0), []float32{1, lost, lost})
	wantToldList(t, call{"1 and small numbers"}, row, ok, []float32{1, 0, 0})
	row, ok = impl.StepRow(chainWith(3, 1, 0, 0, 1, 0, 0, 1, 0, 0), []float32{lost, lost, 1})
	wantToldList(t, call{"small numbers and 1"}, row, ok, []float32{afterOne, 0, 0})
}

func TestRowsFail(t *testing.T) {
	for _, c := range goodChains() {
		for _, row := range badRows(c.Side) {
			got, ok := impl.StepRow(c, row)
			wantFailure(t, fmt.Sprint("StepRow ", c, row), got, ok)
			for _, steps := range []int64{0, 1, 512} {
				got, ok = impl.RunRow(c, row, steps)
				wantFailure(t, fmt.Sprint("RunRow ", c, row, steps), got, ok)
			}
			miss, ok := impl.BalanceMiss(c, row)
			wantFailure(t, fmt.Sprint("BalanceMiss ", c, row), miss, ok)
			chain, ok := impl.BackChain(c, row)
			wantFailure(t, fmt.Sprint("BackChain ", c, row), chain, ok)
			chain, ok = impl.WeighChain(c, row)
			wantFailure(t, fmt.Sprint("WeighChain ", c, row), chain, ok)
		}
	}
	for _, steps := range []int64{-1, 513, 514, 1000, wordsEnd, wordsEnd + 1, -wordsEnd, math.MinInt64, math.MaxInt64} {
		row, ok := impl.RunRow(stays(2), []float32{1, 2}, steps)
		wantFailure(t, fmt.Sprint("RunRow ", steps), row, ok)
	}
}

// restReference has all rows that come, and says which one is near enough to that before it.
func restReference(c impl.Chain, near float32, most int64) ([]float32, int64) {
	rows := [][]float32{repeated(shortOver(1, float32(c.Side)), int(c.Side))}
	for i := range most {
		rows = append(rows, stepRowReference(c, rows[i]))
		moves := 0
		for k, x := range rows[i+1] {
			if math.Abs(float64(shortLess(x, rows[i][k]))) > float64(near) {
				moves++
			}
		}
		if moves == 0 {
			return rows[i+1], i + 1
		}
	}
	return nil, 0
}

func TestRestOf(t *testing.T) {
	late, never := 0, 0
	for _, c := range goodChains() {
		for _, near := range []float32{0, minusZero, least, 1e-7, 1e-4, 0.01, 0.3, 1, 2, most} {
			want, times := restReference(c, near, 512)
			for _, times := range []int64{1, 2, times - 1, times, times + 1, 511, 512} {
				if times < 1 || times > 512 {
					continue
				}
				want, count := restReference(c, near, times)
				got, n, ok := impl.RestOf(c, near, times)
				wantToldList(t, call{"RestOf ", c, near, times}, got, ok, want)
				wantSame(t, fmt.Sprint("how often for ", c, near, times), n, count)
			}
			if times > 100 {
				late++
			}
			if want == nil {
				never++
			}
		}
	}
	wantSame(t, "rows that rest late, and never", late > 20 && never > 20, true)
	row, n, ok := impl.RestOf(turns(2), 0, 1)
	wantToldList(t, call{"the row that rests at once"}, row, ok, []float32{0.5, 0.5})
	wantSame(t, "that it rests is seen by one step", n, 1)
	row, n, ok = impl.RestOf(chainWith(2, 1, 0, 1, 0), 0, 2)
	wantToldList(t, call{"the row of a state in which all end"}, row, ok, []float32{1, 0})
	wantSame(t, "one step to it, and one in it", n, 2)
	row, n, ok = impl.RestOf(chainWith(2, 1, 0, 1, 0), 0, 1)
	wantFailure(t, "RestOf one step too few", row, n, ok)
	row, n, ok = impl.RestOf(chainWith(2, 1, 0, 1, 0), 0.5, 1)
	wantToldList(t, call{"a row that becomes more by 0.5"}, row, ok, []float32{1, 0})
	row, n, ok = impl.RestOf(chainWith(2, 1, 0, 1, 0), 0.49999997, 1)
	wantFailure(t, "RestOf a row that becomes more by a little more than near", row, n, ok)
	row, n, ok = impl.RestOf(chainWith(3, 1, 0, 0, 0, 1, 0, 0, 1, 0), 0.25, 1)
	wantFailure(t, "RestOf a row of which a number becomes less", row, n, ok)
}

func TestRestOfFails(t *testing.T) {
	for _, most := range []int64{0, -1, 513, 514, wordsEnd, wordsEnd + 1, -wordsEnd, math.MinInt64, math.MaxInt64} {
		row, n, ok := impl.RestOf(turns(2), 0, most)
		wantFailure(t, fmt.Sprint("RestOf ", most), row, n, ok)
	}
	for _, near := range []float32{nan, inf, -inf, -least, -1, -most} {
		row, n, ok := impl.RestOf(turns(2), near, 3)
		wantFailure(t, fmt.Sprint("RestOf near ", near), row, n, ok)
	}
}

// joinChainsReference goes through the state between both steps.
func joinChainsReference(a, b impl.Chain) impl.Chain {
	if a.Side != b.Side {
		return impl.Chain{}
	}
	return chainReference(a.Side, func(i, k int64) float32 {
		sum := float32(0)
		for j := range a.Side {
			sum = shortPlus(sum, shortTimes(stepOf(a, i, j), stepOf(b, j, k)))
		}
		return sum
	})
}

func TestJoinChains(t *testing.T) {
	chains := goodChains()
	done, off := 0, 0
	for i, a := range chains {
		for k, b := range chains {
			if a.Side != b.Side && (i+k)%50 > 0 {
				continue
			}
			got, ok := impl.JoinChains(a, b)
			wantChain(t, call{"JoinChains ", a, b}, got, ok, joinChainsReference(a, b))
			if ok {
				done++
			} else if a.Side == b.Side {
				off++
			}
		}
	}
	wantSame(t, "chains that are joined, and whose rows have a sum too far from 1", done > 1000 && off > 100, true)
	c, ok := impl.JoinChains(chainWith(2, 0, 1, 0.5, 0.5), chainWith(2, 1, 0, 0.25, 0.75))
	wantChain(t, call{"the first step comes first"}, c, ok, chainWith(2, 0.25, 0.75, 0.625, 0.375))
	c, ok = impl.JoinChains(chainWith(2, minusZero, 1, 1, minusZero), chainWith(2, 1, minusZero, minusZero, 1))
	wantChain(t, call{"sums begin with +0"}, c, ok, turns(2))
	c, ok = impl.JoinChains(chainWith(1, leastAlone), chainWith(1, leastAlone))
	wantFailure(t, "JoinChains of sums that are a little too small", c, ok)
}

func lazyReference(c impl.Chain, stay float32) impl.Chain {
	if !(stay >= 0 && stay <= 1) {
		return impl.Chain{}
	}
	return chainReference(c.Side, func(i, k int64) float32 {
		step := shortTimes(shortLess(1, stay), stepOf(c, i, k))
		if i != k {
			return step
		}
		return shortPlus(step, stay)
	})
}

func TestLazyChain(t *testing.T) {
	for _, c := range goodChains() {
		for _, stay := range append(oddNumbers(), 0.1, 0.2, 0.3, 0.7, 0.9, 0.999, 1-0x1p-24, 0x1p-24, 0x1p-25) {
			got, ok := impl.LazyChain(c, stay)
			wantChain(t, call{"LazyChain ", c, stay}, got, ok, lazyReference(c, stay))
		}
	}
	c, ok := impl.LazyChain(turns(2), 0.25)
	wantChain(t, call{"LazyChain"}, c, ok, chainWith(2, 0.25, 0.75, 0.75, 0.25))
	c, ok = impl.LazyChain(turns(3), 1)
	wantChain(t, call{"LazyChain that stays"}, c, ok, stays(3))
	c, ok = impl.LazyChain(turns(3), 0)
	wantChain(t, call{"LazyChain that does not stay"}, c, ok, turns(3))
	c, ok = impl.LazyChain(chainWith(1, leastAlone), 0.5)
	wantChain(t, call{"LazyChain of a sum that is not 1"}, c, ok, chainWith(1, shortPlus(shortTimes(0.5, leastAlone), 0.5)))
}
