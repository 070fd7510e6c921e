package tests

import (
	"fmt"
	"math"
	"math/big"
	"slices"
	"testing"

	"loop.example/g01339/impl"
)

// system has rows with numbers, and their right sides.
type system struct {
	rows  [][]float32
	right []float32
}

// systemOf has the rows for states, in order.
func systemOf(c impl.Chain, states []int64, right func(state int64) float32) system {
	var s system
	for _, i := range states {
		row := []float32{}
		for _, k := range states {
			middle := float32(0)
			if i == k {
				middle = 1
			}
			row = append(row, shortLess(middle, stepOf(c, i, k)))
		}
		s.rows, s.right = append(s.rows, row), append(s.right, right(i))
	}
	return s
}

// clear brings the first one of the rows with the greatest number in a column
// to its place, and takes it away from all behind; it reports whether rows
// changed places, and whether this can be done.
func (s system) clear(k int) (bool, bool) {
	sizes := []float64{}
	for _, row := range s.rows[k:] {
		sizes = append(sizes, math.Abs(float64(row[k])))
	}
	size := slices.Max(sizes)
	top := k + slices.Index(sizes, size)
	s.rows[k], s.rows[top], s.right[k], s.right[top] = s.rows[top], s.rows[k], s.right[top], s.right[k]
	if size == 0 {
		return top > k, false
	}
	for i := range s.rows[k+1:] {
		i += k + 1
		f := shortOver(s.rows[i][k], s.rows[k][k])
		for at := range s.rows[i][k+1:] {
			at += k + 1
			s.rows[i][at] = shortLess(s.rows[i][at], shortTimes(f, s.rows[k][at]))
		}
		s.right[i] = shortLess(s.right[i], shortTimes(f, s.right[k]))
	}
	return top > k, true
}

// solve returns nothing where the rows cannot be solved, and how often rows changed places.
func (s system) solve() ([]float32, int) {
	swaps := 0
	for k := range s.rows {
		swapped, ok := s.clear(k)
		if !ok {
			return nil, swaps
		}
		if swapped {
			swaps++
		}
	}
	x := make([]float32, len(s.rows))
	for behind := range s.rows {
		k := len(s.rows) - 1 - behind
		rest := s.right[k]
		for at := k + 1; at < len(s.rows); at++ {
			rest = shortLess(rest, shortTimes(s.rows[k][at], x[at]))
		}
		x[k] = shortOver(rest, s.rows[k][k])
	}
	return x, swaps
}

// othersThan has all states but some.
func othersThan(side int64, ends ...int64) []int64 {
	states := []int64{}
	for state := range side {
		if !slices.Contains(ends, state) {
			states = append(states, state)
		}
	}
	return states
}

func timesReference(c impl.Chain, goal int64) ([]float32, int) {
	states := othersThan(c.Side, goal)
	x, swaps := systemOf(c, states, func(int64) float32 { return 1 }).solve()
	if x == nil {
		return nil, swaps
	}
	list := repeated[float32](0, int(c.Side))
	for i, state := range states {
		list[state] = x[i]
	}
	return list, swaps
}

func chancesReference(c impl.Chain, goal, other int64) []float32 {
	states := othersThan(c.Side, goal, other)
	x, _ := systemOf(c, states, func(state int64) float32 { return stepOf(c, state, goal) }).solve()
	if x == nil {
		return nil
	}
	list := repeated[float32](0, int(c.Side))
	for i, state := range states {
		list[state] = x[i]
	}
	list[goal] = 1
	return list
}

func TestTimesTo(t *testing.T) {
	swapped, unsolved := 0, 0
	chains := goodChains()
	d := drawnBits(160)
	for i := range 400 {
		chains = append(chains, drawnChain(&d, int64(i%12)+1, i%6, []float64{1, 1, 1.00095, 0.99905}[i/12%4]))
	}
	for _, c := range chains {
		for goal := range c.Side {
			want, swaps := timesReference(c, goal)
			got, ok := impl.TimesTo(c, goal)
			wantToldList(t, call{"TimesTo ", c, goal}, got, ok, want)
			if want == nil {
				unsolved++
			} else if swaps > 0 {
				swapped++
			}
		}
	}
	wantSame(t, fmt.Sprint("rows change places, and some cannot be solved: ", swapped, unsolved), swapped > 20 && unsolved > 50, true)
}

func TestChancesTo(t *testing.T) {
	unsolved := 0
	for _, c := range goodChains() {
		for goal := range c.Side {
			for other := range c.Side {
				if goal == other {
					continue
				}
				want := chancesReference(c, goal, other)
				got, ok := impl.ChancesTo(c, goal, other)
				wantToldList(t, call{"ChancesTo ", c, goal, other}, got, ok, want)
				if want == nil {
					unsolved++
				}
			}
		}
	}
	wantSame(t, "some cannot be solved", unsolved > 50, true)
}

// fair has a chain of a line of states, which goes to both sides, and stays at both ends.
func fair(side int64) impl.Chain {
	return chainReference(side, func(i, k int64) float32 {
		switch {
		case i == 0 || i == side-1:
			if i == k {
				return 1
			}
		case i-k == 1 || k-i == 1:
			return 0.5
		}
		return 0
	})
}

func wantNearList(t *testing.T, what string, got []float32, ok bool, want ...float64) {
	t.Helper()
	wantSame(t, "success of "+what, ok, true)
	wantSame(t, "how many numbers "+what+" has", len(got), len(want))
	for i, x := range got {
		wantNear(t, what, float64(x), want[i], 0.0001*max(want[i], 1))
	}
}

func TestTimesAndChancesThatAreKnown(t *testing.T) {
	half, _ := impl.RingChain(3, 0.5, 0.5)
	list, ok := impl.TimesTo(half, 1)
	wantNearList(t, "a ring that stays or goes right", list, ok, 2, 0, 4)
	list, ok = impl.TimesTo(turns(12), 0)
	wantNearList(t, "a ring that goes right", list, ok, 0, 11, 10, 9, 8, 7, 6, 5, 4, 3, 2, 1)
	both, _ := impl.RingChain(6, 0, 0.5)
	list, ok = impl.TimesTo(both, 2)
	wantNearList(t, "a ring that goes to both sides", list, ok, 8, 5, 0, 5, 8, 9)
	list, ok = impl.TimesTo(chainWith(1, 1), 0)
	wantToldList(t, call{"a state and itself"}, list, ok, []float32{0})
	list, ok = impl.TimesTo(chainWith(2, 0.75, 0.25, 0, 1), 1)
	wantToldList(t, call{"a state that is left one time in four"}, list, ok, []float32{4, 0})
	list, ok = impl.TimesTo(chainWith(3, 1, 0, 0, 0.1, 0.9, 0, 0, 1, 0), 0)
	wantNearList(t, "a state that is left one time in ten, and one that leads to it", list, ok, 0, 10, 11)
	list, ok = impl.ChancesTo(fair(5), 4, 0)
	wantNearList(t, "a line", list, ok, 0, 0.25, 0.5, 0.75, 1)
	list, ok = impl.ChancesTo(fair(12), 0, 11)
	wantNearList(t, "a line of 12", list, ok, 1, 10.0/11, 9.0/11, 8.0/11, 7.0/11, 6.0/11, 5.0/11, 4.0/11, 3.0/11, 2.0/11, 1.0/11, 0)
	list, ok = impl.ChancesTo(turns(4), 1, 2)
	wantNearList(t, "goal comes next to other", list, ok, 1, 1, 0, 1)
	list, ok = impl.ChancesTo(turns(4), 2, 1)
	wantNearList(t, "other comes before goal", list, ok, 0, 0, 1, 0)
	for _, c := range []impl.Chain{turns(2), stays(2), sameRows(0.5, 0.5)} {
		list, ok = impl.ChancesTo(c, 0, 1)
		wantToldList(t, call{"no other state ", c}, list, ok, []float32{1, 0})
		list, ok = impl.ChancesTo(c, 1, 0)
		wantToldList(t, call{"no other state ", c}, list, ok, []float32{0, 1})
	}
	list, ok = impl.ChancesTo(chainWith(3, 1, 0, 0, 0, 1, 0, minusZero, 0.5, 0.5), 0, 1)
	wantToldList(t, call{"a Step of -0 to goal"}, list, ok, []float32{1, 0, minusZero})
}

func TestTimesAndChancesFail(t *testing.T) {
	list, ok := impl.TimesTo(stays(2), 0)
	wantFailure(t, "TimesTo a state to which one never comes", list, ok)
	list, ok = impl.TimesTo(fair(5), 0)
	wantFailure(t, "TimesTo one of two states that are never left", list, ok)
	list, ok = impl.ChancesTo(stays(3), 0, 1)
	wantFailure(t, "ChancesTo where a state is never left", list, ok)
	// A group is never left, which shows only behind the first column.
	closed := chainWith(3, 1, 0, 0, 0, 0.5, 0.5, 0, 0.5, 0.5)
	list, ok = impl.TimesTo(closed, 0)
	wantFailure(t, "TimesTo a state to which two never come", list, ok)
	list, ok = impl.ChancesTo(chainWith(4, 1, 0, 0, 0, 0, 0.5, 0.5, 0, 0, 0.5, 0.5, 0, 0, 0, 0, 1), 0, 3)
	wantFailure(t, "ChancesTo two states to which two never come", list, ok)
	// The time is near 10 to the power of 40, or of 46, which is no 32-bit number.
	for _, seldom := range []float32{1e-20, 1e-23} {
		c := chainWith(3, 1, 0, 0, 1, 0, seldom, 0, seldom, 1)
		list, ok = impl.TimesTo(c, 0)
		wantFailure(t, "TimesTo that are too great", list, ok)
	}
	list, ok = impl.ChancesTo(chainWith(3, 1, 0, 0, 1, 0, 1e-20, 0, 1e-20, 1), 0, 2)
	wantToldList(t, call{"ChancesTo the same states, where only one is left"}, list, ok, []float32{1, 1, 0})
	for _, c := range goodChains() {
		for i, state := range outStates(c.Side) {
			if state >= 0 && state < c.Side {
				continue
			}
			list, ok = impl.TimesTo(c, state)
			wantFailure(t, fmt.Sprint("TimesTo ", c, state), list, ok)
			for _, there := range []int64{0, c.Side - 1, state, outStates(c.Side)[i/2]} {
				list, ok = impl.ChancesTo(c, state, there)
				wantFailure(t, fmt.Sprint("ChancesTo ", c, state, there), list, ok)
				list, ok = impl.ChancesTo(c, there, state)
				wantFailure(t, fmt.Sprint("ChancesTo ", c, there, state), list, ok)
			}
		}
		for state := range c.Side {
			list, ok = impl.ChancesTo(c, state, state)
			wantFailure(t, fmt.Sprint("ChancesTo ", c, " goal and other are equal ", state), list, ok)
		}
	}
}

// TestTimesAreExactNearly solves the rows in fractions, of chains that are left often.
func TestTimesAreExactNearly(t *testing.T) {
	d := drawnBits(161)
	for side := int64(2); side <= 12; side++ {
		for range 5 {
			c := drawnChain(&d, side, 0, 1)
			for goal := range side {
				states := othersThan(side, goal)
				want := solveExactly(c, states, func(int64) float32 { return 1 })
				got, ok := impl.TimesTo(c, goal)
				wantSame(t, "TimesTo succeeds", ok, true)
				for i, state := range states {
					wantNear(t, "TimesTo", float64(got[state]), want[i], 0.001*want[i])
				}
				other := (goal + 1) % side
				states = othersThan(side, goal, other)
				want = solveExactly(c, states, func(state int64) float32 { return stepOf(c, state, goal) })
				got, ok = impl.ChancesTo(c, goal, other)
				wantSame(t, "ChancesTo succeeds", ok, true)
				for i, state := range states {
					wantNear(t, "ChancesTo", float64(got[state]), want[i], 0.001)
				}
			}
		}
	}
}

// solveExactly takes each row away from all others.
func solveExactly(c impl.Chain, states []int64, right func(state int64) float32) []float64 {
	exact := func(x float32) *big.Rat { return new(big.Rat).SetFloat64(float64(x)) }
	rows := [][]*big.Rat{}
	for _, i := range states {
		row := []*big.Rat{}
		for _, k := range states {
			x := exact(stepOf(c, i, k))
			x.Neg(x)
			if i == k {
				x.Add(x, big.NewRat(1, 1))
			}
			row = append(row, x)
		}
		rows = append(rows, append(row, exact(right(i))))
	}
	for k, top := range rows {
		for i, row := range rows {
			if i == k {
				continue
			}
			f := new(big.Rat).Quo(row[k], top[k])
			for at := range row {
				row[at] = new(big.Rat).Sub(row[at], new(big.Rat).Mul(f, top[at]))
			}
		}
	}
	list := []float64{}
	for k, row := range rows {
		x, _ := new(big.Rat).Quo(row[len(rows)], row[k]).Float64()
		list = append(list, x)
	}
	return list
}
