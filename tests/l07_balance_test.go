package tests

import (
	"fmt"
	"math"
	"slices"
	"testing"

	"loop.example/g01339/impl"
)

func missReference(c impl.Chain, row []float32) float32 {
	list := []float64{}
	for i := range c.Side {
		for k := range i + 1 {
			there, back := shortTimes(row[i], stepOf(c, i, k)), shortTimes(row[k], stepOf(c, k, i))
			list = append(list, math.Abs(float64(shortLess(there, back))))
		}
	}
	return float32(slices.Max(list))
}

func TestBalanceMiss(t *testing.T) {
	d := drawnBits(155)
	for _, c := range goodChains() {
		for _, row := range rowsOf(&d, c.Side) {
			got, ok := impl.BalanceMiss(c, row)
			wantTold(t, call{"BalanceMiss ", c, row}, got, ok, missReference(c, row))
		}
	}
	for _, c := range []struct {
		chain impl.Chain
		row   []float32
		want  float32
	}{
		{turns(2), []float32{1, 1}, 0}, {turns(2), []float32{1, 3}, 2}, {turns(2), []float32{3, 1}, 2}, {turns(2), []float32{most, 0}, most}, {turns(2), []float32{0, most}, most}, {turns(2), []float32{minusZero, 0}, 0}, {turns(2), []float32{0, least}, least},
		{stays(12), wholes(12), 0}, {chainWith(1, 1), []float32{5}, 0}, {turns(3), []float32{1, 1, 1}, 1}, {turns(3), []float32{1, 2, 4}, 4}, {chainWith(2, 0.5, 0.5, 0.25, 0.75), []float32{1, 2}, 0},
		{chainWith(3, 0, 0.5, 0.5, 0, 1, 0, 0, 0, 1), []float32{2, 7, 7}, 1},
		{chainWith(2, minusZero, 1, 1, minusZero), []float32{1, 1}, 0}, {chainWith(2, 1, minusZero, 0, 1), []float32{1, 1}, 0},
	} {
		got, ok := impl.BalanceMiss(c.chain, c.row)
		wantTold(t, call{"BalanceMiss ", c.chain, c.row}, got, ok, c.want)
	}
}

// backReference is no chain if the rules have none.
func backReference(c impl.Chain, row []float32) impl.Chain {
	if slices.Min(row) <= 0 {
		return impl.Chain{}
	}
	return chainReference(c.Side, func(i, k int64) float32 {
		return shortOver(shortTimes(row[k], stepOf(c, k, i)), row[i])
	})
}

func TestBackChain(t *testing.T) {
	d := drawnBits(156)
	done := 0
	for _, c := range goodChains() {
		rows := rowsOf(&d, c.Side)
		for _, near := range []float32{1e-7, 1e-5, 1e-3} {
			if row, _, ok := impl.RestOf(c, near, 512); ok {
				rows = append(rows, row)
			}
		}
		for _, row := range rows {
			got, ok := impl.BackChain(c, row)
			wantChain(t, call{"BackChain ", c, row}, got, ok, backReference(c, row))
			if ok && c.Side > 1 {
				done++
			}
		}
	}
	wantSame(t, "chains that go back", done > 100, true)
	c, ok := impl.BackChain(turns(5), repeated[float32](3, 5))
	wantSame(t, "a ring has a chain that goes back", ok, true)
	left, _ := impl.RingChain(5, 0, 0)
	wantChain(t, call{"a ring that goes right goes back to the left"}, c, ok, left)
	c, ok = impl.BackChain(chainWith(2, 0.5, 0.5, 0.25, 0.75), []float32{1, 2})
	wantChain(t, call{"a chain in balance goes back as it goes"}, c, ok, chainWith(2, 0.5, 0.5, 0.25, 0.75))
	c, ok = impl.BackChain(chainWith(3, 0, 0.5, 0.5, 1, 0, 0, 0.5, 0.5, 0), []float32{4, 3, 2})
	wantChain(t, call{"products come first"}, c, ok, chainWith(3, 0, 0.75, 0.25, shortOver(2, 3), 0, shortOver(1, 3), 1, 0, 0))
	c, ok = impl.BackChain(turns(2), []float32{1, 2})
	wantFailure(t, "BackChain of a row that does not rest", c, ok)
	c, ok = impl.BackChain(chainWith(2, 1, 0, 1, 0), []float32{1, 0})
	wantFailure(t, "BackChain of a row with 0", c, ok)
	c, ok = impl.BackChain(stays(2), []float32{minusZero, 1})
	wantFailure(t, "BackChain of a row with -0", c, ok)
	c, ok = impl.BackChain(stays(2), []float32{least, most})
	wantChain(t, call{"BackChain of small and great numbers"}, c, ok, stays(2))
	// Half of the least number is 0, for which there is nothing to go back.
	c, ok = impl.BackChain(chainWith(2, 0.5, 0.5, 0.5, 0.5), []float32{least, least})
	wantFailure(t, "BackChain whose products are 0", c, ok)
}

// weighReference is no chain if the rules have none.
func weighReference(c impl.Chain, weights []float32) impl.Chain {
	if slices.Min(weights) <= 0 {
		return impl.Chain{}
	}
	weighed := chainWith(c.Side, repeated[float32](0, len(c.Steps))...)
	for i := range c.Side {
		sum := float32(0)
		for k := range c.Side {
			if i == k || stepOf(c, i, k) == 0 {
				continue
			}
			x := shortOver(shortTimes(weights[k], stepOf(c, k, i)), shortTimes(weights[i], stepOf(c, i, k)))
			if x > 1 {
				x = 1
			}
			weighed.Steps[i*c.Side+k] = shortTimes(stepOf(c, i, k), x)
			sum = shortPlus(sum, weighed.Steps[i*c.Side+k])
		}
		rest := shortLess(1, sum)
		if rest < 0 {
			rest = 0
		}
		weighed.Steps[i*c.Side+i] = rest
	}
	return weighed
}

func TestWeighChain(t *testing.T) {
	d := drawnBits(157)
	done, failed := 0, 0
	for _, c := range goodChains() {
		for _, row := range rowsOf(&d, c.Side) {
			got, ok := impl.WeighChain(c, row)
			wantChain(t, call{"WeighChain ", c, row}, got, ok, weighReference(c, row))
			if slices.Min(row) <= 0 {
				continue
			}
			if !ok {
				failed++
				continue
			}
			done++
			// Weights that are so small that products lose digits are left out.
			if slices.Min(row) < 1e-20 || slices.Max(row) > 1e30 {
				continue
			}
			miss, ok := impl.BalanceMiss(got, row)
			wantSame(t, fmt.Sprint("a weighed chain is in balance: ", c, row, got, miss), ok && miss <= shortTimes(slices.Max(row), 1e-6), true)
		}
	}
	wantSame(t, "chains that are weighed, and that cannot be", done > 1000 && failed > 10, true)
}

func TestWeighChainOfKnownWeights(t *testing.T) {
	// Of a sum that is a little too great, nothing is left to stay.
	more := sameRows(1e-9, 1, mostAlone-1)
	for _, c := range []struct {
		chain   impl.Chain
		weights []float32
		want    impl.Chain
	}{
		{turns(2), []float32{1, 2}, chainWith(2, 0, 1, 0.5, 0.5)}, {turns(2), []float32{2, 1}, chainWith(2, 0.5, 0.5, 1, 0)}, {turns(2), []float32{3, 3}, turns(2)}, {turns(2), []float32{least, most}, chainWith(2, 0, 1, 0, 1)},
		{chainWith(1, 1), []float32{7}, chainWith(1, 1)}, {chainWith(1, leastAlone), []float32{7}, chainWith(1, 1)}, {stays(12), wholes(13)[1:], stays(12)},
		// A Step that does not lead back is never taken, and one of 0, with any sign, is +0.
		{turns(3), []float32{1, 1, 1}, stays(3)}, {chainWith(2, 0.5, 0.5, 0, 1), []float32{1, 1}, stays(2)}, {chainWith(2, 1, minusZero, 0.5, 0.5), []float32{1, 1}, chainWith(2, 1, 0, minusZero, 1)}, {chainWith(2, 1, minusZero, minusZero, 1), []float32{1, 1}, stays(2)},
		{chainWith(3, 0, 0.5, 0.5, 0.5, 0, 0.5, 0.5, 0.5, 0), []float32{1, 2, 4}, chainWith(3, 0, 0.5, 0.5, 0.25, 0.25, 0.5, 0.125, 0.25, 0.625)},
		{chainWith(2, 0.5, 0.5, 0.25, 0.75), []float32{1, 1}, chainWith(2, 0.75, 0.25, 0.25, 0.75)},
		{more, []float32{1e-9, 1, mostAlone - 1}, chainReference(3, func(i, k int64) float32 {
			if i != k {
				return stepOf(weighReference(more, []float32{1e-9, 1, mostAlone - 1}), i, k)
			}
			return [3]float32{0, shortLess(1, shortPlus(1e-9, mostAlone-1)), 0}[i]
		})},
		// One product of both is 0: a Step is surely taken, or never.
		{chainWith(2, 0.75, 0.25, 0.75, 0.25), []float32{least, most}, chainWith(2, 0.75, 0.25, 0, 1)}, {chainWith(2, 0.75, 0.25, 0.25, 0.75), []float32{most, least}, chainWith(2, 1, 0, 0.25, 0.75)},
	} {
		got, ok := impl.WeighChain(c.chain, c.weights)
		wantChain(t, call{"WeighChain ", c.chain, c.weights}, got, ok, c.want)
		wantSame(t, fmt.Sprint("WeighChain ", c.chain, c.weights, " succeeds"), ok, true)
	}
	for _, c := range []struct {
		chain   impl.Chain
		weights []float32
	}{
		{turns(2), []float32{0, 1}}, {turns(2), []float32{1, 0}}, {turns(2), []float32{minusZero, 1}}, {stays(1), []float32{0}},
		// Both products are 0.
		{chainWith(2, 0.75, 0.25, 0.25, 0.75), []float32{least, least}}, {chainWith(3, 1, 0, 0, 0, 0.75, 0.25, 0, 0.25, 0.75), []float32{1, least, least}},
	} {
		got, ok := impl.WeighChain(c.chain, c.weights)
		wantFailure(t, fmt.Sprint("WeighChain ", c.chain, c.weights), got, ok)
	}
}

// TestWeighedChainsRest runs chains that are weighed, which must come to their weights.
func TestWeighedChainsRest(t *testing.T) {
	d := drawnBits(158)
	for side := int64(2); side <= 12; side++ {
		c, _ := impl.LazyChain(drawnChain(&d, side, 0, 1), 0.25)
		weights, all := []float32{}, float32(0)
		for range side {
			weights = append(weights, float32(d.next()%3+1))
			all += weights[len(weights)-1]
		}
		weighed, ok := impl.WeighChain(c, weights)
		wantSame(t, "the chain can be weighed", ok, true)
		row, _, ok := impl.RestOf(weighed, 1e-6, 512)
		wantSame(t, "the weighed chain rests", ok, true)
		for i, x := range row {
			wantNear(t, "the part of a state", float64(x), float64(weights[i]/all), 0.0005)
		}
	}
}

// groupsReference asks for the ways between each two states.
func groupsReference(c impl.Chain) []int64 {
	comes := map[[2]int64]bool{}
	for i := range c.Side {
		for k := range c.Side {
			comes[[2]int64{i, k}] = stepOf(c, i, k) > 0
		}
	}
	for over := range c.Side {
		for i := range c.Side {
			for k := range c.Side {
				if comes[[2]int64{i, over}] && comes[[2]int64{over, k}] {
					comes[[2]int64{i, k}] = true
				}
			}
		}
	}
	groups, next := []int64{}, int64(0)
	for k := range c.Side {
		group := int64(-1)
		for i := range k {
			if comes[[2]int64{i, k}] && comes[[2]int64{k, i}] {
				group = groups[i]
			}
		}
		if group < 0 {
			group = next
			next++
		}
		groups = append(groups, group)
	}
	return groups
}

func TestGroupsOfChain(t *testing.T) {
	kinds := map[string]int{}
	chains := goodChains()
	d := drawnBits(159)
	for i := range 2000 {
		chains = append(chains, drawnChain(&d, int64(i%12)+1, []int{1, 3, 5}[i%3], 1))
	}
	for _, c := range chains {
		want := groupsReference(c)
		got, ok := impl.GroupsOfChain(c)
		wantList(t, fmt.Sprint("GroupsOfChain ", c), got, want)
		wantSame(t, "success", ok, true)
		switch count := slices.Max(want) + 1; {
		case count == 1:
			kinds["one"]++
		case count == c.Side:
			kinds["all"]++
		case !slices.IsSorted(want):
			kinds["mixed"]++
		}
	}
	wantSame(t, fmt.Sprint("groups of one state, of all, and some that lie between others: ", kinds), kinds["one"] > 50 && kinds["all"] > 50 && kinds["mixed"] > 20, true)
	for _, c := range []struct {
		chain impl.Chain
		want  []int64
	}{
		{chainWith(1, 1), []int64{0}}, {stays(12), ascending(12)}, {turns(12), repeated[int64](0, 12)}, {chainWith(2, 0.5, 0.5, 0, 1), []int64{0, 1}}, {chainWith(2, 1, 0, 0.5, 0.5), []int64{0, 1}},
		{chainWith(2, 1, least, least, 1), []int64{0, 0}}, {chainWith(2, 1, minusZero, 0.5, 0.5), []int64{0, 1}},
		{chainWith(4, 0, 0, 1, 0, 0, 0, 0, 1, 1, 0, 0, 0, 0, 1, 0, 0), []int64{0, 1, 0, 1}}, {chainWith(3, 0, 0, 1, 0.5, 0, 0.5, 1, 0, 0), []int64{0, 1, 0}},
		// Both come to the same states, but not to each other.
		{chainWith(3, 0, 0, 1, 0, 0, 1, 0, 0, 1), []int64{0, 1, 2}},
	} {
		got, ok := impl.GroupsOfChain(c.chain)
		wantList(t, fmt.Sprint("GroupsOfChain ", c.chain), got, c.want)
		wantSame(t, "success", ok, true)
	}
}

// wantNoChain takes a chain that is not valid.
func wantNoChain(t *testing.T, c impl.Chain) {
	t.Helper()
	n := min(max(c.Side, 1), 12)
	row, s := repeated[float32](1, int(n)), impl.Seed{Kind: impl.SeedCount}
	fails := func(name string, results ...any) { t.Helper(); wantFailure(t, fmt.Sprint(name, c), results...) }
	next, ok := impl.StepRow(c, row)
	fails("StepRow ", next, ok)
	for _, steps := range []int64{0, 1} {
		next, ok = impl.RunRow(c, row, steps)
		fails("RunRow ", next, ok)
		end, walk, ok := impl.WalkChain(s, c, 0, steps)
		fails("WalkChain ", end, walk, ok)
		end, times, at, ok := impl.MeetWalks(s, c, 0, 0, steps)
		fails("MeetWalks ", end, times, at, ok)
	}
	next, times, ok := impl.RestOf(c, 1, 1)
	fails("RestOf ", next, times, ok)
	for _, other := range []impl.Chain{c, stays(n)} {
		joined, ok := impl.JoinChains(c, other)
		fails("JoinChains ", joined, ok)
		joined, ok = impl.JoinChains(other, c)
		fails("JoinChains of another one and ", joined, ok)
	}
	for _, stay := range []float32{0, 0.5, 1} {
		lazy, ok := impl.LazyChain(c, stay)
		fails("LazyChain ", lazy, ok)
	}
	miss, ok := impl.BalanceMiss(c, row)
	fails("BalanceMiss ", miss, ok)
	back, ok := impl.BackChain(c, row)
	fails("BackChain ", back, ok)
	weighed, ok := impl.WeighChain(c, row)
	fails("WeighChain ", weighed, ok)
	groups, ok := impl.GroupsOfChain(c)
	fails("GroupsOfChain ", groups, ok)
	list, ok := impl.TimesTo(c, 0)
	fails("TimesTo ", list, ok)
	list, ok = impl.ChancesTo(c, 0, 1)
	fails("ChancesTo ", list, ok)
	end, state, far, ok := impl.PastDraw(s, c, 1)
	fails("PastDraw ", end, state, far, ok)
	end, chance, ok := impl.RareChance(s, c, 0, []int64{1}, 1)
	fails("RareChance ", end, chance, ok)
	for _, streams := range []int64{0, 1} {
		list, ok = impl.RareShared(s, c, 0, []int64{1}, 1, streams, 1)
		fails("RareShared ", list, ok)
	}
}

func TestBadChainsFail(t *testing.T) {
	for _, c := range badChains() {
		wantNoChain(t, c)
	}
}
