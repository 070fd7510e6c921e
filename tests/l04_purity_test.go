package tests

import (
	"fmt"
	"math"
	"slices"
	"testing"

	"loop.example/g01339/impl"
)

// shapeCalls has the results of all functions that draw shapes, or lead to them from numbers, which may be any ones.
func shapeCalls(s impl.Seed, a, b, c complex64, n, k int64) string {
	list := []any{}
	point := func(end impl.Seed, x complex64, ok bool) {
		list = append(list, end, bitsOf(real(x)), bitsOf(imag(x)), ok)
	}
	numbers := func(end impl.Seed, x []float32, ok bool) { list = append(list, end, x, ok) }
	integers := func(end impl.Seed, x []int64, ok bool) { list = append(list, end, x, ok) }
	point(impl.CirclePoint(s))
	point(impl.DiscPoint(s))
	numbers(impl.BallPoint(s))
	point(impl.TrianglePoint(s, a, b, c))
	numbers(impl.SimplexPoint(s, n))
	integers(impl.DrawnOrder(s, n))
	integers(impl.RingOrder(s, n))
	integers(impl.MovedOrder(s, n))
	integers(impl.DrawnTree(s, n))
	integers(impl.SwitchEdges(s, []int64{0, 1, 2, 3}, n, k))
	order, ok := impl.OrderOfNumber(n, k)
	list = append(list, order, ok)
	spread, ok := impl.SpreadPoints(n, k)
	list = append(list, spread, ok)
	turned, ok := impl.TurnedDigits(n, k, []int64{1, 0})
	list = append(list, turned, ok)
	return fmt.Sprint(list...)
}

func TestShapesReturnEqualResults(t *testing.T) {
	seeds := append(append(badSeeds(), drawnSeeds(8)...), seedOfZeros(0), unmoved)
	numbers := oddNumbers()
	integers := append(oddIntegers(), 2, 3, 16, 20, 21, 63, 65, 255, 256, 257, 1000, 1001, 65000, 65535, 65536)
	for i, s := range seeds {
		for k, x := range numbers {
			y := numbers[(i+k*3)%len(numbers)]
			a, b, c := complex(x, y), complex(y, 1), complex(1, x)
			n, m := integers[(i+k)%len(integers)], integers[(i*3+k*5)%len(integers)]
			wantSame(t, fmt.Sprint("the second call with ", s, a, b, c, n, m), shapeCalls(s, a, b, c, n, m), shapeCalls(s, a, b, c, n, m))
		}
	}
}

// listCalls has the results of all functions with lists, which may be any ones.
func listCalls(s impl.Seed, list []int64, lists [][]int64, shares []float32, points []complex64, n int64) string {
	results := []any{impl.IsOrder(list), impl.AreEdges(list, n), impl.CanBeDegrees(list)}
	integers := func(x []int64, ok bool) { results = append(results, x, ok) }
	number := func(x float32, ok bool) { results = append(results, x, ok) }
	cycles, ok := impl.CyclesOf(list)
	results = append(results, cycles, ok)
	integers(impl.OrderOfCycles(lists, n))
	integers(impl.CodeOfOrder(list))
	integers(impl.OrderOfCode(list))
	place, ok := impl.NumberOfOrder(list)
	results = append(results, place, ok)
	integers(impl.TreeOfCode(list))
	integers(impl.CodeOfTree(list, n))
	integers(impl.DegreesOf(list, n))
	integers(impl.GraphOfDegrees(list))
	end, edges, ok := impl.DrawnGraph(s, list)
	results = append(results, end, edges, ok)
	end, edges, ok = impl.SwitchEdges(s, list, n, 20)
	results = append(results, end, edges, ok)
	number(impl.TurnedDigits(77, int64(len(list)), list))
	number(impl.GapOfPoints(shares))
	number(impl.GapOfPairs(points))
	return fmt.Sprint(results...)
}

func TestShapesReturnEqualResultsAtOnce(t *testing.T) {
	s := impl.Seed{Kind: impl.SeedShift, A: 77}
	calls := func() string {
		return shapeCalls(s, 0, 1, 1i, 16, 7) + listCalls(s, descending(12), [][]int64{descending(12)}, []float32{1, 0}, []complex64{1i}, 12) +
			listCalls(s, listOf(allPairs(9)), nil, nil, nil, 9) + listCalls(s, repeated(int64(2), 9), nil, nil, nil, 9)
	}
	wantEqualAtOnce(t, calls)
}

func TestListsOfShapesAreNotChanged(t *testing.T) {
	tree, _ := impl.TreeOfCode(descending(20))
	lists := [][]int64{nil, {0}, {1}, {2, 0, 1}, {0, 1}, {0, 1, 1, 2}, {0, 1, 2, 3}, {2, 1, 1, 0}, {1, 1, 1, 1}, descending(16), descending(20), descending(64), ascending(64), descending(65), tree,
		repeated(int64(8), 64), repeated(int64(3), 12), listOf(allPairs(10)), listOf(allPairs(64)[:256]), listOf(allPairs(64)), make([]int64, 62), {math.MinInt64, math.MaxInt64}, repeated(int64(-1), 300)}
	shares := spare([]float32{0.5, 0.25, 1, 0, 0.75, minusZero}, 7)
	points := spare([]complex64{0.5i, 1 + 0.25i, 0, 0.75, 1i}, 7)
	for _, given := range lists {
		list := spare(given, 7)
		cycles := spare([][]int64{spare(given, 7)}, []int64{7})
		all := func() string {
			return fmt.Sprint(list[:cap(list)], cycles[:cap(cycles)], cycles[0][:cap(cycles[0])], shares[:cap(shares)], points[:cap(points)])
		}
		before := all()
		for _, s := range append(drawnSeeds(4), impl.Seed{}) {
			for _, n := range []int64{-1, 0, 1, 2, 4, 10, 22, int64(len(list)), 64, 65, math.MinInt64, math.MaxInt64} {
				calls := func() string { return listCalls(s, list, cycles, shares, points, n) }
				wantSame(t, "the second call", calls(), calls())
				wantSame(t, "the lists behind all calls", all(), before)
			}
		}
	}
}

func TestListsOfShapesAreNew(t *testing.T) {
	s := impl.Seed{Kind: impl.SeedLine, B: 1}
	order, code, edges, degrees := []int64{2, 0, 1, 3}, []int64{3, 1, 1, 0}, []int64{0, 1, 0, 2, 2, 3}, []int64{1, 2, 2, 1}
	third := func(_ impl.Seed, list []int64, _ bool) []int64 { return list }
	second := func(list []int64, _ bool) []int64 { return list }
	call := map[string]func() []int64{
		"DrawnOrder":              func() []int64 { return third(impl.DrawnOrder(s, 5)) },
		"RingOrder":               func() []int64 { return third(impl.RingOrder(s, 5)) },
		"MovedOrder":              func() []int64 { return third(impl.MovedOrder(s, 5)) },
		"OrderOfCycles":           func() []int64 { return second(impl.OrderOfCycles([][]int64{order}, 4)) },
		"CodeOfOrder":             func() []int64 { return second(impl.CodeOfOrder(order)) },
		"OrderOfCode":             func() []int64 { return second(impl.OrderOfCode(code)) },
		"OrderOfNumber":           func() []int64 { return second(impl.OrderOfNumber(5, 33)) },
		"DrawnTree":               func() []int64 { return third(impl.DrawnTree(s, 5)) },
		"TreeOfCode":              func() []int64 { return second(impl.TreeOfCode(code)) },
		"CodeOfTree":              func() []int64 { return second(impl.CodeOfTree(edges, 4)) },
		"DegreesOf":               func() []int64 { return second(impl.DegreesOf(edges, 4)) },
		"GraphOfDegrees":          func() []int64 { return second(impl.GraphOfDegrees(degrees)) },
		"DrawnGraph":              func() []int64 { return third(impl.DrawnGraph(s, degrees)) },
		"SwitchEdges":             func() []int64 { return third(impl.SwitchEdges(s, edges, 4, 9)) },
		"SwitchEdges no times":    func() []int64 { return third(impl.SwitchEdges(s, edges, 4, 0)) },
		"the first cycle":         func() []int64 { cycles, _ := impl.CyclesOf(order); return cycles[0] },
		"the order of one number": func() []int64 { return third(impl.DrawnOrder(s, 1)) },
	}
	for name, list := range call {
		want := fmt.Sprint(list())
		wantSame(t, name+" has numbers", want != "[]", true)
		changed := list()
		for i := range changed {
			changed[i] = -5
		}
		_ = append(changed[:0:cap(changed)], repeated[int64](-5, cap(changed))...)
		wantSame(t, name+" behind a change of its result", fmt.Sprint(list()), want)
	}
	wantOwnMemory(t, func() [][]int64 { cycles, _ := impl.CyclesOf([]int64{2, 3, 4, 5, 0, 1, 7, 8, 9, 6}); return cycles }, -5)
	wantList(t, "the order", order, []int64{2, 0, 1, 3})
	wantList(t, "the code", code, []int64{3, 1, 1, 0})
	wantList(t, "the edges", edges, []int64{0, 1, 0, 2, 2, 3})
	wantList(t, "the degrees", degrees, []int64{1, 2, 2, 1})
}

func TestNumbersOfShapesAreNew(t *testing.T) {
	s := impl.Seed{Kind: impl.SeedLine, B: 1}
	call := map[string]func() []float32{
		"BallPoint":    func() []float32 { _, list, _ := impl.BallPoint(s); return list },
		"SimplexPoint": func() []float32 { _, list, _ := impl.SimplexPoint(s, 6); return list },
	}
	for name, list := range call {
		want := slices.Clone(list())
		changed := list()
		for i := range changed {
			changed[i] = -5
		}
		wantNumbers(t, name+" behind a change of its result", list(), want)
	}
	points, _ := impl.SpreadPoints(1, 5)
	for i := range points {
		points[i] = -5
	}
	again, _ := impl.SpreadPoints(1, 1)
	wantComplex(t, "SpreadPoints behind a change of its result", again[0], complex(0.5, 1.0/3))
}
