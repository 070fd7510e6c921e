package tests

import (
	"fmt"
	"math"
	"slices"
	"testing"

	"loop.example/g01339/impl"
)

// ordersOf returns all orders of n numbers, in the order of their numbers.
func ordersOf(n int) [][]int64 {
	orders := [][]int64{{}}
	for range n {
		var longer [][]int64
		for _, order := range orders {
			for number := range int64(n) {
				if !slices.Contains(order, number) {
					longer = append(longer, append(slices.Clone(order), number))
				}
			}
		}
		orders = longer
	}
	return orders
}

func ascending(n int64) []int64 {
	list := []int64{}
	for i := range n {
		list = append(list, i)
	}
	return list
}

func descending(n int64) []int64 {
	list := ascending(n)
	slices.Reverse(list)
	return list
}

// drawnOrders has orders of each length.
func drawnOrders() [][]int64 {
	d := drawnBits(61)
	var orders [][]int64
	for n := int64(1); n <= 64; n++ {
		for range 5 {
			order := ascending(n)
			for i := range order {
				k := i + int(d.next())%(len(order)-i)
				order[i], order[k] = order[k], order[i]
			}
			orders = append(orders, order)
		}
		orders = append(orders, ascending(n), descending(n))
	}
	return orders
}

// badOrders are lists that are no orders.
func badOrders() [][]int64 {
	lists := [][]int64{nil, {1}, {-1}, {math.MinInt64}, {math.MaxInt64}, {wordsEnd}, {0, 0}, {1, 1}, {0, 2}, {2, 0}, {1, 2}, {-1, 0}, {0, -1}, {0, wordsEnd + 1},
		{0, 1, 1}, {0, 0, 2}, {2, 2, 2}, {0, 1, 3}, {3, 1, 0}, {1, 2, 3}, {2, 1, -1}, {256, 0, 1}, {0, 1, 2, 4}, {1, 0, 3, 3}, ascending(65), descending(65), make([]int64, 64), ascending(256)}
	for _, n := range []int64{20, 21, 63, 64} {
		twice, beyond, below := ascending(n), ascending(n), descending(n)
		twice[0], beyond[n/2], below[n-1] = n-1, n, -1
		lists = append(lists, twice, beyond, below)
	}
	return lists
}

func TestIsOrder(t *testing.T) {
	for n := 1; n <= 6; n++ {
		for _, order := range ordersOf(n) {
			wantSame(t, fmt.Sprint("IsOrder ", order), impl.IsOrder(order), true)
		}
	}
	for _, order := range drawnOrders() {
		wantSame(t, fmt.Sprint("IsOrder ", order), impl.IsOrder(order), true)
	}
	for _, list := range badOrders() {
		wantSame(t, fmt.Sprint("IsOrder ", list), impl.IsOrder(list), false)
	}
	// Of all lists of three numbers from -1 to 3, only 6 are orders.
	count := 0
	for i := range int64(125) {
		if impl.IsOrder([]int64{i%5 - 1, i/5%5 - 1, i/25 - 1}) {
			count++
		}
	}
	wantSame(t, "how many orders of three numbers there are", count, 6)
}

func TestListsThatAreNoOrders(t *testing.T) {
	for _, list := range badOrders() {
		cycles, ok := impl.CyclesOf(list)
		wantFailure(t, fmt.Sprint("CyclesOf ", list), cycles, ok)
		code, ok := impl.CodeOfOrder(list)
		wantFailure(t, fmt.Sprint("CodeOfOrder ", list), code, ok)
		number, ok := impl.NumberOfOrder(list)
		wantFailure(t, fmt.Sprint("NumberOfOrder ", list), number, ok)
	}
}

// orderReference draws an order; a number at the index i changes places with one below i + least.
func orderReference(d *draws, n, least int64) []int64 {
	order := ascending(n)
	for i := n - 1; i >= 1; i-- {
		k := d.below(i + least)
		at := order[i]
		order[i] = order[k]
		order[k] = at
	}
	return order
}

func movesAll(order []int64) bool {
	for i, number := range order {
		if number == int64(i) {
			return false
		}
	}
	return true
}

// movedReference returns how many tries it takes as well.
func movedReference(d *draws, n int64) ([]int64, int) {
	for tries := 1; ; tries++ {
		if order := orderReference(d, n, 1); movesAll(order) {
			return order, tries
		}
	}
}

func ringLength(order []int64) int {
	length, at := 1, order[0]
	for at != 0 {
		at = order[at]
		length++
	}
	return length
}

func TestDrawnOrders(t *testing.T) {
	tries := map[int]int{}
	for i, s := range append(seedsOfDraws(300), oddSeeds()...) {
		for n := int64(1); n <= 64; n++ {
			if n > 4 && n < 64 && (int64(i)+n)%16 != 0 {
				continue
			}
			d := draws{s}
			want := orderReference(&d, n, 1)
			end, order, ok := impl.DrawnOrder(s, n)
			wantDrawnList(t, fmt.Sprint("DrawnOrder ", s, n), d, want, end, order, ok)
			d = draws{s}
			want = orderReference(&d, n, 0)
			end, order, ok = impl.RingOrder(s, n)
			wantDrawnList(t, fmt.Sprint("RingOrder ", s, n), d, want, end, order, ok)
			wantSame(t, "how long the ring is", int64(ringLength(order)), n)
			if n == 1 {
				continue
			}
			d = draws{s}
			want, taken := movedReference(&d, n)
			tries[taken]++
			end, order, ok = impl.MovedOrder(s, n)
			wantDrawnList(t, fmt.Sprint("MovedOrder ", s, n), d, want, end, order, ok)
			wantSame(t, "it moves all numbers", movesAll(order), true)
		}
	}
	for taken := 1; taken <= 8; taken++ {
		wantSame(t, fmt.Sprint("some orders that move all take so many tries: ", taken), tries[taken] > 0, true)
	}
}

func TestDrawnOrdersFail(t *testing.T) {
	draw := map[string]func(s impl.Seed, n int64) (impl.Seed, []int64, bool){"DrawnOrder": impl.DrawnOrder, "RingOrder": impl.RingOrder, "MovedOrder": impl.MovedOrder}
	for name, call := range draw {
		for _, s := range append(badSeeds(), drawnSeeds(4)...) {
			for _, n := range append(badCounts(), 0) {
				end, order, ok := call(s, n)
				wantFailure(t, fmt.Sprint(name, s, n), end, order, ok)
			}
		}
		for _, s := range badSeeds() {
			for _, n := range []int64{1, 2, 3, 64} {
				end, order, ok := call(s, n)
				wantFailure(t, fmt.Sprint(name, s, n), end, order, ok)
			}
		}
	}
	for _, s := range append(drawnSeeds(20), oddSeeds()...) {
		end, order, ok := impl.MovedOrder(s, 1)
		wantFailure(t, fmt.Sprint("MovedOrder of one number ", s), end, order, ok)
	}
}

func TestDrawnOrdersOfKnownWords(t *testing.T) {
	for _, c := range []struct {
		first, second int64
		drawn, ring   []int64
	}{
		{0, 0, []int64{1, 2, 0}, []int64{1, 2, 0}}, {0, 1, []int64{2, 1, 0}, []int64{1, 2, 0}}, {1, 0, []int64{2, 0, 1}, []int64{2, 0, 1}},
		{1, 1, []int64{0, 2, 1}, []int64{2, 0, 1}}, {2, 0, []int64{1, 0, 2}, []int64{1, 2, 0}}, {2, 1, []int64{0, 1, 2}, []int64{1, 2, 0}},
	} {
		s := lineOfWords(c.first, c.second)
		end, order, ok := impl.DrawnOrder(s, 3)
		wantDrawnList(t, fmt.Sprint("DrawnOrder of the words ", c), draws{s}.behind(2), c.drawn, end, order, ok)
		end, order, ok = impl.RingOrder(s, 3)
		wantDrawnList(t, fmt.Sprint("RingOrder of the words ", c), draws{s}.behind(2), c.ring, end, order, ok)
	}
	// The greatest word is not taken for a number below 3.
	for _, c := range []struct{ second, want int64 }{{0, 0}, {1, 1}, {2, 2}} {
		s := lineOfWords(mostWord, c.second)
		d := draws{s}
		want := orderReference(&d, 3, 1)
		wantSame(t, "the last number", want[2], c.want)
		wantSame(t, "how many words are drawn", d, draws{s}.behind(3))
		end, order, ok := impl.DrawnOrder(s, 3)
		wantDrawnList(t, fmt.Sprint("DrawnOrder of a word that is too great, and ", c.second), d, want, end, order, ok)
	}
	for _, s := range append(drawnSeeds(20), oddSeeds()...) {
		end, order, ok := impl.DrawnOrder(s, 1)
		wantDrawnList(t, fmt.Sprint("DrawnOrder of one number ", s), draws{s}, []int64{0}, end, order, ok)
		end, order, ok = impl.RingOrder(s, 1)
		wantDrawnList(t, fmt.Sprint("RingOrder of one number ", s), draws{s}, []int64{0}, end, order, ok)
		end, order, ok = impl.RingOrder(s, 2)
		wantDrawnList(t, fmt.Sprint("RingOrder of two numbers ", s), draws{s}.behind(1), []int64{1, 0}, end, order, ok)
	}
}

func TestDrawnOrdersOfOneSeed(t *testing.T) {
	s := impl.Seed{Kind: impl.SeedCount, A: 1, B: 2}
	_, order, _ := impl.DrawnOrder(s, 20)
	wantList(t, "DrawnOrder", order, []int64{11, 14, 17, 5, 15, 16, 7, 1, 12, 2, 10, 19, 3, 0, 18, 13, 9, 6, 4, 8})
	_, order, _ = impl.RingOrder(s, 20)
	wantList(t, "RingOrder", order, []int64{4, 13, 12, 18, 15, 10, 9, 2, 16, 3, 19, 17, 14, 6, 5, 8, 11, 7, 0, 1})
	_, order, _ = impl.MovedOrder(s, 20)
	wantList(t, "MovedOrder", order, []int64{7, 10, 5, 9, 14, 12, 2, 18, 11, 0, 16, 3, 8, 4, 17, 1, 13, 15, 19, 6})
}

// The first 64 orders of three numbers that this seed draws do not move all of
// them, and the next one does. It was found by a search among 50000000000 orders.
var unmoved = impl.Seed{Kind: impl.SeedCount, A: 17865096658522887116, B: 3}

func TestMovedOrderUpToTheLastTry(t *testing.T) {
	d := draws{unmoved}
	want, tries := movedReference(&d, 3)
	wantSame(t, "how many tries the seed was found for", tries, 65)
	end, order, ok := impl.MovedOrder(unmoved, 3)
	wantFailure(t, "MovedOrder whose 65th order moves all", end, order, ok)
	for skipped := 1; skipped <= 64; skipped++ {
		s := draws{unmoved}.behind(2 * skipped).at
		end, order, ok = impl.MovedOrder(s, 3)
		wantDrawnList(t, fmt.Sprint("MovedOrder behind so many tries: ", skipped), d, want, end, order, ok)
	}
}

// TestDrawnOrdersAreEven counts how often each order comes.
func TestDrawnOrdersAreEven(t *testing.T) {
	drawn, rings, moved := map[string]int{}, map[string]int{}, map[string]int{}
	s := impl.Seed{Kind: impl.SeedPair, A: 7, B: 9}
	for range 24000 {
		var order []int64
		s, order, _ = impl.DrawnOrder(s, 4)
		drawn[fmt.Sprint(order)]++
		s, order, _ = impl.RingOrder(s, 4)
		rings[fmt.Sprint(order)]++
		s, order, _ = impl.MovedOrder(s, 4)
		moved[fmt.Sprint(order)]++
	}
	for _, c := range []struct {
		counts map[string]int
		orders int
	}{{drawn, 24}, {rings, 6}, {moved, 9}} {
		wantSame(t, "how many orders come", len(c.counts), c.orders)
		for order, n := range c.counts {
			wantNear(t, "how often the order comes: "+order, float64(n)/24000, 1/float64(c.orders), 0.012)
		}
	}
}

func wantLists(t *testing.T, what string, got, want [][]int64) {
	t.Helper()
	if fmt.Sprint(got) != fmt.Sprint(want) {
		t.Errorf("%s: got %v, want %v", what, got, want)
	}
}

// cyclesReference marks what has been in a cycle in a map.
func cyclesReference(order []int64) [][]int64 {
	done := map[int64]bool{}
	cycles := [][]int64{}
	for first := range int64(len(order)) {
		if done[first] {
			continue
		}
		cycle := []int64{first}
		for at := order[first]; at != first; at = order[at] {
			cycle = append(cycle, at)
		}
		for _, number := range cycle {
			done[number] = true
		}
		cycles = append(cycles, cycle)
	}
	return cycles
}

func wantCycles(t *testing.T, order []int64) {
	t.Helper()
	cycles, ok := impl.CyclesOf(order)
	wantLists(t, fmt.Sprint("CyclesOf ", order), cycles, cyclesReference(order))
	wantSame(t, "CyclesOf succeeds", ok, true)
	n := int64(len(order))
	back, ok := impl.OrderOfCycles(cycles, n)
	wantList(t, fmt.Sprint("OrderOfCycles ", cycles), back, order)
	wantSame(t, "OrderOfCycles succeeds", ok, true)
	// Cycles tell the same order wherever they begin, and in any order of theirs.
	for i, cycle := range cycles {
		cycles[i] = append(slices.Clone(cycle[len(cycle)/2:]), cycle[:len(cycle)/2]...)
	}
	slices.Reverse(cycles)
	back, ok = impl.OrderOfCycles(cycles, n)
	wantList(t, fmt.Sprint("OrderOfCycles ", cycles), back, order)
	wantSame(t, "OrderOfCycles of turned cycles succeeds", ok, true)
	for _, bad := range []int64{n - 1, n + 1, 0, -n} {
		back, ok = impl.OrderOfCycles(cycles, bad)
		wantFailure(t, fmt.Sprint("OrderOfCycles ", cycles, bad), back, ok)
	}
}

func TestCycles(t *testing.T) {
	for n := 1; n <= 6; n++ {
		for _, order := range ordersOf(n) {
			wantCycles(t, order)
		}
	}
	for _, order := range drawnOrders() {
		wantCycles(t, order)
	}
	cycles, _ := impl.CyclesOf([]int64{2, 0, 1})
	wantLists(t, "CyclesOf the example", cycles, [][]int64{{0, 2, 1}})
	cycles, _ = impl.CyclesOf([]int64{0, 4, 2, 5, 1, 3})
	wantLists(t, "CyclesOf a known order", cycles, [][]int64{{0}, {1, 4}, {2}, {3, 5}})
	order, _ := impl.OrderOfCycles([][]int64{{5, 3}, {2}, {4, 0, 1}}, 6)
	wantList(t, "OrderOfCycles that are known", order, []int64{1, 4, 2, 5, 0, 3})
}

func TestOrderOfCyclesFails(t *testing.T) {
	for _, c := range []struct {
		cycles [][]int64
		n      int64
	}{
		{nil, 0}, {nil, 1}, {nil, -1}, {[][]int64{{}}, 0}, {[][]int64{{}}, 1}, {[][]int64{{}, {0}}, 1}, {[][]int64{{0}, {}}, 1}, {[][]int64{{0}, nil, {1}}, 2},
		{[][]int64{{0, 0}}, 1}, {[][]int64{{0, 0}}, 2}, {[][]int64{{0}, {0}}, 1}, {[][]int64{{0}, {0}}, 2}, {[][]int64{{0, 1}, {1}}, 2}, {[][]int64{{0, 1}, {1}}, 3},
		{[][]int64{{0, 2}}, 2}, {[][]int64{{0, 2}}, 3}, {[][]int64{{1, 2}}, 2}, {[][]int64{{0, -1}}, 2}, {[][]int64{{0}, {2, 1}}, 2}, {[][]int64{{0}, {2, 1}}, 4},
		{[][]int64{{math.MinInt64}}, 1}, {[][]int64{{math.MaxInt64}}, 1}, {[][]int64{{wordsEnd}}, 1},
		{[][]int64{ascending(65)}, 65}, {[][]int64{ascending(64), {64}}, 65}, {[][]int64{ascending(64), {0}}, 64}, {[][]int64{ascending(64)}, 63}, {[][]int64{ascending(64)}, 65},
		{[][]int64{ascending(64), {}}, 64}, {[][]int64{ascending(300)}, 300}, {repeated([]int64{0}, 64), 64}, {repeated([]int64{}, 64), 64}, {[][]int64{{0, 1}}, math.MaxInt64}, {[][]int64{{0, 1}}, math.MinInt64},
	} {
		order, ok := impl.OrderOfCycles(c.cycles, c.n)
		wantFailure(t, fmt.Sprint("OrderOfCycles ", c), order, ok)
	}
	order, ok := impl.OrderOfCycles([][]int64{ascending(64)}, 64)
	wantList(t, "OrderOfCycles of the longest one", order, append(ascending(64)[1:], 0))
	wantSame(t, "OrderOfCycles of the longest one succeeds", ok, true)
	single := [][]int64{}
	for i := range int64(64) {
		single = append(single, []int64{63 - i})
	}
	order, ok = impl.OrderOfCycles(single, 64)
	wantList(t, "OrderOfCycles of most ones", order, ascending(64))
	wantSame(t, "OrderOfCycles of most ones succeeds", ok, true)
	// As long as they are, the same numbers again and again are not looked at for long.
	long := make([]int64, 1<<20)
	order, ok = impl.OrderOfCycles(repeated(long, 1<<20), 64)
	wantFailure(t, "OrderOfCycles of very many numbers", order, ok)
}

func codeReference(order []int64) []int64 {
	code := []int64{}
	for i := range order {
		rest := slices.Clone(order[i:])
		slices.Sort(rest)
		code = append(code, int64(slices.Index(rest, order[i])))
	}
	return code
}

func wantCode(t *testing.T, order []int64) {
	t.Helper()
	code, ok := impl.CodeOfOrder(order)
	wantList(t, fmt.Sprint("CodeOfOrder ", order), code, codeReference(order))
	wantSame(t, "CodeOfOrder succeeds", ok, true)
	back, ok := impl.OrderOfCode(code)
	wantList(t, fmt.Sprint("OrderOfCode ", code), back, order)
	wantSame(t, "OrderOfCode succeeds", ok, true)
	for i := range code {
		for _, bad := range []int64{-1, int64(len(code) - i), 64, math.MinInt64, math.MaxInt64} {
			spoilt := slices.Clone(code)
			spoilt[i] = bad
			back, ok = impl.OrderOfCode(spoilt)
			wantFailure(t, fmt.Sprint("OrderOfCode ", spoilt), back, ok)
		}
	}
}

func TestCodesOfOrders(t *testing.T) {
	for n := 1; n <= 5; n++ {
		for _, order := range ordersOf(n) {
			wantCode(t, order)
		}
	}
	for _, order := range drawnOrders() {
		wantCode(t, order)
	}
	code, _ := impl.CodeOfOrder([]int64{2, 0, 1})
	wantList(t, "CodeOfOrder of the example", code, []int64{2, 0, 0})
	for _, list := range [][]int64{nil, make([]int64, 65), make([]int64, 256), descending(65)} {
		order, ok := impl.OrderOfCode(list)
		wantFailure(t, fmt.Sprint("OrderOfCode ", list), order, ok)
	}
	order, ok := impl.OrderOfCode(descending(64))
	wantList(t, "OrderOfCode of the greatest code", order, descending(64))
	wantSame(t, "OrderOfCode of the greatest code succeeds", ok, true)
}

func wantNumbered(t *testing.T, order []int64, number int64) {
	t.Helper()
	n := int64(len(order))
	got, ok := impl.NumberOfOrder(order)
	wantSame(t, fmt.Sprint("NumberOfOrder ", order), got, number)
	wantSame(t, "NumberOfOrder succeeds", ok, true)
	back, ok := impl.OrderOfNumber(n, number)
	wantList(t, fmt.Sprint("OrderOfNumber ", n, number), back, order)
	wantSame(t, "OrderOfNumber succeeds", ok, true)
}

func TestNumbersOfOrders(t *testing.T) {
	for n := 1; n <= 7; n++ {
		for number, order := range ordersOf(n) {
			wantNumbered(t, order, int64(number))
		}
	}
	all := int64(1)
	for n := int64(1); n <= 20; n++ {
		all *= n
		wantNumbered(t, ascending(n), 0)
		wantNumbered(t, descending(n), all-1)
		if n > 1 {
			order := descending(n)
			order[n-1], order[n-2] = 1, 0
			wantNumbered(t, order, all-2)
			order = ascending(n)
			order[0], order[1] = 1, 0
			wantNumbered(t, order, all/n)
		}
		for _, k := range []int64{-1, all, all + 1, all * 2, math.MaxInt64, math.MinInt64} {
			order, ok := impl.OrderOfNumber(n, k)
			wantFailure(t, fmt.Sprint("OrderOfNumber ", n, k), order, ok)
		}
	}
	wantNumbered(t, descending(20), 2432902008176639999)
	wantNumbered(t, []int64{19, 0, 18, 1, 17, 2, 16, 3, 15, 4, 14, 5, 13, 6, 12, 7, 11, 8, 10, 9}, 2317323290554617019)
}

func TestNumbersOfDrawnOrders(t *testing.T) {
	for _, order := range drawnOrders() {
		if len(order) > 20 {
			number, ok := impl.NumberOfOrder(order)
			wantFailure(t, fmt.Sprint("NumberOfOrder ", order), number, ok)
			continue
		}
		number, rest := int64(0), int64(1)
		code := codeReference(order)
		for i := len(code) - 1; i >= 0; i-- {
			number += code[i] * rest
			rest *= int64(len(code) - i)
		}
		wantNumbered(t, order, number)
	}
	for _, n := range append(badCounts(), 0, 21, 22, 63, 64) {
		for _, k := range []int64{0, 1, -1, 1000, math.MaxInt64, math.MinInt64} {
			order, ok := impl.OrderOfNumber(n, k)
			wantFailure(t, fmt.Sprint("OrderOfNumber ", n, k), order, ok)
		}
	}
}
