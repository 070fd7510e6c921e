package tests

import (
	"fmt"
	"math"
	"slices"
	"testing"

	"loop.example/g01339/impl"
)

// badEdges are lists that are no edges of n numbers, from 5 to 64.
func badEdges(n int64) [][]int64 {
	lists := [][]int64{
		{0}, {0, 1, 2}, {0, 1, 1, 2, 3}, {0, 0}, {3, 3}, {1, 0}, {3, 2}, {-1, 0}, {-2, -1}, {0, n}, {n - 1, n}, {n, n + 1}, {0, math.MaxInt64}, {math.MinInt64, 0}, {0, wordsEnd + 1},
		{0, 1, 0, 1}, {2, 3, 2, 3}, {0, 1, 1, 2, 1, 2}, {1, 2, 0, 1}, {1, 2, 0, 3}, {0, 2, 0, 1}, {0, 1, 0, 3, 0, 2}, {0, 1, 2, 3, 1, 4},
		{0, 1, 1, 1}, {0, 1, 2, 1}, {0, 1, 0, 0}, {0, 1, 1, n}, {0, 1, -1, 2}, {0, n, 1, 2}, {-1, 1, 1, 2}, {0, 1, 3, 2, 3, 4},
	}
	if n > 23 {
		lists = append(lists, listOf(allPairs(n)[:257]), listOf(allPairs(n)[len(allPairs(n))-257:]), listOf(allPairs(24)), listOf(allPairs(n)), listOf(allPairs(n)[:256])[1:], append(listOf(allPairs(n)[:256]), n-1))
	}
	return lists
}

type graph struct {
	n     int64
	edges []int64
}

// drawnGraphs has edges of many kinds, those with the most ones among them.
func drawnGraphs() []graph {
	d := drawnBits(81)
	var graphs []graph
	for _, n := range []int64{1, 2, 3, 4, 5, 6, 8, 11, 16, 23, 24, 33, 63, 64} {
		graphs = append(graphs, graph{n, nil})
		for _, count := range []int{1, 2, 3, 5, int(n) - 1, int(n), int(n) * 2, 100, 255, 256} {
			pairs := allPairs(n)
			for i := range pairs {
				k := i + int(d.next())%(len(pairs)-i)
				pairs[i], pairs[k] = pairs[k], pairs[i]
			}
			graphs = append(graphs, graph{n, listOf(pairs[:min(count, len(pairs), 256)])})
		}
	}
	return graphs
}

func degreesReference(edges []int64, n int64) []int64 {
	degrees := make([]int64, n)
	for _, number := range edges {
		degrees[number]++
	}
	return degrees
}

func TestEdges(t *testing.T) {
	for _, g := range drawnGraphs() {
		n, edges := g.n, g.edges
		wantSame(t, fmt.Sprint("AreEdges ", edges, n), impl.AreEdges(edges, n), true)
		degrees, ok := impl.DegreesOf(edges, n)
		wantList(t, fmt.Sprint("DegreesOf ", edges, n), degrees, degreesReference(edges, n))
		wantSame(t, "DegreesOf succeeds", ok, true)
		for _, bad := range append(badCounts(), 0) {
			wantNoEdges(t, edges, bad)
		}
		if len(edges) > 0 {
			wantNoEdges(t, edges, slices.Max(edges))
			wantNoEdges(t, edges[1:], n)
		}
		if len(edges) > 2 {
			wantNoEdges(t, append(slices.Clone(edges[2:]), edges[:2]...), n)
			wantNoEdges(t, append(slices.Clone(edges[:2]), edges...), n)
		}
	}
	for _, n := range []int64{5, 6, 24, 63, 64} {
		for _, edges := range badEdges(n) {
			wantNoEdges(t, edges, n)
		}
	}
	degrees, _ := impl.DegreesOf([]int64{0, 1, 1, 2}, 4)
	wantList(t, "DegreesOf known edges", degrees, []int64{1, 2, 1, 0})
	degrees, _ = impl.DegreesOf(nil, 1)
	wantList(t, "DegreesOf one number alone", degrees, []int64{0})
	star := []int64{}
	for i := int64(1); i < 64; i++ {
		star = append(star, 0, i)
	}
	degrees, _ = impl.DegreesOf(star, 64)
	wantList(t, "DegreesOf a star, greater than degrees can be", degrees, append([]int64{63}, repeated(int64(1), 63)...))
}

// wantNoEdges looks at all functions with edges.
func wantNoEdges(t *testing.T, edges []int64, n int64) {
	t.Helper()
	wantSame(t, fmt.Sprint("AreEdges ", edges, n), impl.AreEdges(edges, n), false)
	degrees, ok := impl.DegreesOf(edges, n)
	wantFailure(t, fmt.Sprint("DegreesOf ", edges, n), degrees, ok)
	code, ok := impl.CodeOfTree(edges, n)
	wantFailure(t, fmt.Sprint("CodeOfTree ", edges, n), code, ok)
	for _, times := range []int64{0, 1, 5} {
		end, switched, ok := impl.SwitchEdges(impl.Seed{Kind: impl.SeedCount}, edges, n, times)
		wantFailure(t, fmt.Sprint("SwitchEdges ", edges, n, times), end, switched, ok)
	}
}

// graphReference sets the degrees that are left to one less again and again.
func graphReference(degrees []int64) ([]int64, bool) {
	left := slices.Clone(degrees)
	pairs := []pair{}
	for slices.Max(left) > 0 {
		at := slices.Index(left, slices.Max(left))
		wanted := left[at]
		left[at] = 0
		var others []int
		for degree := int64(16); degree >= 1; degree-- {
			for i, other := range left {
				if other == degree && int64(len(others)) < wanted {
					others = append(others, i)
				}
			}
		}
		if int64(len(others)) < wanted {
			return nil, false
		}
		for _, other := range others {
			left[other]--
			pairs = append(pairs, pairOf(int64(at), int64(other)))
		}
	}
	return listOf(pairs), len(pairs) <= 256
}

func wantGraph(t *testing.T, degrees []int64, can bool) {
	t.Helper()
	wantSame(t, fmt.Sprint("CanBeDegrees ", degrees), impl.CanBeDegrees(degrees), can)
	edges, ok := impl.GraphOfDegrees(degrees)
	if !can {
		wantFailure(t, fmt.Sprint("GraphOfDegrees ", degrees), edges, ok)
		return
	}
	want, _ := graphReference(degrees)
	wantList(t, fmt.Sprint("GraphOfDegrees ", degrees), edges, want)
	wantSame(t, "GraphOfDegrees succeeds", ok, true)
	back, ok := impl.DegreesOf(edges, int64(len(degrees)))
	wantList(t, fmt.Sprint("DegreesOf ", edges), back, degrees)
	wantSame(t, "DegreesOf succeeds", ok, true)
}

// TestDegreesOfAllSmallGraphs looks which degrees the graphs of up to 5 numbers have.
func TestDegreesOfAllSmallGraphs(t *testing.T) {
	for n := int64(1); n <= 5; n++ {
		there := map[string]bool{}
		for count := 0; count <= len(allPairs(n)); count++ {
			for _, pairs := range partsOf(allPairs(n), count) {
				there[fmt.Sprint(degreesReference(listOf(pairs), n))] = true
			}
		}
		lists := 1
		for range n {
			lists *= 6
		}
		for i := range lists {
			degrees := make([]int64, n)
			for k := range degrees {
				degrees[k] = int64(i % 6)
				i /= 6
			}
			wantGraph(t, degrees, there[fmt.Sprint(degrees)])
		}
	}
}

// canBeReference looks at the degrees that the first ones, in descending order, can have at most.
func canBeReference(degrees []int64) bool {
	sorted := slices.Clone(degrees)
	slices.Sort(sorted)
	slices.Reverse(sorted)
	sum := int64(0)
	for i, degree := range sorted {
		sum += degree
		most := int64(i) * int64(i+1)
		for _, other := range sorted[i+1:] {
			most += min(other, int64(i+1))
		}
		if sum > most {
			return false
		}
	}
	return sum%2 == 0 && sum <= 512
}

// drawnDegrees has degrees that graphs have, and others.
func drawnDegrees() [][]int64 {
	var lists [][]int64
	for _, g := range drawnGraphs() {
		degrees := degreesReference(g.edges, g.n)
		if slices.Max(degrees) <= 16 {
			lists = append(lists, degrees)
		}
	}
	d := drawnBits(82)
	for n := 1; n <= 64; n++ {
		for _, greatest := range []int{1, 2, 3, 5, 8, 16} {
			degrees := []int64{}
			for range n {
				degrees = append(degrees, int64(d.next())%int64(min(greatest, n)+1))
			}
			lists = append(lists, degrees)
		}
	}
	return append(lists, repeated(int64(16), 17), repeated(int64(16), 16), repeated(int64(16), 18), repeated(int64(0), 64), repeated(int64(1), 64), repeated(int64(1), 63))
}

// longDegrees have the sum 512, or more.
func longDegrees(sum int64) []int64 {
	degrees := repeated(int64(8), 64)
	for i := int64(0); i < sum-512; i++ {
		degrees[i*7%64]++
	}
	return degrees
}

func TestGraphOfDegrees(t *testing.T) {
	graphs, others := 0, 0
	for _, degrees := range drawnDegrees() {
		can := canBeReference(degrees)
		if can {
			graphs++
		} else {
			others++
		}
		wantGraph(t, degrees, can)
	}
	wantSame(t, fmt.Sprint("some lists are degrees, and some are not: ", graphs, others), graphs > 100 && others > 100, true)
	for _, degrees := range [][]int64{longDegrees(512), repeated(int64(16), 32), append(repeated(int64(16), 31), 8, 8), append(repeated(int64(15), 34), 2)} {
		wantGraph(t, degrees, true)
	}
	for _, degrees := range [][]int64{longDegrees(513), longDegrees(514), longDegrees(516), repeated(int64(16), 33), repeated(int64(16), 64), append(repeated(int64(16), 32), 1, 1)} {
		wantGraph(t, degrees, false)
	}
	edges, _ := impl.GraphOfDegrees([]int64{1, 3, 2, 2, 0})
	wantList(t, "GraphOfDegrees that are known", edges, []int64{0, 1, 1, 2, 1, 3, 2, 3})
	edges, _ = impl.GraphOfDegrees([]int64{1, 1, 2, 2, 2, 2})
	wantList(t, "GraphOfDegrees that are known", edges, []int64{0, 5, 1, 5, 2, 3, 2, 4, 3, 4})
}

func badDegrees() [][]int64 {
	return [][]int64{nil, {-1}, {17}, {1, -1}, {-1, 1}, {1, 1, -2}, {math.MinInt64}, {math.MaxInt64}, {math.MaxInt64, math.MaxInt64}, {wordsEnd, 0},
		{1 << 62, 1 << 62, 1 << 62, 1 << 62}, make([]int64, 65), repeated(int64(1), 66), repeated(int64(17), 18), append(repeated(int64(1), 17), 17), make([]int64, 256)}
}

func TestDegreesThatAreNone(t *testing.T) {
	for _, degrees := range badDegrees() {
		wantGraph(t, degrees, false)
		for _, s := range append(badSeeds(), drawnSeeds(4)...) {
			end, edges, ok := impl.DrawnGraph(s, degrees)
			wantFailure(t, fmt.Sprint("DrawnGraph ", s, degrees), end, edges, ok)
		}
	}
}

// graphsReference draws lists until one is a graph, and returns how many it
// takes as well; with most ones that are none, there is no graph.
func graphsReference(d *draws, degrees []int64, most int) ([]int64, int) {
	for lists := 1; lists <= most; lists++ {
		ends := []int64{}
		for i, degree := range degrees {
			ends = append(ends, repeated(int64(i), int(degree))...)
		}
		for i := len(ends) - 1; i >= 1; i-- {
			k := d.below(int64(i) + 1)
			ends[i], ends[k] = ends[k], ends[i]
		}
		pairs, there := []pair{}, map[pair]bool{}
		for _, p := range pairsOf(ends) {
			pairs = append(pairs, pairOf(p[0], p[1]))
			there[pairOf(p[0], p[1])] = p[0] != p[1]
		}
		loops := slices.ContainsFunc(pairs, func(p pair) bool { return !there[p] })
		if !loops && len(there) == len(pairs) {
			return listOf(pairs), lists
		}
	}
	return nil, most + 1
}

func wantDrawnGraph(t *testing.T, s impl.Seed, degrees []int64) int {
	t.Helper()
	d := draws{s}
	want, lists := graphsReference(&d, degrees, 64)
	end, edges, ok := impl.DrawnGraph(s, degrees)
	what := fmt.Sprint("DrawnGraph ", s, degrees)
	if lists > 64 {
		wantFailure(t, what, end, edges, ok)
		return lists
	}
	wantDrawnList(t, what, d, want, end, edges, ok)
	n := int64(len(degrees))
	wantSame(t, fmt.Sprint("the edges of ", what), impl.AreEdges(edges, n), true)
	wantList(t, fmt.Sprint("the degrees of ", what), degreesReference(edges, n), degrees)
	return lists
}

func TestDrawnGraph(t *testing.T) {
	lists := map[int]int{}
	for i, s := range seedsOfDraws(200) {
		for k, degrees := range [][]int64{{0}, {0, 0, 0}, {1, 1}, {0, 1, 0, 1}, {2, 1, 1}, {1, 1, 1, 1}, {2, 2, 2}, {3, 3, 3, 3}, {3, 1, 2, 1, 1, 2}, {4, 4, 4, 4, 4}, repeated(int64(1), 64), repeated(int64(2), 30)} {
			if k < 5 || (i+k)%8 == 0 {
				lists[wantDrawnGraph(t, s, degrees)]++
			}
		}
	}
	for i, degrees := range drawnDegrees() {
		sum := int64(0)
		for _, degree := range degrees {
			sum += degree
		}
		if sum%2 == 0 && sum < 60 {
			lists[wantDrawnGraph(t, drawnSeeds(5)[i%5], degrees)]++
		}
	}
	for taken := 1; taken <= 6; taken++ {
		wantSame(t, fmt.Sprint("some graphs take so many lists: ", taken), lists[taken] > 0, true)
	}
	wantSame(t, "some graphs take too many lists", lists[65] > 0, true)
	_, edges, _ := impl.DrawnGraph(impl.Seed{Kind: impl.SeedCount, A: 1, B: 2}, []int64{3, 1, 2, 0, 2, 2})
	wantList(t, "DrawnGraph of one seed", edges, []int64{0, 2, 0, 4, 0, 5, 1, 2, 4, 5})
}

func TestDrawnGraphOfNothing(t *testing.T) {
	for _, s := range append(drawnSeeds(8), oddSeeds()...) {
		for _, n := range []int{1, 2, 64} {
			end, edges, ok := impl.DrawnGraph(s, make([]int64, n))
			wantDrawnList(t, fmt.Sprint("DrawnGraph of no edges ", s, n), draws{s}, nil, end, edges, ok)
		}
	}
	for _, s := range badSeeds() {
		for _, degrees := range [][]int64{{0}, {0, 0}, {1, 1}, {2, 2, 2}, {1, 0}} {
			end, edges, ok := impl.DrawnGraph(s, degrees)
			wantFailure(t, fmt.Sprint("DrawnGraph ", s, degrees), end, edges, ok)
		}
	}
}

func TestDrawnGraphFails(t *testing.T) {
	for _, s := range drawnSeeds(8) {
		for _, degrees := range [][]int64{
			// These sums are odd.
			{1}, {1, 0}, {1, 1, 1}, {2, 1}, longDegrees(513),
			// No graph has these degrees.
			{2}, {2, 0}, {2, 2}, {3, 1}, {16}, {4, 4, 4, 4},
			// These sums are too great.
			longDegrees(514), repeated(int64(16), 33), repeated(int64(16), 64), append(repeated(int64(16), 32), 1, 1),
		} {
			end, edges, ok := impl.DrawnGraph(s, degrees)
			wantFailure(t, fmt.Sprint("DrawnGraph ", s, degrees), end, edges, ok)
		}
	}
}

// TestDrawnGraphUpToTheLastList has seeds that were found by drawing again and again.
func TestDrawnGraphUpToTheLastList(t *testing.T) {
	degrees := []int64{3, 3, 3, 3}
	for _, s := range []impl.Seed{{Kind: impl.SeedShift, A: 0xeebb38206f10c0bf, B: 0x11}, {Kind: impl.SeedShift, A: 0x3d1d67a595f96f8d, B: 0x3d}, {Kind: impl.SeedLine, A: 0x2bc18d0d55e688af, B: 0x91d}} {
		wantSame(t, fmt.Sprint("how many lists the seed takes, one too many ", s), wantDrawnGraph(t, s, degrees), 65)
		next := draws{s}.behind(11).at
		wantSame(t, fmt.Sprint("how many lists the seed takes, as many as can be ", next), wantDrawnGraph(t, next, degrees), 64)
	}
}

// TestDrawnGraphOfMostEdges has a seed that was found among 150000 others: most
// lists with this sum have an edge twice.
func TestDrawnGraphOfMostEdges(t *testing.T) {
	lists := wantDrawnGraph(t, impl.Seed{Kind: impl.SeedCount, A: 0x2531e, B: 1001}, longDegrees(512))
	wantSame(t, fmt.Sprint("the seed takes not too many lists: ", lists), lists <= 64, true)
}

// switchReference switches edges in a list alone.
func switchReference(d *draws, edges []int64, times int64) []int64 {
	pairs := pairsOf(edges)
	for range times {
		if len(pairs) == 0 {
			break
		}
		i, k, turn := d.below(int64(len(pairs))), d.below(int64(len(pairs))), d.below(2)
		former, latter := pairs[i], pairs[k]
		if turn == 1 {
			latter = pair{latter[1], latter[0]}
		}
		different := map[int64]bool{former[0]: true, former[1]: true, latter[0]: true, latter[1]: true}
		one, other := pairOf(former[0], latter[1]), pairOf(latter[0], former[1])
		if len(different) == 4 && !slices.Contains(pairs, one) && !slices.Contains(pairs, other) {
			pairs[i], pairs[k] = one, other
			pairs = pairsOf(listOf(pairs))
		}
	}
	return listOf(pairs)
}

func TestSwitchEdges(t *testing.T) {
	seeds := append(drawnSeeds(24), oddSeeds()[:40]...)
	count, changed := 0, 0
	for _, g := range drawnGraphs() {
		for _, times := range []int64{0, 1, 2, 3, 10, 60} {
			count++
			s := seeds[count%len(seeds)]
			d := draws{s}
			want := switchReference(&d, g.edges, times)
			end, switched, ok := impl.SwitchEdges(s, g.edges, g.n, times)
			what := fmt.Sprint("SwitchEdges ", s, g, times)
			wantDrawnList(t, what, d, want, end, switched, ok)
			wantSame(t, "the edges of "+what, impl.AreEdges(switched, g.n), true)
			wantList(t, "the degrees of "+what, degreesReference(switched, g.n), degreesReference(g.edges, g.n))
			if !slices.Equal(switched, g.edges) {
				changed++
			}
		}
	}
	wantSame(t, fmt.Sprint("many edges are changed: ", changed, " of ", count), changed > count/4, true)
}

func TestSwitchEdgesOfKnownWords(t *testing.T) {
	// Three words tell the only change: which two edges, and whether the latter is turned.
	first := impl.Seed{Kind: impl.SeedCount}
	seen := map[[3]int64]bool{}
	for range 200 {
		d := draws{first}
		i, k, turn := d.below(2), d.below(2), d.below(2)
		seen[[3]int64{i, k, turn}] = true
		want := []int64{0, 2, 1, 3}
		switch {
		case i == k:
		case turn == 1:
			want = []int64{0, 1, 2, 3}
		default:
			want = []int64{0, 3, 1, 2}
		}
		end, switched, ok := impl.SwitchEdges(first, []int64{0, 2, 1, 3}, 4, 1)
		wantDrawnList(t, fmt.Sprint("SwitchEdges ", first), d, want, end, switched, ok)
		first = draws{first}.behind(1).at
	}
	wantSame(t, "all kinds of three words come", len(seen), 8)
	for _, s := range append(drawnSeeds(8), oddSeeds()...) {
		// Nothing is drawn for no edges; other edges here have no others to change with.
		end, switched, ok := impl.SwitchEdges(s, nil, 1, 1000)
		wantDrawnList(t, fmt.Sprint("SwitchEdges of none ", s), draws{s}, nil, end, switched, ok)
		for _, edges := range [][]int64{{0, 1}, {0, 1, 0, 2, 0, 3}, listOf(allPairs(4))} {
			end, switched, ok = impl.SwitchEdges(s, edges, 4, 0)
			wantDrawnList(t, fmt.Sprint("SwitchEdges no times ", s), draws{s}, edges, end, switched, ok)
			d := draws{s}
			switchReference(&d, edges, 20)
			end, switched, ok = impl.SwitchEdges(s, edges, 4, 20)
			wantDrawnList(t, fmt.Sprint("SwitchEdges that stay ", s), d, edges, end, switched, ok)
		}
	}
	for _, s := range drawnSeeds(4) {
		d := draws{s}
		edges := listOf(allPairs(33)[7:263])
		want := switchReference(&d, edges, 1000)
		end, switched, ok := impl.SwitchEdges(s, edges, 33, 1000)
		wantDrawnList(t, fmt.Sprint("SwitchEdges most times ", s), d, want, end, switched, ok)
	}
	_, switched, _ := impl.SwitchEdges(impl.Seed{Kind: impl.SeedCount, A: 1, B: 2}, []int64{0, 1, 1, 2, 2, 3, 3, 4, 4, 5, 5, 6}, 7, 10)
	wantList(t, "SwitchEdges of one seed", switched, []int64{0, 2, 1, 4, 1, 5, 2, 3, 3, 4, 5, 6})
}

func TestSwitchEdgesFails(t *testing.T) {
	for _, edges := range [][]int64{nil, {0, 1}, {0, 1, 2, 3}} {
		for _, s := range drawnSeeds(4) {
			for _, times := range []int64{-1, 1001, wordsEnd, math.MaxInt64, math.MinInt64} {
				end, switched, ok := impl.SwitchEdges(s, edges, 4, times)
				wantFailure(t, fmt.Sprint("SwitchEdges ", s, edges, times), end, switched, ok)
			}
		}
		for _, s := range badSeeds() {
			for _, times := range []int64{0, 1, 1000} {
				end, switched, ok := impl.SwitchEdges(s, edges, 4, times)
				wantFailure(t, fmt.Sprint("SwitchEdges ", s, edges, times), end, switched, ok)
			}
		}
	}
}
