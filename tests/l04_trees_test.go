package tests

import (
	"fmt"
	"math"
	"slices"
	"testing"

	"loop.example/g01339/impl"
)

// pair is an edge, whose lesser number comes first.
type pair = [2]int64

func pairOf(a, b int64) pair { return pair{min(a, b), max(a, b)} }

// listOf puts pairs in order.
func listOf(pairs []pair) []int64 {
	sorted := slices.Clone(pairs)
	slices.SortFunc(sorted, func(a, b pair) int { return slices.Compare(a[:], b[:]) })
	list := []int64{}
	for _, p := range sorted {
		list = append(list, p[0], p[1])
	}
	return list
}

func pairsOf(list []int64) []pair {
	pairs := []pair{}
	for i := 0; i < len(list); i += 2 {
		pairs = append(pairs, pair{list[i], list[i+1]})
	}
	return pairs
}

// allPairs returns all edges of n numbers, in order.
func allPairs(n int64) []pair {
	pairs := []pair{}
	for a := range n {
		for b := a + 1; b < n; b++ {
			pairs = append(pairs, pair{a, b})
		}
	}
	return pairs
}

// partsOf returns all lists that have count of the pairs.
func partsOf(pairs []pair, count int) [][]pair {
	if count == 0 {
		return [][]pair{{}}
	}
	var parts [][]pair
	for i := range pairs {
		for _, rest := range partsOf(pairs[i+1:], count-1) {
			parts = append(parts, append([]pair{pairs[i]}, rest...))
		}
	}
	return parts
}

// joinsAll lets the numbers that are joined with 0 become more until none is new.
func joinsAll(pairs []pair, n int64) bool {
	reached := map[int64]bool{0: true}
	for before := 0; before < len(reached); {
		before = len(reached)
		for _, p := range pairs {
			if reached[p[0]] || reached[p[1]] {
				reached[p[0]], reached[p[1]] = true, true
			}
		}
	}
	return int64(len(reached)) == n
}

// codeOfTreeReference leaves out one number after another.
func codeOfTreeReference(pairs []pair, n int64) []int64 {
	code := []int64{}
	left := slices.Clone(pairs)
	for len(left) > 1 {
		for leaf := range n {
			at, edges := 0, 0
			for i, p := range left {
				if p[0] == leaf || p[1] == leaf {
					at, edges = i, edges+1
				}
			}
			if edges == 1 {
				code = append(code, left[at][0]+left[at][1]-leaf)
				left = slices.Delete(left, at, at+1)
				break
			}
		}
	}
	return code
}

// treeOfCodeReference takes the least number that is not in the rest of the code.
func treeOfCodeReference(code []int64) []int64 {
	left := ascending(int64(len(code)) + 2)
	pairs := []pair{}
	for i, number := range code {
		at := slices.IndexFunc(left, func(leaf int64) bool { return !slices.Contains(code[i:], leaf) })
		pairs = append(pairs, pairOf(left[at], number))
		left = slices.Delete(left, at, at+1)
	}
	return listOf(append(pairs, pairOf(left[0], left[1])))
}

func wantTree(t *testing.T, code []int64) {
	t.Helper()
	n := int64(len(code)) + 2
	edges, ok := impl.TreeOfCode(code)
	wantList(t, fmt.Sprint("TreeOfCode ", code), edges, treeOfCodeReference(code))
	wantSame(t, "TreeOfCode succeeds", ok, true)
	wantSame(t, fmt.Sprint("the edges of TreeOfCode ", code), impl.AreEdges(edges, n) && joinsAll(pairsOf(edges), n), true)
	back, ok := impl.CodeOfTree(edges, n)
	wantList(t, fmt.Sprint("CodeOfTree ", edges), back, code)
	wantList(t, fmt.Sprint("the code of ", edges), codeOfTreeReference(pairsOf(edges), n), code)
	wantSame(t, "CodeOfTree succeeds", ok, true)
	for _, bad := range []int64{n - 1, n + 1, 0, 1, -n, 65, math.MaxInt64, math.MinInt64} {
		back, ok = impl.CodeOfTree(edges, bad)
		wantFailure(t, fmt.Sprint("CodeOfTree ", edges, bad), back, ok)
	}
}

// codesOf returns all codes of trees of n numbers.
func codesOf(n int64) [][]int64 {
	codes := [][]int64{{}}
	for range n - 2 {
		var longer [][]int64
		for _, code := range codes {
			for number := range n {
				longer = append(longer, append(slices.Clone(code), number))
			}
		}
		codes = longer
	}
	return codes
}

func TestCodesOfAllSmallTrees(t *testing.T) {
	for n := int64(2); n <= 6; n++ {
		trees := map[string]bool{}
		for _, code := range codesOf(n) {
			wantTree(t, code)
			edges, _ := impl.TreeOfCode(code)
			trees[fmt.Sprint(edges)] = true
		}
		wantSame(t, fmt.Sprint("how many trees there are of so many numbers: ", n), len(trees), []int{1, 3, 16, 125, 1296}[n-2])
	}
}

func TestCodesOfDrawnTrees(t *testing.T) {
	d := drawnBits(71)
	for n := int64(2); n <= 64; n++ {
		for range 3 {
			code := make([]int64, n-2)
			few := min(n, int64(d.next()%8)+1)
			for i := range code {
				code[i] = int64(d.next()) % []int64{n, few}[i%2]
			}
			wantTree(t, code)
		}
		// A star around a number, and a path.
		wantTree(t, repeated(int64(0), int(n-2)))
		wantTree(t, repeated(n-1, int(n-2)))
		wantTree(t, ascending(n)[1:n-1])
		wantTree(t, descending(n)[1:n-1])
	}
}

func TestTreesThatAreKnown(t *testing.T) {
	for _, c := range []struct{ code, edges []int64 }{
		{[]int64{}, []int64{0, 1}}, {[]int64{0}, []int64{0, 1, 0, 2}}, {[]int64{1}, []int64{0, 1, 1, 2}}, {[]int64{2}, []int64{0, 2, 1, 2}},
		{[]int64{3, 3}, []int64{0, 3, 1, 3, 2, 3}}, {[]int64{2, 1}, []int64{0, 2, 1, 2, 1, 3}}, {[]int64{3, 3, 3, 4}, []int64{0, 3, 1, 3, 2, 3, 3, 4, 4, 5}},
		{[]int64{7, 7, 1, 0, 4, 6, 5}, []int64{0, 1, 0, 4, 1, 7, 2, 7, 3, 7, 4, 6, 5, 6, 5, 8}},
	} {
		edges, ok := impl.TreeOfCode(c.code)
		wantList(t, fmt.Sprint("TreeOfCode ", c.code), edges, c.edges)
		wantSame(t, "TreeOfCode succeeds", ok, true)
		code, ok := impl.CodeOfTree(c.edges, int64(len(c.code))+2)
		wantList(t, fmt.Sprint("CodeOfTree ", c.edges), code, c.code)
		wantSame(t, "CodeOfTree succeeds", ok, true)
	}
}

func TestTreeOfCodeFails(t *testing.T) {
	for _, code := range [][]int64{
		{3}, {-1}, {math.MaxInt64}, {math.MinInt64}, {wordsEnd}, {0, 4}, {4, 0}, {0, -1}, {-1, 0}, {1, 2, 5}, {1, 5, 2}, {5, 1, 2},
		make([]int64, 63), make([]int64, 64), make([]int64, 256), append(make([]int64, 61), 64), append([]int64{64}, make([]int64, 61)...), append(make([]int64, 61), -1),
	} {
		edges, ok := impl.TreeOfCode(code)
		wantFailure(t, fmt.Sprint("TreeOfCode ", code), edges, ok)
	}
}

// TestEdgesThatAreNoTree looks at all ways to choose edges.
func TestEdgesThatAreNoTree(t *testing.T) {
	for n := int64(2); n <= 6; n++ {
		trees := 0
		for count := max(0, int(n)-2); count <= min(int(n), len(allPairs(n))); count++ {
			for _, pairs := range partsOf(allPairs(n), count) {
				edges := listOf(pairs)
				code, ok := impl.CodeOfTree(edges, n)
				if int64(count) == n-1 && joinsAll(pairs, n) {
					trees++
					wantList(t, fmt.Sprint("CodeOfTree ", edges), code, codeOfTreeReference(pairs, n))
					wantSame(t, "CodeOfTree succeeds", ok, true)
				} else {
					wantFailure(t, fmt.Sprint("CodeOfTree ", edges, n), code, ok)
				}
			}
		}
		wantSame(t, fmt.Sprint("how many trees there are of so many numbers: ", n), trees, []int{1, 3, 16, 125, 1296}[n-2])
	}
	path := []pair{}
	for i := range int64(63) {
		path = append(path, pair{i, i + 1})
	}
	code, ok := impl.CodeOfTree(listOf(path), 64)
	wantList(t, "CodeOfTree of a path", code, ascending(64)[1:63])
	wantSame(t, "CodeOfTree of a path succeeds", ok, true)
	// The others have too many edges, too few, or a ring.
	others := [][]int64{listOf(append(slices.Clone(path), pair{0, 2})), listOf(path[1:]), listOf(append(slices.Clone(path[:62]), pair{0, 62})), listOf(append(slices.Clone(path[1:]), pair{61, 63}))}
	for _, edges := range append(badEdges(64), others...) {
		code, ok := impl.CodeOfTree(edges, 64)
		wantFailure(t, fmt.Sprint("CodeOfTree ", edges), code, ok)
	}
	for _, c := range []struct {
		edges []int64
		n     int64
	}{{nil, 1}, {nil, 0}, {nil, 2}, {[]int64{0, 0}, 2}, {[]int64{1, 0}, 2}, {[]int64{0, 1, 0, 1}, 3}, {[]int64{0, 2, 0, 1}, 3}, {[]int64{0, 1, 2, 1}, 3}, {[]int64{0, 1, 1}, 3}, {[]int64{0, 1, 1, 3}, 3}, {[]int64{-1, 1, 1, 2}, 3}} {
		code, ok := impl.CodeOfTree(c.edges, c.n)
		wantFailure(t, fmt.Sprint("CodeOfTree ", c), code, ok)
	}
}

func TestDrawnTree(t *testing.T) {
	for i, s := range append(seedsOfDraws(300), oddSeeds()...) {
		for n := int64(2); n <= 64; n++ {
			if n > 4 && n < 64 && (int64(i)+n)%16 != 0 || n == 64 && i%8 != 0 {
				continue
			}
			d, code := draws{s}, []int64{}
			for range n - 2 {
				code = append(code, d.below(n))
			}
			end, edges, ok := impl.DrawnTree(s, n)
			wantDrawnList(t, fmt.Sprint("DrawnTree ", s, n), d, treeOfCodeReference(code), end, edges, ok)
		}
	}
	_, edges, _ := impl.DrawnTree(impl.Seed{Kind: impl.SeedCount, A: 1, B: 2}, 12)
	wantList(t, "DrawnTree of one seed", edges, []int64{0, 2, 0, 6, 1, 8, 1, 11, 3, 6, 4, 11, 5, 6, 5, 8, 5, 10, 7, 9, 7, 10})
	// The greatest word is not taken for a number below 3.
	s := lineOfWords(mostWord, 2)
	end, edges, ok := impl.DrawnTree(s, 3)
	wantDrawnList(t, "DrawnTree of a word that is too great", draws{s}.behind(2), []int64{0, 2, 1, 2}, end, edges, ok)
	for _, s := range append(badSeeds(), drawnSeeds(4)...) {
		for _, n := range append(badCounts(), 0, 1) {
			end, edges, ok := impl.DrawnTree(s, n)
			wantFailure(t, fmt.Sprint("DrawnTree ", s, n), end, edges, ok)
		}
	}
	for _, s := range badSeeds() {
		for _, n := range []int64{2, 3, 64} {
			end, edges, ok := impl.DrawnTree(s, n)
			wantFailure(t, fmt.Sprint("DrawnTree ", s, n), end, edges, ok)
		}
	}
}

// TestDrawnTreesAreEven counts how often each tree comes.
func TestDrawnTreesAreEven(t *testing.T) {
	counts := map[string]int{}
	s := impl.Seed{Kind: impl.SeedPair, A: 7, B: 9}
	for range 16000 {
		var edges []int64
		s, edges, _ = impl.DrawnTree(s, 4)
		counts[fmt.Sprint(edges)]++
	}
	wantSame(t, "how many trees come", len(counts), 16)
	for edges, n := range counts {
		wantNear(t, "how often the tree comes: "+edges, float64(n), 1000, 130)
	}
}
