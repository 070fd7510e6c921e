package tests

import (
	"fmt"
	"math"
	"slices"
	"testing"

	"loop.example/g01339/impl"
)

func treeReference(weights []int64) []int64 {
	tree := []int64{}
	for i := 1; i <= len(weights); i++ {
		d := 1
		for i%(2*d) == 0 {
			d *= 2
		}
		sum := int64(0)
		for _, weight := range weights[i-d : i] {
			sum += weight
		}
		tree = append(tree, sum)
	}
	return tree
}

// treeWeights has lists of weights of each length.
func treeWeights() [][]int64 {
	lists := [][]int64{{0}, {1}, {1000000}, {0, 7}, {7, 0}, {1, 2, 3, 4}, repeated[int64](1000000, 64), repeated[int64](0, 64), append(repeated[int64](0, 63), 1)}
	d := drawnBits(41)
	for n := 1; n <= 64; n++ {
		for _, end := range []uint32{2, 10, 1000001} {
			var weights []int64
			for range n {
				weights = append(weights, int64(d.next()%end))
			}
			lists = append(lists, weights)
		}
	}
	return lists
}

func badTreeWeights() [][]int64 {
	return [][]int64{
		nil, {}, {-1}, {1000001}, {1, -1}, {-1, 1}, {5, 1000001, 5}, {5, 5, 1000001}, {math.MinInt64}, {math.MaxInt64}, {1, math.MinInt64}, {math.MaxInt64, 1},
		repeated[int64](1, 65), repeated[int64](0, 65), repeated[int64](0, 128), repeated[int64](0, 1000), append(repeated[int64](1, 63), -1),
	}
}

// badTrees are numbers that are not those of a tree of weights.
func badTrees() [][]int64 {
	return [][]int64{
		nil, {}, {-1}, {1000001}, {math.MinInt64}, {math.MaxInt64}, {5, 3}, {1, 0}, {0, -1}, {0, 1000001}, {1000000, 2000001}, {-1, 5}, {1000001, 1000001},
		{1, 3, 3, 5}, {1, 3, 3, 1000007}, {1, 3, -3, 10}, {0, 0, 0, -1}, {0, 0, 1, 0}, {1, 1, 0, 0}, {0, 0, 0, math.MinInt64}, {0, 0, math.MinInt64, math.MinInt64}, {math.MinInt64, math.MinInt64},
		{math.MaxInt64, math.MaxInt64}, {math.MaxInt64, math.MinInt64}, {1, math.MinInt64}, {math.MinInt64, 0, 0, 0}, {math.MinInt64, math.MinInt64, math.MinInt64, 0}, {0, math.MinInt64, 0, math.MinInt64},
		repeated[int64](0, 65), treeReference(repeated[int64](1, 65)), treeReference(repeated[int64](1, 128)), repeated[int64](1, 64), append(repeated[int64](0, 63), -1), append(repeated[int64](0, 63), 1000001),
	}
}

func TestTreeOf(t *testing.T) {
	for _, weights := range treeWeights() {
		tree, ok := impl.TreeOf(weights)
		wantList(t, fmt.Sprint("TreeOf ", weights), tree, treeReference(weights))
		wantSame(t, fmt.Sprint("TreeOf succeeds for ", weights), ok, true)
	}
	for _, weights := range badTreeWeights() {
		tree, ok := impl.TreeOf(weights)
		wantFailure(t, fmt.Sprint("TreeOf ", weights), tree, ok)
	}
	tree, _ := impl.TreeOf([]int64{1, 2, 3, 4, 5, 6, 7, 8, 9, 10})
	wantList(t, "TreeOf 1 to 10", tree, []int64{1, 3, 3, 10, 5, 11, 7, 36, 9, 19})
}

func TestTreeAdd(t *testing.T) {
	for n, weights := range treeWeights() {
		tree := treeReference(weights)
		for i, weight := range weights {
			if len(weights) > 4 && (n+i)%5 != 0 {
				continue
			}
			for _, by := range []int64{0, 1, -1, 500000, -weight, 1000000 - weight, -weight - 1, 1000001 - weight, 1000000, -1000000, wordsEnd, -wordsEnd, math.MaxInt64, math.MinInt64, math.MinInt64 + weight, math.MaxInt64 - weight + 1} {
				what := fmt.Sprint("TreeAdd ", weights, i, by)
				got, ok := impl.TreeAdd(tree, int64(i), by)
				if by < -weight || by > 1000000-weight {
					wantFailure(t, what, got, ok)
					continue
				}
				changed := slices.Clone(weights)
				changed[i] += by
				wantList(t, what, got, treeReference(changed))
				wantSame(t, "success of "+what, ok, true)
			}
		}
		for _, i := range []int64{-1, int64(len(weights)), int64(len(weights)) + 1, 65, wordsEnd, math.MinInt64, math.MaxInt64} {
			got, ok := impl.TreeAdd(tree, i, 0)
			wantFailure(t, fmt.Sprint("TreeAdd ", weights, i), got, ok)
		}
	}
}

func TestTreeSum(t *testing.T) {
	for _, weights := range treeWeights() {
		tree, want := treeReference(weights), int64(0)
		for i := range len(weights) + 1 {
			sum, ok := impl.TreeSum(tree, int64(i))
			wantSame(t, fmt.Sprint("TreeSum ", weights, i), sum, want)
			wantSame(t, fmt.Sprint("TreeSum succeeds for ", weights, i), ok, true)
			if i < len(weights) {
				want += weights[i]
			}
		}
		for _, i := range []int64{-1, int64(len(weights)) + 1, 65, wordsEnd, math.MinInt64, math.MaxInt64} {
			sum, ok := impl.TreeSum(tree, i)
			wantFailure(t, fmt.Sprint("TreeSum ", weights, i), sum, ok)
		}
	}
}

func treeSeedReference(d *draws, weights []int64) int64 {
	all := int64(0)
	for _, weight := range weights {
		all += weight
	}
	number := d.below(all)
	for i := len(weights) - 1; ; i-- {
		if all -= weights[i]; all <= number {
			return int64(i)
		}
	}
}

func TestTreeSeed(t *testing.T) {
	seeds := seedsOfDraws(100)
	for i, weights := range treeWeights() {
		tree := treeReference(weights)
		for k, s := range seeds {
			what := fmt.Sprint("TreeSeed ", s, weights)
			if slices.Max(weights) == 0 {
				end, index, ok := impl.TreeSeed(s, tree)
				wantFailure(t, what, end, index, ok)
				continue
			}
			if (i+k)%4 == 0 {
				d := draws{s}
				want := treeSeedReference(&d, weights)
				end, index, ok := impl.TreeSeed(s, tree)
				wantDrawnCount(t, what, d, want, end, index, ok)
				wantSame(t, "a weight of nothing: "+what, weights[index] > 0, true)
			}
		}
	}
	for _, s := range badSeeds() {
		end, index, ok := impl.TreeSeed(s, []int64{1, 3, 3, 10})
		wantFailure(t, fmt.Sprint("TreeSeed ", s), end, index, ok)
	}
}

func TestTreeSeedOfKnownWords(t *testing.T) {
	million := treeReference(repeated[int64](1000000, 64))
	for _, c := range []struct {
		first, second int64
		tree          []int64
		want, drawn   int64
	}{
		{0, 0, []int64{1, 3, 3, 10}, 0, 1}, {1, 0, []int64{1, 3, 3, 10}, 1, 1}, {2, 0, []int64{1, 3, 3, 10}, 1, 1}, {3, 0, []int64{1, 3, 3, 10}, 2, 1}, {5, 0, []int64{1, 3, 3, 10}, 2, 1},
		{6, 0, []int64{1, 3, 3, 10}, 3, 1}, {9, 0, []int64{1, 3, 3, 10}, 3, 1}, {10, 0, []int64{1, 3, 3, 10}, 0, 1}, {0, 0, []int64{0, 7}, 1, 1}, {6, 0, []int64{0, 7}, 1, 1}, {6, 0, []int64{7, 7}, 0, 1},
		// 4288000000 is a multiple of 64000000: words from there on are too great.
		{4287999999, 0, million, 63, 1}, {4288000000, 999999, million, 0, 2}, {mostWord, 1000000, million, 1, 2}, {63999999, 0, million, 63, 1}, {62999999, 0, million, 62, 1},
	} {
		s := lineOfWords(c.first, c.second)
		want, _ := impl.SkipSeed(s, c.drawn)
		end, index, ok := impl.TreeSeed(s, c.tree)
		wantDrawnCount(t, fmt.Sprint("TreeSeed of the words ", c), draws{want}, c.want, end, index, ok)
	}
}

func wantNoTree(t *testing.T, tree []int64) {
	t.Helper()
	for _, i := range []int64{0, 1, int64(len(tree)) - 1, int64(len(tree))} {
		for _, by := range []int64{0, 1, -1, 1000000, math.MaxInt64} {
			got, ok := impl.TreeAdd(tree, i, by)
			wantFailure(t, fmt.Sprint("TreeAdd ", tree, i, by), got, ok)
		}
		sum, ok := impl.TreeSum(tree, i)
		wantFailure(t, fmt.Sprint("TreeSum ", tree, i), sum, ok)
	}
	end, index, ok := impl.TreeSeed(impl.Seed{Kind: impl.SeedCount}, tree)
	wantFailure(t, fmt.Sprint("TreeSeed ", tree), end, index, ok)
}

func TestTreesThatAreNone(t *testing.T) {
	for _, tree := range badTrees() {
		wantNoTree(t, tree)
	}
	// Weights that are all 0, or all as great as can be, leave no number room to change in one of both ways.
	for n := 1; n <= 64; n++ {
		for _, weight := range []int64{0, 1000000} {
			for i := range n {
				tree := treeReference(repeated(weight, n))
				if tree[i]--; weight == 1000000 {
					tree[i] += 2
				}
				wantNoTree(t, tree)
			}
		}
	}
}
