package tests

import (
	"fmt"
	"math"
	"slices"
	"strconv"
	"testing"

	"loop.example/g01339/impl"
)

// digitsReference reads the digits of a text, the last one first.
func digitsReference(n, base int64, digits []int64) float32 {
	number, power := 0.0, 1.0
	text := []byte(strconv.FormatInt(n, int(base)))
	slices.Reverse(text)
	for _, digit := range text {
		value, _ := strconv.ParseInt(string(digit), 36, 64)
		number = number*float64(base) + float64(digits[value])
		power *= float64(base)
	}
	if n == 0 {
		return 0
	}
	return shortOver(float32(number), float32(power))
}

func TestTurnedDigits(t *testing.T) {
	for base := int64(2); base <= 16; base++ {
		orders := [][]int64{ascending(base), descending(base)}
		for _, order := range drawnOrders() {
			if int64(len(order)) == base {
				orders = append(orders, order)
			}
		}
		for i, digits := range orders {
			for n := int64(0); n <= 65535; n++ {
				if n > 300 && n < 65500 && (n+int64(i))%97 != 0 {
					continue
				}
				x, ok := impl.TurnedDigits(n, base, digits)
				wantNumber(t, fmt.Sprint("TurnedDigits ", n, base, digits), x, digitsReference(n, base, digits))
				wantSame(t, "it succeeds, from 0 to less than 1", ok && x >= 0 && x < 1, true)
			}
		}
	}
}

func TestTurnedDigitsThatAreKnown(t *testing.T) {
	for _, c := range []struct {
		n      int64
		digits []int64
		want   float32
	}{
		{6, []int64{0, 1}, 0.375}, {0, []int64{0, 1}, 0}, {0, []int64{1, 0}, 0}, {1, []int64{1, 0}, 0}, {2, []int64{1, 0}, 0.5}, {4, []int64{1, 0}, 0.75},
		{1, []int64{0, 1}, 0.5}, {65535, []int64{0, 1}, 1 - 0x1p-16}, {32768, []int64{0, 1}, 0x1p-16}, {65535, []int64{1, 0}, 0}, {32768, []int64{1, 0}, 1 - 0x1p-15},
		{5, []int64{0, 1, 2}, 7.0 / 9}, {5, []int64{1, 2, 0}, 2.0 / 9}, {65535, ascending(16), 1 - 0x1p-16}, {1, ascending(16), 1.0 / 16}, {16, ascending(16), 1.0 / 256}, {0xabc, ascending(16), float32(0xcba) / 4096}, {15, descending(16), 0}, {0, descending(16), 0},
	} {
		x, ok := impl.TurnedDigits(c.n, int64(len(c.digits)), c.digits)
		wantNumber(t, fmt.Sprint("TurnedDigits ", c), x, c.want)
		wantSame(t, "TurnedDigits succeeds", ok, true)
	}
}

func TestTurnedDigitsFails(t *testing.T) {
	for _, n := range []int64{-1, 65536, wordsEnd, math.MinInt64, math.MaxInt64} {
		for _, base := range []int64{2, 10, 16} {
			x, ok := impl.TurnedDigits(n, base, ascending(base))
			wantFailure(t, fmt.Sprint("TurnedDigits ", n, base), x, ok)
		}
	}
	for _, n := range []int64{0, 1, 6, 65535} {
		for _, base := range []int64{-1, 0, 1, 17, 64, math.MinInt64, math.MaxInt64} {
			x, ok := impl.TurnedDigits(n, base, ascending(min(max(base, 0), 64)))
			wantFailure(t, fmt.Sprint("TurnedDigits ", n, base), x, ok)
		}
		for _, digits := range append(badOrders(), ascending(1), ascending(4), ascending(64)) {
			for _, base := range []int64{2, 3, 16} {
				x, ok := impl.TurnedDigits(n, base, digits)
				wantFailure(t, fmt.Sprint("TurnedDigits ", n, base, digits), x, ok)
			}
		}
		x, ok := impl.TurnedDigits(n, 3, ascending(2))
		wantFailure(t, fmt.Sprint("TurnedDigits of too few digits ", n), x, ok)
		x, ok = impl.TurnedDigits(n, 2, ascending(3))
		wantFailure(t, fmt.Sprint("TurnedDigits of too many digits ", n), x, ok)
	}
}

func TestSpreadPoints(t *testing.T) {
	for _, from := range []int64{0, 1, 2, 5, 26, 27, 255, 6560, 6561, 32767, 59048, 64999, 65000} {
		for _, count := range []int64{0, 1, 2, 3, 100, 255, 256} {
			points, ok := impl.SpreadPoints(from, count)
			wantSame(t, fmt.Sprint("how many points: ", from, count), int64(len(points)), count)
			wantSame(t, "SpreadPoints succeeds", ok, true)
			for i, point := range points {
				n := from + int64(i)
				want := complex(digitsReference(n, 2, ascending(2)), digitsReference(n, 3, ascending(3)))
				wantComplex(t, fmt.Sprint("the point ", n), point, want)
			}
		}
	}
	points, _ := impl.SpreadPoints(0, 5)
	wantSame(t, "the first points", fmt.Sprint(points), fmt.Sprint([]complex64{0, complex(0.5, 1.0/3), complex(0.25, 2.0/3), complex(0.75, 1.0/9), complex(0.125, 4.0/9)}))
	for _, c := range [][2]int64{
		{-1, 1}, {65001, 1}, {65001, 0}, {-1, 0}, {0, -1}, {0, 257}, {65000, 257}, {65000, -1},
		{math.MinInt64, 5}, {math.MaxInt64, 5}, {5, math.MinInt64}, {5, math.MaxInt64}, {math.MaxInt64, math.MaxInt64}, {wordsEnd, 1}, {1, wordsEnd},
	} {
		points, ok := impl.SpreadPoints(c[0], c[1])
		wantFailure(t, fmt.Sprint("SpreadPoints ", c), points, ok)
	}
}

// gapReference looks at all numbers that are not greater than each one.
func gapReference(list []float32) float32 {
	n := float32(len(list))
	sorted := slices.Clone(list)
	slices.Sort(sorted)
	greatest := -inf
	for i, x := range sorted {
		for _, gap := range []float32{shortLess(shortOver(float32(i+1), n), x), shortLess(x, shortOver(float32(i), n))} {
			if gap > greatest {
				greatest = gap
			}
		}
	}
	return greatest
}

func listsOfShares() [][]float32 {
	lists := [][]float32{{0}, {1}, {minusZero}, {0.5}, {0, 1}, {1, 0}, {minusZero, 0}, {0.5, 0.5}, {1, 1, 1}, {least}, {1 - 0x1p-24}, {1.0 / 3, 2.0 / 3}, repeated(float32(0), 256), repeated(float32(1), 256), repeated(float32(0.25), 255)}
	d := drawnBits(91)
	for _, n := range []int{1, 2, 3, 4, 5, 7, 10, 31, 32, 33, 63, 64, 100, 255, 256} {
		for _, steps := range []uint32{3, 8, 1000, 1 << 24} {
			list := []float32{}
			for range n {
				list = append(list, float32(d.next()%(steps+1))/float32(steps))
			}
			lists = append(lists, list)
		}
		middle := []float32{}
		for i := range n {
			middle = append(middle, (float32(n-i)-0.5)/float32(n))
		}
		lists = append(lists, middle)
	}
	return lists
}

func TestGapOfPoints(t *testing.T) {
	for _, list := range listsOfShares() {
		gap, ok := impl.GapOfPoints(list)
		wantNumber(t, fmt.Sprint("GapOfPoints ", list), gap, gapReference(list))
		wantSame(t, "GapOfPoints succeeds", ok, true)
	}
	for _, c := range []struct {
		list []float32
		want float32
	}{
		{[]float32{0.5}, 0.5}, {[]float32{0}, 1}, {[]float32{1}, 1}, {[]float32{minusZero}, 1}, {[]float32{0.25}, 0.75}, {[]float32{0.75}, 0.75},
		{[]float32{0, 1}, 0.5}, {[]float32{0.75, 0.25}, 0.25}, {[]float32{0.5, 0.5}, 0.5}, {[]float32{1, 1}, 1}, {[]float32{0.875, 0.125, 0.625, 0.375}, 0.125},
		{[]float32{0.125, 0.125, 0.625, 0.875}, 0.375}, {[]float32{0.125, 0.75, 0.75, 0.75}, 0.5}, {repeated(float32(1), 256), 1},
	} {
		gap, _ := impl.GapOfPoints(c.list)
		wantNumber(t, fmt.Sprint("GapOfPoints ", c.list), gap, c.want)
	}
}

// outside has numbers that are not from 0 to 1.
func outside() []float32 {
	return append(oddFloats(), -least, -1, -0x1p-24, afterOne, 2, most, -most)
}

func TestGapOfPointsFails(t *testing.T) {
	for _, list := range [][]float32{nil, make([]float32, 257), repeated(float32(0.5), 300), repeated(nan, 257)} {
		gap, ok := impl.GapOfPoints(list)
		wantFailure(t, fmt.Sprint("GapOfPoints ", list), gap, ok)
	}
	for _, bad := range outside() {
		for _, list := range [][]float32{{bad}, {bad, 0.5}, {0.5, bad}, {0, bad, 1}, {bad, bad}, append(repeated(float32(0.5), 255), bad)} {
			gap, ok := impl.GapOfPoints(list)
			wantFailure(t, fmt.Sprint("GapOfPoints ", list), gap, ok)
		}
	}
}

// cornerReference counts the points below a corner, or up to it, and returns how far their share is from the area.
func cornerReference(points []complex64, x, y float32, below func(a, b float32) bool) float32 {
	count := 0
	for _, point := range points {
		if below(real(point), x) && below(imag(point), y) {
			count++
		}
	}
	return float32(math.Abs(float64(shortLess(shortTimes(x, y), shortOver(float32(count), float32(len(points)))))))
}

func pairsReference(points []complex64) float32 {
	greatest := float32(0)
	for _, a := range append(slices.Clone(points), 1+1i) {
		for _, b := range append(slices.Clone(points), 1+1i) {
			former := cornerReference(points, real(a), imag(b), func(a, b float32) bool { return a < b })
			latter := cornerReference(points, real(a), imag(b), func(a, b float32) bool { return a <= b })
			greatest = max(greatest, former, latter)
		}
	}
	return greatest
}

func TestGapOfPairs(t *testing.T) {
	for i, list := range listsOfShares() {
		for _, n := range []int{1, 2, 3, 10, 31, 32} {
			if len(list) < n {
				continue
			}
			points := []complex64{}
			for k := range n {
				points = append(points, complex(list[k], list[(k*7+i)%len(list)]))
			}
			gap, ok := impl.GapOfPairs(points)
			wantNumber(t, fmt.Sprint("GapOfPairs ", points), gap, pairsReference(points))
			wantSame(t, "GapOfPairs succeeds", ok, true)
			slices.Reverse(points)
			again, _ := impl.GapOfPairs(points)
			wantNumber(t, "GapOfPairs the other way round", again, gap)
		}
	}
	for _, c := range []struct {
		points []complex64
		want   float32
	}{
		{[]complex64{0}, 1}, {[]complex64{1 + 1i}, 1}, {[]complex64{1}, 1}, {[]complex64{0.5 + 0.5i}, 0.75}, {[]complex64{0.75 + 0.5i}, 0.75}, {[]complex64{0.5i}, 1},
		{[]complex64{complex(minusZero, minusZero)}, 1}, {[]complex64{0.25 + 0.75i, 0.75 + 0.25i}, 0.5625}, {[]complex64{0.25 + 0.25i, 0.75 + 0.75i}, 0.4375}, {[]complex64{1 + 0.25i, 0.25 + 1i}, 1}, {repeated[complex64](1, 32), 1},
	} {
		gap, ok := impl.GapOfPairs(c.points)
		wantNumber(t, fmt.Sprint("GapOfPairs ", c.points), gap, c.want)
		wantSame(t, "GapOfPairs succeeds", ok, true)
	}
}

func TestGapOfPairsFails(t *testing.T) {
	for _, points := range [][]complex64{nil, make([]complex64, 33), make([]complex64, 256)} {
		gap, ok := impl.GapOfPairs(points)
		wantFailure(t, fmt.Sprint("GapOfPairs ", points), gap, ok)
	}
	for _, bad := range outside() {
		for _, x := range []complex64{complex(bad, 0.5), complex(0.5, bad), complex(bad, bad)} {
			for _, points := range [][]complex64{{x}, {x, 1i}, {0.5, x}, {0, x, 0.5 + 0.5i}, append(repeated[complex64](1i, 31), x)} {
				gap, ok := impl.GapOfPairs(points)
				wantFailure(t, fmt.Sprint("GapOfPairs ", points), gap, ok)
			}
		}
	}
}

// TestSpreadPointsLieEvenly compares them with points that are drawn.
func TestSpreadPointsLieEvenly(t *testing.T) {
	points, _ := impl.SpreadPoints(1, 32)
	gap, _ := impl.GapOfPairs(points)
	s := impl.Seed{Kind: impl.SeedCount, A: 5}
	for range 50 {
		drawn := []complex64{}
		for range 32 {
			next, u, _ := impl.ShareSeed(s)
			next, v, _ := impl.ShareSeed(next)
			s = next
			drawn = append(drawn, complex(u, v))
		}
		other, _ := impl.GapOfPairs(drawn)
		wantSame(t, "drawn points lie less evenly", other > gap, true)
	}
	wantSame(t, "they lie evenly", gap < 0.12, true)
	parts := []float32{}
	for _, point := range points {
		parts = append(parts, real(point))
	}
	one, _ := impl.GapOfPoints(parts)
	wantSame(t, fmt.Sprint("their real parts lie evenly: ", one), one < 0.07, true)
}
