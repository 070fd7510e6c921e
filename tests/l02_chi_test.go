package tests

import (
	"fmt"
	"math"
	"testing"

	"loop.example/g01339/impl"
)

//go:noinline
func shortLess(a, b float32) float32 { return a - b }

//go:noinline
func shortOver(a, b float32) float32 { return a / b }

func chiReference(counts []int64, shares []float32) float32 {
	n := int64(0)
	for _, count := range counts {
		n += count
	}
	chi := float32(0)
	for i, count := range counts {
		e := shortTimes(shares[i], float32(n))
		z := shortLess(float32(count), e)
		chi = shortPlus(chi, shortOver(shortTimes(z, z), e))
	}
	return chi
}

func TestChiOf(t *testing.T) {
	for _, c := range []struct {
		counts []int64
		shares []float32
		want   float32
	}{
		{[]int64{3, 1}, []float32{0.5, 0.5}, 1}, {[]int64{1}, []float32{1}, 0}, {[]int64{0, 1}, []float32{1, 1}, 1}, {[]int64{0, 4}, []float32{0.5, 0.5}, 4},
		// The shares need not be one together.
		{[]int64{2}, []float32{0.25}, 4.5}, {[]int64{2}, []float32{2}, 1}, {[]int64{1000000}, []float32{1}, 0}, {[]int64{1}, []float32{0x1p-100}, 0x1p100},
		{repeated[int64](1000000, 256), repeated[float32](0x1p-8, 256), 0},
		{[]int64{1, 1}, []float32{0x1p-128, 1}, 0x1p127}, {[]int64{0, 1}, []float32{least, 1}, 0}, {[]int64{1}, []float32{0x1p62}, 0x1p62},
	} {
		chi, ok := impl.ChiOf(c.counts, c.shares)
		wantNumber(t, fmt.Sprint("ChiOf ", c.counts, c.shares), chi, c.want)
		wantSame(t, fmt.Sprint("ChiOf succeeds for ", c.counts), ok, true)
	}
}

func TestChiOfDrawnCounts(t *testing.T) {
	d := drawnBits(5)
	for range 3000 {
		most := []uint32{2, 100, 1000001}[d.next()%3]
		counts := []int64{1}
		shares := []float32{0.125}
		for range d.next() % 256 {
			counts = append(counts, int64(d.next()%most))
			shares = append(shares, (float32(d.next())+1)*0x1p-36)
		}
		chi, ok := impl.ChiOf(counts, shares)
		wantNumber(t, fmt.Sprint("ChiOf ", counts, shares), chi, chiReference(counts, shares))
		wantSame(t, "ChiOf succeeds", ok, true)
	}
}

func TestChiOfFails(t *testing.T) {
	for _, c := range []struct {
		counts []int64
		shares []float32
	}{
		{nil, nil}, {nil, []float32{1}}, {[]int64{1}, nil}, {[]int64{1}, []float32{0.5, 0.5}}, {[]int64{1, 1}, []float32{1}},
		{[]int64{0}, []float32{1}}, {[]int64{0, 0, 0}, []float32{1, 1, 1}},
		{[]int64{-1}, []float32{1}}, {[]int64{5, -1}, []float32{1, 1}}, {[]int64{-1, 5}, []float32{1, 1}}, {[]int64{1000001}, []float32{1}},
		{[]int64{1, 1000001}, []float32{1, 1}}, {[]int64{math.MaxInt64, math.MaxInt64}, []float32{1, 1}}, {[]int64{math.MinInt64}, []float32{1}},
		{[]int64{1, 1}, []float32{0, 1}}, {[]int64{1, 1}, []float32{1, minusZero}}, {[]int64{1, 1}, []float32{1, -0.5}}, {[]int64{1, 1}, []float32{-least, 1}},
		{[]int64{1, 1}, []float32{nan, 1}}, {[]int64{1, 1}, []float32{1, inf}}, {[]int64{1, 1}, []float32{-inf, 1}},
		// Too great: what is expected, its square, a quotient, and the sum of two quotients.
		{[]int64{2}, []float32{most}}, {[]int64{1}, []float32{0x1p64}}, {[]int64{1}, []float32{0x1p-128}}, {[]int64{1}, []float32{least}},
		{[]int64{1, 1}, []float32{0x1p-128, 0x1p-128}},
		{repeated[int64](1, 257), repeated[float32](1, 257)}, {repeated[int64](1, 256), repeated[float32](1, 257)}, {repeated[int64](1, 257), repeated[float32](1, 256)},
	} {
		chi, ok := impl.ChiOf(c.counts, c.shares)
		wantFailure(t, fmt.Sprint("ChiOf ", c.counts, c.shares), chi, ok)
	}
}
