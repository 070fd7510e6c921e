package tests

import (
	"fmt"
	"math"
	"slices"
	"testing"

	"loop.example/g01339/impl"
)

// periodReference keeps all numbers until one comes again.
func periodReference(m, a, c, x int64) (int64, int64) {
	var list []int64
	for !slices.Contains(list, x) {
		list = append(list, x)
		x = (a*x + c) % m
	}
	before := slices.Index(list, x)
	return int64(before), int64(len(list) - before)
}

func TestSmallPeriod(t *testing.T) {
	for _, c := range []struct{ m, a, c, x, before, period int64 }{
		{11, 3, 0, 1, 0, 5}, {8, 2, 0, 1, 3, 1}, {1, 0, 0, 0, 0, 1}, {2, 1, 1, 0, 0, 2}, {2, 0, 1, 0, 1, 1}, {4096, 0, 5, 5, 0, 1}, {4096, 0, 5, 6, 1, 1},
		{4096, 4093, 4095, 4095, 0, 4096}, {4096, 1, 1, 4095, 0, 4096}, {4096, 2, 0, 1, 12, 1}, {4096, 5, 0, 1, 0, 1024}, {4093, 2, 0, 1, 0, 4092}, {4093, 2, 0, 0, 0, 1},
	} {
		before, period, ok := impl.SmallPeriod(c.m, c.a, c.c, c.x)
		wantSame(t, fmt.Sprint("SmallPeriod ", c), [2]int64{before, period}, [2]int64{c.before, c.period})
		wantSame(t, "SmallPeriod succeeds", ok, true)
	}
	for m := int64(1); m <= 13; m++ {
		for i := range m * m * m {
			a, c, x := i%m, i/m%m, i/m/m
			before, period, ok := impl.SmallPeriod(m, a, c, x)
			wantBefore, want := periodReference(m, a, c, x)
			wantSame(t, fmt.Sprint("SmallPeriod ", m, a, c, x), [2]int64{before, period}, [2]int64{wantBefore, want})
			wantSame(t, "SmallPeriod succeeds", ok, true)
		}
	}
	d := drawnBits(6)
	for range 300 {
		m := 1 + int64(d.next()%4096)
		a, c, x := int64(d.next())%m, int64(d.next())%m, int64(d.next())%m
		before, period, _ := impl.SmallPeriod(m, a, c, x)
		wantBefore, want := periodReference(m, a, c, x)
		wantSame(t, fmt.Sprint("SmallPeriod ", m, a, c, x), [2]int64{before, period}, [2]int64{wantBefore, want})
	}
}

func TestSmallPeriodFails(t *testing.T) {
	for _, c := range [][4]int64{
		{0, 0, 0, 0}, {-1, 0, 0, 0}, {4097, 1, 1, 1}, {math.MaxInt64, 1, 1, 1}, {math.MinInt64, 0, 0, 0},
		{7, 7, 1, 1}, {7, 1, 7, 1}, {7, 1, 1, 7}, {7, -1, 1, 1}, {7, 1, -1, 1}, {7, 1, 1, -1}, {1, 1, 0, 0}, {1, 0, 1, 0}, {1, 0, 0, 1},
		{4096, 4096, 0, 0}, {4096, math.MaxInt64, 0, 0}, {4096, 0, math.MinInt64, 0}, {4096, 0, 0, math.MaxInt64},
	} {
		before, period, ok := impl.SmallPeriod(c[0], c[1], c[2], c[3])
		wantFailure(t, fmt.Sprint("SmallPeriod ", c), before, period, ok)
	}
}

// latticeReference looks at all u and v that can be.
func latticeReference(m, a int64) (int64, int64) {
	least, height := m*m, int64(0)
	for u := -m; u <= m; u++ {
		for v := -m; v <= m; v++ {
			sum := u*u + v*v
			if sum > 0 && (u+a*v)%m == 0 && (sum < least || sum == least && max(v, -v) < height) {
				least, height = sum, max(v, -v)
			}
		}
	}
	return least, height
}

// latticeByTurns makes two vectors shorter, each by the other one, until neither becomes shorter.
func latticeByTurns(m, a int64) (int64, int64) {
	long, short := [2]int64{m, 0}, [2]int64{(m - a) % m, 1}
	dot := func(x, y [2]int64) int64 { return x[0]*y[0] + x[1]*y[1] }
	for {
		k := int64(math.Round(float64(dot(long, short)) / float64(dot(short, short))))
		long = [2]int64{long[0] - k*short[0], long[1] - k*short[1]}
		if dot(long, long) >= dot(short, short) {
			break
		}
		long, short = short, long
	}
	least, height := dot(short, short), max(short[1], -short[1])
	for _, k := range []int64{-1, 0, 1} { // others may be as short
		other := [2]int64{long[0] - k*short[0], long[1] - k*short[1]}
		if dot(other, other) == least {
			height = min(height, max(other[1], -other[1]))
		}
	}
	return least, height
}

func TestLatticeOf(t *testing.T) {
	for _, c := range [][4]int64{
		{7, 3, 5, 2}, {1, 0, 1, 0}, {2, 0, 1, 1}, {2, 1, 2, 1}, {5, 2, 5, 1}, {5, 3, 5, 1}, {1000000, 0, 1, 1}, {1000000, 1, 2, 1}, {1000000, 999999, 2, 1},
		{1000000, 1000, 1000000, 1000}, {1000000, 999000, 1000000, 1000}, {999999, 1000, 1000001, 1}, {999999, 500000, 5, 2},
	} {
		least, height, ok := impl.LatticeOf(c[0], c[1])
		wantSame(t, fmt.Sprint("LatticeOf ", c), [2]int64{least, height}, [2]int64{c[2], c[3]})
		wantSame(t, "LatticeOf succeeds", ok, true)
	}
	for m := int64(1); m <= 45; m++ {
		for a := range m {
			least, height, ok := impl.LatticeOf(m, a)
			wantLeast, want := latticeReference(m, a)
			wantSame(t, fmt.Sprint("LatticeOf ", m, a), [2]int64{least, height}, [2]int64{wantLeast, want})
			wantSame(t, "LatticeOf succeeds", ok, true)
		}
	}
	d := drawnBits(7)
	for i := range 3000 {
		m := []int64{1000000, 999983, 1 + int64(d.next()%1000000), 1 + int64(d.next()%100)}[i%4]
		a := int64(d.next()) % m
		least, height, _ := impl.LatticeOf(m, a)
		wantLeast, want := latticeByTurns(m, a)
		wantSame(t, fmt.Sprint("LatticeOf ", m, a), [2]int64{least, height}, [2]int64{wantLeast, want})
	}
}

func TestLatticeOfFails(t *testing.T) {
	for _, c := range [][2]int64{
		{0, 0}, {-1, 0}, {1000001, 1}, {math.MaxInt64, 1}, {math.MinInt64, 0}, {7, 7}, {7, -1}, {1, 1}, {1000000, 1000000}, {1000000, math.MaxInt64}, {1000000, math.MinInt64},
	} {
		least, height, ok := impl.LatticeOf(c[0], c[1])
		wantFailure(t, fmt.Sprint("LatticeOf ", c), least, height, ok)
	}
}
