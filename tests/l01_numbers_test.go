package tests

import (
	"fmt"
	"math"
	"testing"

	"loop.example/g01339/impl"
)

func TestSameNumber(t *testing.T) {
	list := oddNumbers()
	for i, a := range list {
		for k, b := range list {
			wantSame(t, fmt.Sprint("SameNumber ", a, " ", b), impl.SameNumber(a, b), i == k)
		}
	}
	nans := []uint32{0x7f800001, 0x7fc00000, 0x7fffffff, 0xff800001, 0xffc00000, 0xffffffff}
	for _, a := range nans {
		x := math.Float32frombits(a)
		wantSame(t, "SameNumber of not-a-numbers", impl.SameNumber(x, nan), true)
		wantSame(t, "SameNumber of not-a-number and 1", impl.SameNumber(x, 1), false)
		wantSame(t, "IsFinite of a not-a-number", impl.IsFinite(x), false)
		wantSame(t, "BitsOf a not-a-number", impl.BitsOf(x), 2143289344)
	}
}

func TestIsFinite(t *testing.T) {
	for _, x := range oddNumbers() {
		want := x == x && x <= most && x >= -most
		wantSame(t, fmt.Sprint("IsFinite ", x), impl.IsFinite(x), want)
	}
}

func TestBitsOf(t *testing.T) {
	for _, c := range []struct {
		x    float32
		bits int64
	}{
		{0, 0}, {minusZero, 0x80000000}, {1, 0x3f800000}, {-2, 0xc0000000},
		{least, 1}, {-least, 0x80000001}, {mostSubnormal, 0x7fffff}, {leastNormal, 0x800000},
		{most, 0x7f7fffff}, {inf, 0x7f800000}, {-inf, 0xff800000}, {nan, 0x7fc00000},
	} {
		wantSame(t, fmt.Sprint("BitsOf ", c.x), impl.BitsOf(c.x), c.bits)
		x, ok := impl.FromBits(c.bits)
		wantSame(t, "FromBits succeeds", ok, true)
		wantNumber(t, fmt.Sprint("FromBits ", c.bits), x, c.x)
	}
}

func TestFromBits(t *testing.T) {
	for n := int64(0); n <= math.MaxUint32; n += 65521 {
		x, ok := impl.FromBits(n)
		wantSame(t, "FromBits succeeds", ok, true)
		wantNumber(t, fmt.Sprint("FromBits ", n), x, math.Float32frombits(uint32(n)))
		if x == x {
			wantSame(t, "BitsOf FromBits", impl.BitsOf(x), n)
		}
	}
	for _, n := range []int64{0x7f800001, 0x7fffffff, 0xff800001, 0xffffffff} {
		x, ok := impl.FromBits(n)
		wantSame(t, "FromBits of a not-a-number succeeds", ok, true)
		wantNumber(t, "FromBits of a not-a-number", x, nan)
	}
	for _, n := range []int64{-1, math.MinInt64, 0x100000000, 0x13f800000, math.MaxInt64} {
		x, ok := impl.FromBits(n)
		wantSame(t, fmt.Sprint("FromBits fails for ", n), ok, false)
		wantNumber(t, "FromBits that fails", x, 0)
	}
}

func TestNarrowNumber(t *testing.T) {
	for _, c := range []struct {
		x    float64
		want float32
	}{
		{0, 0}, {math.Copysign(0, -1), minusZero}, {0.5, 0.5},
		// Halves go to the even one, and what is just beside them does not.
		{1 + 0x1p-24, 1}, {1 + 3*0x1p-24, 1 + 0x1p-22}, {1 + 0x1p-24 + 0x1p-52, afterOne}, {-1 - 0x1p-24, -1},
		{0x1p-150, 0}, {-0x1p-150, minusZero}, {0x1p-150 + 0x1p-202, least}, {0x1.8p-149, 0x1p-148}, {0x1p-1074, 0},
		{0x1.fffffefffffffp127, most}, {0x1.ffffffp127, inf}, {-0x1.ffffffp127, -inf}, {math.MaxFloat64, inf},
		{math.Inf(1), inf}, {math.Inf(-1), -inf}, {math.NaN(), nan},
	} {
		wantNumber(t, fmt.Sprint("NarrowNumber ", c.x), impl.NarrowNumber(c.x), c.want)
	}
	for _, x := range drawnNumbers(1000) {
		wantNumber(t, "NarrowNumber of a 32-bit number", impl.NarrowNumber(float64(x)), x)
	}
}

func TestSubnormal(t *testing.T) {
	subnormal := map[uint32]bool{}
	for _, x := range []float32{least, mostSubnormal, 0x1p-127, 0x1.8p-140} {
		subnormal[bitsOf(x)], subnormal[bitsOf(-x)] = true, true
	}
	for _, x := range append(oddNumbers(), 0x1p-127, -0x1p-127, 0x1.8p-140, -0x1.8p-140) {
		want, flushed := subnormal[bitsOf(x)], x
		if want {
			flushed = 0
			if x < 0 {
				flushed = minusZero
			}
		}
		wantSame(t, fmt.Sprint("IsSubnormal ", x), impl.IsSubnormal(x), want)
		wantNumber(t, fmt.Sprint("FlushNumber ", x), impl.FlushNumber(x), flushed)
	}
}

func TestRootNumber(t *testing.T) {
	for _, c := range []struct{ x, want float32 }{
		{9, 3}, {2, math.Float32frombits(0x3fb504f3)}, {0, 0}, {minusZero, minusZero}, {1, 1},
		{inf, inf}, {-inf, nan}, {nan, nan}, {-1, nan}, {-least, nan},
		{least, math.Float32frombits(0x1a3504f3)}, {0x1p-148, 0x1p-74}, {most, math.Float32frombits(0x5f7fffff)},
	} {
		wantNumber(t, fmt.Sprint("RootNumber ", c.x), impl.RootNumber(c.x), c.want)
	}
	for n := float32(0); n < 4096; n++ {
		wantNumber(t, "RootNumber of a square", impl.RootNumber(n*n), n)
	}
}
