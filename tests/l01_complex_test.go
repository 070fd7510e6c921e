package tests

import (
	"fmt"
	"math"
	"testing"

	"loop.example/g01339/impl"
)

func TestSameComplex(t *testing.T) {
	list := oddNumbers()
	for i, a := range list {
		for k, b := range list {
			wantSame(t, "SameComplex, real parts", impl.SameComplex(complex(a, 1), complex(b, 1)), i == k)
			wantSame(t, "SameComplex, imaginary parts", impl.SameComplex(complex(1, a), complex(1, b)), i == k)
		}
		wantSame(t, "IsFiniteComplex, real part", impl.IsFiniteComplex(complex(a, 1)), a-a == 0)
		wantSame(t, "IsFiniteComplex, imaginary part", impl.IsFiniteComplex(complex(1, a)), a-a == 0)
	}
}

func TestNarrowComplex(t *testing.T) {
	wantComplex(t, "NarrowComplex", impl.NarrowComplex(complex(1+0x1p-24, -1-3*0x1p-24)), complex(1, -1-0x1p-22))
	wantComplex(t, "NarrowComplex", impl.NarrowComplex(complex(-0x1p-150, math.MaxFloat64)), complex(minusZero, inf))
	wantComplex(t, "NarrowComplex", impl.NarrowComplex(complex(math.NaN(), math.Inf(-1))), complex(nan, -inf))
}

func TestMulComplexOfIntegers(t *testing.T) {
	for a := -9; a <= 9; a++ {
		for b := -9; b <= 9; b++ {
			for c := -9; c <= 9; c++ {
				for d := -9; d <= 9; d++ {
					got := impl.MulComplex(complex(float32(a), float32(b)), complex(float32(c), float32(d)))
					if real(got) != float32(a*c-b*d) || imag(got) != float32(a*d+b*c) {
						t.Fatalf("MulComplex of %d, %d and %d, %d: got %v", a, b, c, d, got)
					}
				}
			}
		}
	}
}

func TestMulComplex(t *testing.T) {
	for _, c := range []struct{ x, y, want complex64 }{
		{complex(1, 2), complex(3, -1), complex(5, 5)},
		// Products of 32-bit numbers would have lost these differences, or been infinite.
		{complex(afterOne, 1), complex(1-0x1p-23, 1), complex(-0x1p-46, 2)},
		{complex(most, most), complex(most, most), complex(0, inf)},
		{complex(least, least), complex(0.5, 0.5), complex(0, least)},
		{complex(0, 0), complex(-1, 0), complex(minusZero, 0)},
		{complex(0, minusZero), complex(1, 1), complex(0, 0)},
		{complex(minusZero, 0), complex(1, 0), complex(minusZero, 0)},
		{complex(inf, 0), complex(1, 0), complex(inf, nan)},
		{complex(inf, inf), complex(1, 1), complex(nan, inf)},
		{complex(nan, 0), complex(1, 0), complex(nan, nan)},
	} {
		wantComplex(t, fmt.Sprint("MulComplex ", c.x, c.y), impl.MulComplex(c.x, c.y), c.want)
	}
}

func TestProductsAndQuotients(t *testing.T) {
	list := drawnNumbers(2000)
	for i, x := range list {
		a, b := float64(x), float64(list[(i*5+1)%len(list)])
		c, d := float64(list[(i*7+2)%len(list)]), float64(list[(i*11+3)%len(list)])
		p, q := complex(float32(a), float32(b)), complex(float32(c), float32(d))
		power := plus(times(c, c), times(d, d))
		re, im := less(times(a, c), times(b, d)), plus(times(a, d), times(b, c))
		wantComplex(t, fmt.Sprint("MulComplex ", p, q), impl.MulComplex(p, q), complex(float32(re), float32(im)))
		re, im = less(times(a, c), times(b, -d)), plus(times(a, -d), times(b, c))
		want := complex(float32(over(re, power)), float32(over(im, power)))
		wantComplex(t, fmt.Sprint("QuotientOf ", p, q), impl.QuotientOf(p, q), want)
		wantNumber(t, fmt.Sprint("PowerOf ", q), impl.PowerOf(q), float32(power))
		wantNumber(t, fmt.Sprint("LongOf ", q), impl.LongOf(q), float32(math.Sqrt(power)))
		scaled := complex(shortTimes(real(p), real(q)), shortTimes(imag(p), real(q)))
		wantComplex(t, fmt.Sprint("ScaleComplex ", p, c), impl.ScaleComplex(p, real(q)), scaled)
	}
}

func TestScaleComplex(t *testing.T) {
	for _, c := range []struct {
		x    complex64
		by   float32
		want complex64
	}{
		{complex(1, 2), 0.5, complex(0.5, 1)},
		{complex(0, 1), inf, complex(nan, inf)},
		{complex(0, minusZero), -1, complex(minusZero, 0)},
		{complex(most, least), 2, complex(inf, 0x1p-148)},
		{complex(least, -least), 0.5, complex(0, minusZero)},
		{complex(1, inf), nan, complex(nan, nan)},
	} {
		wantComplex(t, fmt.Sprint("ScaleComplex ", c.x, c.by), impl.ScaleComplex(c.x, c.by), c.want)
	}
}

func TestConjugateOf(t *testing.T) {
	for _, x := range oddNumbers() {
		opposite := nan
		if x == x {
			opposite = math.Float32frombits(math.Float32bits(x) ^ 0x80000000)
		}
		wantComplex(t, fmt.Sprint("ConjugateOf ", x), impl.ConjugateOf(complex(x, x)), complex(x, opposite))
	}
}

func TestPowers(t *testing.T) {
	wantNumber(t, "PowerOf 3 + 4i", impl.PowerOf(complex(3, 4)), 25)
	wantNumber(t, "LongOf 3 + 4i", impl.LongOf(complex(3, 4)), 5)
	wantNumber(t, "PowerOf 0", impl.PowerOf(complex(minusZero, minusZero)), 0)
	wantNumber(t, "PowerOf the greatest", impl.PowerOf(complex(most, 0)), inf)
	wantNumber(t, "LongOf the greatest", impl.LongOf(complex(0, -most)), most)
	wantNumber(t, "LongOf twice the greatest", impl.LongOf(complex(most, most)), inf)
	wantNumber(t, "PowerOf the least", impl.PowerOf(complex(least, 0)), 0)
	wantNumber(t, "LongOf the least", impl.LongOf(complex(least, 0)), least)
	wantNumber(t, "PowerOf an infinity", impl.PowerOf(complex(-inf, 1)), inf)
	wantNumber(t, "PowerOf a not-a-number", impl.PowerOf(complex(inf, nan)), nan)
	wantNumber(t, "LongOf a not-a-number", impl.LongOf(complex(nan, 1)), nan)
}

func TestQuotientOf(t *testing.T) {
	for _, c := range []struct{ x, y, want complex64 }{
		{complex(0, 4), 2, complex(0, 2)},
		{complex(5, 5), complex(1, 2), complex(3, -1)},
		{complex(most, most), complex(most, most), 1},
		{complex(least, 0), complex(least, 0), 1},
		{1, 0, complex(nan, nan)},
		{complex(inf, 1), 0, complex(nan, nan)},
		{0, complex(minusZero, 0), complex(nan, nan)},
		{1, complex(inf, 0), complex(nan, nan)},
		{complex(minusZero, minusZero), 1, complex(minusZero, 0)},
		{complex(nan, 0), 1, complex(nan, nan)},
	} {
		wantComplex(t, fmt.Sprint("QuotientOf ", c.x, c.y), impl.QuotientOf(c.x, c.y), c.want)
	}
}
