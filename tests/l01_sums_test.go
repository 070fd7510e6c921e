package tests

import (
	"fmt"
	"testing"

	"loop.example/g01339/impl"
)

// repeated returns a list of one number, count times.
func repeated[T any](x T, count int) []T {
	list := make([]T, count)
	for i := range list {
		list[i] = x
	}
	return list
}

func TestSumNumbers(t *testing.T) {
	for _, c := range []struct {
		list []float32
		want float32
	}{
		{nil, 0}, {[]float32{}, 0}, {[]float32{minusZero}, 0}, {[]float32{minusZero, minusZero}, 0},
		{[]float32{1, 2, 3.5}, 6.5},
		// From left to right, each sum is rounded on its own.
		{[]float32{0x1p24, 1, 1}, 0x1p24}, {[]float32{1, 1, 0x1p24}, 0x1p24 + 2},
		{[]float32{1, 0x1p-24, 0x1p-24}, 1}, {[]float32{most, most, -most}, inf}, {[]float32{most, -most, least}, least},
		{[]float32{inf, -inf}, nan}, {[]float32{1, nan, 1}, nan}, {[]float32{leastNormal, -mostSubnormal}, least},
		{repeated[float32](1, 256), 256},
	} {
		sum, ok := impl.SumNumbers(c.list)
		wantNumber(t, fmt.Sprint("SumNumbers ", c.list), sum, c.want)
		wantSame(t, "SumNumbers succeeds", ok, true)
	}
	sum, ok := impl.SumNumbers(repeated[float32](1, 257))
	wantNumber(t, "SumNumbers of 257 numbers", sum, 0)
	wantSame(t, "SumNumbers fails", ok, false)
}

func TestDotNumbers(t *testing.T) {
	x := float32(1 + 0x1p-12) // its square is rounded to 1 + 2^-11
	for _, c := range []struct {
		a, b []float32
		want float32
	}{
		{nil, []float32{}, 0}, {[]float32{1, 2}, []float32{3, 4}, 11}, {[]float32{minusZero}, []float32{1}, 0},
		{[]float32{-1 - 0x1p-11, x}, []float32{1, x}, 0}, {[]float32{x, 1}, []float32{x, -1 - 0x1p-11}, 0},
		{[]float32{-inf, most}, []float32{1, 2}, nan}, {[]float32{most, -most}, []float32{2, 1}, inf},
		{[]float32{inf}, []float32{0}, nan}, {[]float32{least, 1}, []float32{0.5, 0}, 0},
		{repeated[float32](2, 256), repeated[float32](3, 256), 1536},
	} {
		sum, ok := impl.DotNumbers(c.a, c.b)
		wantNumber(t, fmt.Sprint("DotNumbers ", c.a, c.b), sum, c.want)
		wantSame(t, "DotNumbers succeeds", ok, true)
	}
	for _, c := range [][2]int{{257, 257}, {1, 0}, {0, 1}, {2, 3}, {256, 257}, {257, 256}} {
		sum, ok := impl.DotNumbers(repeated[float32](1, c[0]), repeated[float32](1, c[1]))
		wantNumber(t, "DotNumbers that fails", sum, 0)
		wantSame(t, fmt.Sprint("DotNumbers fails for ", c), ok, false)
	}
}

func TestSumsOfDrawnNumbers(t *testing.T) {
	drawn := drawnNumbers(3000)
	var list []float32 // of like size, so that many sums are rounded
	for _, x := range drawn {
		if x > -300 && x < 300 {
			list = append(list, x)
		}
	}
	for from := 0; from+512 <= len(list); from += 97 {
		a, b := list[from:from+200], list[from+312:from+512]
		sum, dot := float32(0), float32(0)
		for i := range a {
			sum, dot = shortPlus(sum, a[i]), shortPlus(dot, shortTimes(a[i], b[i]))
		}
		got, _ := impl.SumNumbers(a)
		wantNumber(t, "SumNumbers", got, sum)
		got, _ = impl.DotNumbers(a, b)
		wantNumber(t, "DotNumbers", got, dot)
	}
}

func TestSumComplex(t *testing.T) {
	for _, c := range []struct {
		list []complex64
		want complex64
	}{
		{nil, 0}, {[]complex64{complex(minusZero, minusZero)}, 0}, {[]complex64{1, complex(2, 3)}, complex(3, 3)},
		{[]complex64{complex(0x1p24, 1), complex(1, 1), complex(1, 0x1p24)}, complex(0x1p24, 0x1p24+2)},
		{[]complex64{complex(inf, 1), complex(-inf, 2)}, complex(nan, 3)},
		{[]complex64{complex(1, most), complex(2, most), complex(3, -most)}, complex(6, inf)},
		{repeated(complex64(complex(1, -2)), 256), complex(256, -512)},
	} {
		sum, ok := impl.SumComplex(c.list)
		wantComplex(t, fmt.Sprint("SumComplex ", c.list), sum, c.want)
		wantSame(t, "SumComplex succeeds", ok, true)
	}
	sum, ok := impl.SumComplex(repeated(complex64(1), 257))
	wantComplex(t, "SumComplex of 257 numbers", sum, 0)
	wantSame(t, "SumComplex fails", ok, false)
}

func TestDotComplexAndDotConjugate(t *testing.T) {
	x := float32(1 + 0x1p-12)
	for _, c := range []struct {
		a, b            []complex64
		dot, conjugated complex64
	}{
		{nil, nil, 0, 0},
		{[]complex64{complex(0, 1)}, []complex64{complex(0, 1)}, -1, 1},
		{[]complex64{complex(1, 2), 2}, []complex64{complex(3, -1), complex(0, 1)}, complex(5, 7), complex(1, -5)},
		// Each product is narrowed before it is added.
		{[]complex64{-1 - 0x1p-11, complex(x, 0)}, []complex64{1, complex(x, 0)}, 0, 0},
		{[]complex64{complex(most, 0), complex(-most, 0)}, []complex64{2, 1}, complex(inf, 0), complex(inf, 0)},
		{[]complex64{complex(0, minusZero)}, []complex64{complex(-1, 0)}, 0, 0},
		{[]complex64{complex(inf, 1)}, []complex64{1}, complex(inf, nan), complex(inf, nan)},
		{repeated(complex64(complex(0, 2)), 256), repeated(complex64(complex(1, 1)), 256), complex(-512, 512), complex(512, -512)},
	} {
		dot, ok := impl.DotComplex(c.a, c.b)
		wantComplex(t, fmt.Sprint("DotComplex ", c.a, c.b), dot, c.dot)
		wantSame(t, "DotComplex succeeds", ok, true)
		dot, ok = impl.DotConjugate(c.a, c.b)
		wantComplex(t, fmt.Sprint("DotConjugate ", c.a, c.b), dot, c.conjugated)
		wantSame(t, "DotConjugate succeeds", ok, true)
	}
	for _, c := range [][2]int{{257, 257}, {1, 0}, {0, 1}, {2, 3}, {256, 257}, {257, 256}} {
		a, b := repeated(complex64(1), c[0]), repeated(complex64(1), c[1])
		dot, ok := impl.DotComplex(a, b)
		wantComplex(t, "DotComplex that fails", dot, 0)
		wantSame(t, fmt.Sprint("DotComplex fails for ", c), ok, false)
		dot, ok = impl.DotConjugate(a, b)
		wantComplex(t, "DotConjugate that fails", dot, 0)
		wantSame(t, fmt.Sprint("DotConjugate fails for ", c), ok, false)
	}
}

func TestPowersOf(t *testing.T) {
	for _, c := range []struct {
		list []complex64
		want float32
	}{
		{nil, 0}, {[]complex64{complex(3, 4), 1}, 26}, {[]complex64{complex(minusZero, minusZero)}, 0},
		// The sum is a 64-bit one until the end.
		{[]complex64{0x1p12, 1, 1}, 0x1p24 + 2}, {[]complex64{0x1p12, 1}, 0x1p24}, {[]complex64{0x1p27, 0x1p-12, 0x1p15}, 0x1p54},
		{repeated(complex64(complex(0x1p-75, 0)), 4), 0x1p-148}, {[]complex64{complex(most, 0)}, inf},
		{[]complex64{complex(-inf, 0), 1}, inf}, {[]complex64{1, complex(0, nan)}, nan},
		{repeated(complex64(complex(1, 1)), 256), 512},
	} {
		sum, ok := impl.PowersOf(c.list)
		wantNumber(t, fmt.Sprint("PowersOf ", c.list), sum, c.want)
		wantSame(t, "PowersOf succeeds", ok, true)
	}
	sum, ok := impl.PowersOf(repeated(complex64(1), 257))
	wantNumber(t, "PowersOf 257 numbers", sum, 0)
	wantSame(t, "PowersOf fails", ok, false)
}
