package tests

import (
	"fmt"
	"math"
	"testing"

	"loop.example/g01339/impl"
)

const wholeTurn = 6.283185307179586

func fromBits(bits uint32) float32 { return math.Float32frombits(bits) }

// The references below follow the document step by step, one call for each operation.

func fractionReference(x float64) float64 {
	f := less(x, plus(math.Trunc(x), 0))
	if f < 0 {
		f = plus(f, 1)
	}
	return f
}

func sineReference(x float64) float64 {
	f, sign := fractionReference(x), 1.0
	if f >= 0.5 {
		f, sign = less(f, 0.5), -1
	}
	if f > 0.25 {
		f = less(0.5, f)
	}
	z := times(f, wholeTurn)
	u, p := times(z, z), 1.0
	for k := 8.0; k > 0; k-- {
		p = less(1, over(times(u, p), 2*k*(2*k+1)))
	}
	return times(sign, times(z, p))
}

func phasorReference(turns float64) complex64 {
	f, q := fractionReference(turns), 0
	for f >= 0.25 {
		f, q = less(f, 0.25), q+1
	}
	c, s := sineReference(less(0.25, f)), sineReference(f)
	re := []float64{c, less(0, s), less(0, c), s, c}[q]
	im := []float64{s, c, less(0, s), less(0, c), s}[q]
	return complex(float32(re), float32(im))
}

func angleReference(y, x float64) float32 {
	a, b := math.Abs(y), math.Abs(x)
	t := over(min(a, b), max(a, b))
	for range 3 {
		t = over(t, plus(1, math.Sqrt(plus(1, times(t, t)))))
	}
	u, p := times(t, t), 0.0
	for k := 15.0; k > 0; k -= 2 {
		p = less(over(1, k), times(u, p))
	}
	angle := over(times(8, times(t, p)), wholeTurn)
	if a > b {
		angle = less(0.25, angle)
	}
	if x < 0 {
		angle = less(0.5, angle)
	}
	if y < 0 {
		angle = -angle
	}
	return float32(angle)
}

func logReference(x float64) float64 {
	frac, e := math.Frexp(x) // 0.5 to less than 1
	if frac < 0.75 {
		frac, e = frac*2, e-1
	}
	s := over(less(frac, 1), plus(frac, 1))
	u, q := times(s, s), 0.0
	for k := 25.0; k > 0; k -= 2 {
		q = plus(over(1, k), times(u, q))
	}
	return plus(times(2, times(s, q)), times(float64(e), 0.6931471805599453))
}

func expReference(x float64) float32 {
	t, p := over(x, 256), 1.0
	for k := 12.0; k > 0; k-- {
		p = plus(1, over(times(t, p), k))
	}
	for range 8 {
		p = times(p, p)
	}
	return float32(p)
}

func TestSineTurns(t *testing.T) {
	for _, c := range []struct{ x, want float32 }{
		{0, 0}, {minusZero, minusZero}, {0.25, 1}, {0.75, -1}, {-0.25, -1}, {-0.75, 1},
		// The sign of a sine is turned for half a turn, that of its zero too.
		{0.5, minusZero}, {-0.5, minusZero}, {1, 0}, {-1, 0}, {7.5, minusZero}, {-8, 0},
		// A negative number near 0 comes to a whole turn.
		{-least, minusZero}, {least, 6 * least}, {leastNormal, fromBits(0x01c90fdb)},
		{nan, nan}, {inf, nan}, {-inf, nan}, {0x1p52, 0}, {-0x1p52, 0}, {most, 0}, {-most, 0}, {-0x1.fffffep51, 0},
		{fromBits(0x3dcccccd), fromBits(0x3f167918)}, {fromBits(0x3eaaaaab), fromBits(0x3f5db3d7)},
		{fromBits(0x3f333333), fromBits(0xbf737870)}, {fromBits(0xbdcccccd), fromBits(0xbf167918)},
		{fromBits(0xbe99999a), fromBits(0xbf737870)}, {fromBits(0xbf666666), fromBits(0x3f16791a)},
		{fromBits(0x40533333), fromBits(0x3f737872)}, {fromBits(0xc49a5225), fromBits(0x3ed146ee)},
		{fromBits(0x2edbe6ff), fromBits(0x302cb5fd)}, {fromBits(0xaedbe6ff), fromBits(0xb02cb5fd)},
		{0.125, fromBits(0x3f3504f3)}, {fromBits(0x49742405), fromBits(0x3f6c835e)},
		// One step of the sum less would change these.
		{fromBits(0x3e6a2729), fromBits(0x3f7db40c)}, {fromBits(0x3e7e8349), fromBits(0x3f7ffd46)},
	} {
		wantNumber(t, fmt.Sprint("SineTurns ", c.x), impl.SineTurns(c.x), c.want)
	}
	for _, x := range drawnNumbers(5000) {
		if math.Abs(float64(x)) < 0x1p52 {
			wantNumber(t, fmt.Sprint("SineTurns ", x), impl.SineTurns(x), float32(sineReference(float64(x))))
		}
	}
}

func TestPhasorOf(t *testing.T) {
	zero := math.Copysign(0, -1)
	for _, c := range []struct {
		turns float64
		want  complex64
	}{
		{0, 1}, {zero, complex(1, minusZero)}, {0.25, complex(0, 1)}, {0.5, -1}, {0.75, complex(0, -1)},
		{1, 1}, {-1, 1}, {-0.25, complex(0, -1)}, {-0.75, complex(0, 1)}, {1000.5, -1},
		// What is rounded to a whole turn, and what is not quite a quarter.
		{-1e-300, 1}, {-0x1p-54, 1}, {-5e-324, 1}, {5e-324, 1},
		{0.2499999999999999, complex(fromBits(0x26490fdb), 1)},
		{0x1p52, 1}, {-0x1p52, 1}, {math.MaxFloat64, 1}, {-math.MaxFloat64, 1}, {0x1p52 - 0.5, -1}, {-0x1p52 + 0.5, -1},
		{math.NaN(), complex(nan, nan)}, {math.Inf(1), complex(nan, nan)}, {math.Inf(-1), complex(nan, nan)},
		{0.1, complex(fromBits(0x3f4f1bbd), fromBits(0x3f167918))},
		{0.3333333333333333, complex(-0.5, fromBits(0x3f5db3d7))},
		{0.6, complex(fromBits(0xbf4f1bbd), fromBits(0xbf167918))},
		{0.8, complex(fromBits(0x3e9e377a), fromBits(0xbf737871))},
		{-0.1, complex(fromBits(0x3f4f1bbd), fromBits(0xbf167918))},
		{-0.4, complex(fromBits(0xbf4f1bbd), fromBits(0xbf167918))},
		{1e-20, complex(1, fromBits(0x1f945b86))},
		{12345.678, complex(fromBits(0xbedfcda3), fromBits(0xbf663f6c))},
	} {
		wantComplex(t, fmt.Sprint("PhasorOf ", c.turns), impl.PhasorOf(c.turns), c.want)
	}
	for i, x := range drawnNumbers(5000) {
		turns := float64(x) * (1 + float64(i)*0x1p-52)
		if math.Abs(turns) < 0x1p52 {
			wantComplex(t, fmt.Sprint("PhasorOf ", turns), impl.PhasorOf(turns), phasorReference(turns))
		}
	}
}

func TestAngleTurns(t *testing.T) {
	for _, c := range []struct{ y, x, want float32 }{
		{0, 0, 0}, {minusZero, 0, 0}, {0, minusZero, 0}, {minusZero, minusZero, 0},
		{0, 1, 0}, {minusZero, 1, 0}, {1, 0, 0.25}, {1, minusZero, 0.25}, {-1, 0, -0.25}, {0, -1, 0.5}, {minusZero, -1, 0.5},
		{1, 1, 0.125}, {1, -1, 0.375}, {-1, -1, -0.375}, {-1, 1, -0.125},
		{least, most, 0}, {-least, most, minusZero}, {-least, -most, -0.5}, {most, least, 0.25}, {least, least, 0.125}, {most, -most, 0.375},
		{nan, 1, nan}, {1, nan, nan}, {inf, 1, nan}, {1, inf, nan}, {-inf, -inf, nan}, {0, nan, nan},
		{1, 2, fromBits(0x3d972029)}, {2, 1, fromBits(0x3e346fec)}, {1, -2, fromBits(0x3eda37f6)}, {-1, -2, fromBits(0xbeda37f6)},
		{-3, 1, fromBits(0xbe4b9014)}, {-1, 3, fromBits(0xbd51bfae)}, {fromBits(0x3dcccccd), fromBits(0x3f333333), fromBits(0x3cb90148)},
		{-5, fromBits(0xba83126f), fromBits(0xbe80042c)}, {fromBits(0x3e99999a), -4, fromBits(0x3ef9e65e)},
	} {
		wantNumber(t, fmt.Sprint("AngleTurns ", c.y, c.x), impl.AngleTurns(c.y, c.x), c.want)
		wantNumber(t, fmt.Sprint("AngleOf ", c.x, c.y), impl.AngleOf(complex(c.x, c.y)), c.want)
	}
	list := drawnNumbers(5000)
	for i, y := range list {
		x := list[(i*7+1)%len(list)]
		if x-x == 0 && y-y == 0 && (x != 0 || y != 0) {
			want := angleReference(float64(y), float64(x))
			wantNumber(t, fmt.Sprint("AngleTurns ", y, x), impl.AngleTurns(y, x), want)
			wantNumber(t, fmt.Sprint("AngleOf ", x, y), impl.AngleOf(complex(x, y)), want)
		}
	}
}

func TestTenthsOfAndLogNumber(t *testing.T) {
	for _, c := range []struct {
		x, log float32
		tenths int64
	}{
		{1, 0, 0}, {2, fromBits(0x3f317218), 30}, {10, fromBits(0x40135d8e), 100}, {0.5, fromBits(0xbf317218), -30},
		{fromBits(0x3dcccccd), fromBits(0xc0135d8e), -100}, {afterOne, fromBits(0x33ffffff), 0},
		{fromBits(0x3f7ffffe), fromBits(0xb4000001), 0}, {least, fromBits(0xc2ce8ed0), -4485}, {most, fromBits(0x42b17218), 3853},
		{0.75, fromBits(0xbe934b11), -12}, {fromBits(0x3f3fffff), fromBits(0xbe934b13), -12}, {1.5, fromBits(0x3ecf991f), 18},
		{fromBits(0x3fbfffff), fromBits(0x3ecf991d), 18}, {3, fromBits(0x3f8c9f54), 48}, {fromBits(0x42f6e979), fromBits(0x409a1bba), 209},
		// Of all numbers, these two have another logarithm if its last sum is fused.
		{fromBits(0x3c413d3a), fromBits(0xc08e158f), -193}, {fromBits(0x41178feb), fromBits(0x400fe5e7), 98},
	} {
		wantNumber(t, fmt.Sprint("LogNumber ", c.x), impl.LogNumber(c.x), c.log)
		tenths, ok := impl.TenthsOf(c.x)
		wantSame(t, fmt.Sprint("TenthsOf ", c.x), tenths, c.tenths)
		wantSame(t, "TenthsOf succeeds", ok, true)
	}
	for _, x := range drawnNumbers(5000) {
		if x > 0 && x <= most {
			log := logReference(float64(x))
			wantNumber(t, fmt.Sprint("LogNumber ", x), impl.LogNumber(x), float32(log))
			tenths, ok := impl.TenthsOf(x)
			wantSame(t, fmt.Sprint("TenthsOf ", x), tenths, int64(math.Floor(plus(times(log, 43.42944819032518), 0.5))))
			wantSame(t, "TenthsOf succeeds", ok, true)
		}
	}
}

// TestTenthsOfAtTheirSteps looks at the least number that has some tenths, and at the one before it.
func TestTenthsOfAtTheirSteps(t *testing.T) {
	tenths := func(bits uint32) int64 {
		return int64(math.Floor(plus(times(logReference(float64(fromBits(bits))), 43.42944819032518), 0.5)))
	}
	for n := int64(-4484); n <= 3853; n += 7 {
		low, high := uint32(1), uint32(0x7f7fffff)
		for low+1 < high {
			if middle := low + (high-low)/2; tenths(middle) >= n {
				high = middle
			} else {
				low = middle
			}
		}
		at, _ := impl.TenthsOf(fromBits(high))
		wantSame(t, "TenthsOf at a step", at, tenths(high))
		before, _ := impl.TenthsOf(fromBits(low))
		wantSame(t, "TenthsOf before a step", before, tenths(low))
	}
}

func TestTenthsOfAndLogNumberAtTheEnds(t *testing.T) {
	for _, c := range []struct{ x, log float32 }{
		{0, -inf}, {minusZero, -inf}, {inf, inf}, {-inf, nan}, {nan, nan}, {-1, nan}, {-least, nan}, {-most, nan},
	} {
		wantNumber(t, fmt.Sprint("LogNumber ", c.x), impl.LogNumber(c.x), c.log)
		tenths, ok := impl.TenthsOf(c.x)
		wantSame(t, fmt.Sprint("TenthsOf fails for ", c.x), ok, false)
		wantSame(t, "TenthsOf that fails", tenths, 0)
	}
}

func TestExpNumber(t *testing.T) {
	for _, c := range []struct{ x, want float32 }{
		{0, 1}, {minusZero, 1}, {1, fromBits(0x402df854)}, {-1, fromBits(0x3ebc5ab2)}, {0.5, fromBits(0x3fd3094c)},
		{fromBits(0xbdcccccd), fromBits(0x3f67a36d)}, {10, fromBits(0x46ac14ee)}, {fromBits(0x42b170a4), fromBits(0x7f7f4648)},
		{fromBits(0x42b175c3), inf}, {fromBits(0xc2ae999a), fromBits(0x0084c38b)}, {fromBits(0xc2ce6666), least},
		{fromBits(0xc2cff5c3), 0}, {20.5, fromBits(0x4e3eb628)}, {least, 1}, {-least, 1},
		{200, inf}, {-200, 0}, {fromBits(0x43480001), inf}, {fromBits(0xc3480001), 0}, {most, inf}, {-most, 0},
		{inf, inf}, {-inf, 0}, {nan, nan},
	} {
		wantNumber(t, fmt.Sprint("ExpNumber ", c.x), impl.ExpNumber(c.x), c.want)
	}
	for _, x := range drawnNumbers(5000) {
		if x >= -200 && x <= 200 {
			wantNumber(t, fmt.Sprint("ExpNumber ", x), impl.ExpNumber(x), expReference(float64(x)))
		}
	}
}
