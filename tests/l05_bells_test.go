package tests

import (
	"fmt"
	"math"
	"testing"

	"loop.example/g01339/impl"
)

// bellSum is the sum of the document before it is cut off at 0 and 1.
func bellSum(x float32) float32 {
	wide := float64(x)
	t, s := wide, wide
	for k := 1.0; k <= 120; k++ {
		t = over(times(times(t, wide), wide), plus(times(2, k), 1))
		s = plus(s, t)
	}
	e := shortExp(float32(times(times(-0.5, wide), wide)))
	return float32(plus(0.5, over(times(s, float64(e)), 2.5066282746310002)))
}

func bellUpToReference(x float32) float32 {
	sum := bellSum(x)
	switch {
	case x < -6 || sum < 0:
		return 0
	case x > 6 || sum > 1:
		return 1
	}
	return sum
}

func exactBell(x float32) float64 { return math.Erfc(-float64(x)/math.Sqrt2) / 2 }

// placesOfBells has numbers from -6.5 to 6.5, and any other finite ones.
func placesOfBells() []float32 {
	var list []float32
	for _, x := range drawnNumbers(200) {
		if isFinite(x) {
			list = append(list, x)
		}
	}
	for i := -26000; i <= 26000; i += 13 {
		list = append(list, float32(i)/4000)
	}
	for _, x := range []float32{6, 5.5, 5, 4, 3, 2, 1} {
		for range 20 {
			list = append(list, x, -x)
			x = math.Nextafter32(x, 0)
		}
	}
	return list
}

func TestBellBelow(t *testing.T) {
	low, high := 0, 0
	for _, x := range placesOfBells() {
		if sum := bellSum(x); x >= -6 && x <= 6 && sum < 0 {
			low++
		} else if x >= -6 && x <= 6 && sum > 1 {
			high++
		}
		below, ok := impl.BellBelow(x)
		wantTold(t, call{"BellBelow ", x}, below, ok, bellUpToReference(x))
		wantNear(t, fmt.Sprint("BellBelow ", x), float64(below), exactBell(x), 6e-7)
	}
	wantSame(t, "some sums are cut off on both sides", low > 0 && high > 0, true)
	for _, x := range oddFloats() {
		below, ok := impl.BellBelow(x)
		wantFailure(t, fmt.Sprint("BellBelow ", x), below, ok)
	}
}

func TestBellBelowThatIsKnown(t *testing.T) {
	for _, c := range []struct{ x, want float32 }{
		{0, 0.5}, {minusZero, 0.5}, {least, 0.5}, {7, 1}, {-7, 0}, {most, 1}, {-most, 0}, {1e20, 1}, {-1e20, 0}, {6, 1}, {math.Nextafter32(6, 7), 1}, {math.Nextafter32(-6, -7), 0},
		// These have been told by another program, which follows the document in other words.
		{-6, fromBits(0x32cac9d1)}, {fromBits(0xc0bfffff), fromBits(0x34f86b72)}, {-5.5, fromBits(0x33385362)}, {-5, fromBits(0x349997c2)}, {-4, fromBits(0x3804dca7)}, {-3, fromBits(0x3ab0ef5a)}, {-2, fromBits(0x3cba5e7f)}, {-1, fromBits(0x3e227686)}, {-0.5, fromBits(0x3e9df8a2)},
		{0.5, fromBits(0x3f3103af)}, {1, fromBits(0x3f57625f)}, {2, fromBits(0x3f7a2d0c)}, {3, fromBits(0x3f7fa788)}, {4, fromBits(0x3f7ffded)}, {5, fromBits(0x3f7ffffb)}, {5.5, fromBits(0x3f7fffff)}, {fromBits(0x40bb1e2d), 1},
	} {
		below, ok := impl.BellBelow(c.x)
		wantTold(t, call{"BellBelow ", c.x}, below, ok, c.want)
	}
}

func bellAtReference(p float32) float32 {
	low, high := float32(-6), float32(6)
	for range 40 {
		middle := shortTimes(0.5, shortPlus(low, high))
		if bellUpToReference(middle) < p {
			low = middle
		} else {
			high = middle
		}
	}
	return low
}

func TestBellAt(t *testing.T) {
	parts := []float32{0.5, 0.25, 0.75, 0.1, 0.9, 1 - 0x1p-24, 1 - 0x1p-23, 0x1p-24, least, leastNormal, 1e-10, 1e-7, 1e-4, 0.999}
	d := drawnBits(106)
	for range 300 {
		parts = append(parts, float32(d.next()>>8|1)*0x1p-24, float32(math.Exp(-float64(d.next()>>20)/100)))
	}
	for _, p := range parts {
		if p <= 0 || p >= 1 {
			continue
		}
		x, ok := impl.BellAt(p)
		wantTold(t, call{"BellAt ", p}, x, ok, bellAtReference(p))
		below, _ := impl.BellBelow(x)
		wantSame(t, fmt.Sprint("less than ", p, " is below it"), below < p, true)
		wantNear(t, fmt.Sprint("the part below BellAt ", p), exactBell(x), float64(p), 6e-7)
	}
	for _, p := range append(outside(), 0, minusZero, 1, -0.5, 1.5) {
		x, ok := impl.BellAt(p)
		wantFailure(t, fmt.Sprint("BellAt ", p), x, ok)
	}
}

func TestBellAtThatIsKnown(t *testing.T) {
	for _, c := range []struct{ p, want uint32 }{
		{0x3f000000, 0xb3207400}, {0x3e800000, 0xbf2cab5d}, {0x3f400000, 0x3f2cab5a}, {0x3dcccccd, 0xbfa409e2}, {0x3f666666, 0x3fa409de}, {0x3f79999a, 0x3ffae014}, {0x00000001, 0xc0bfb5d0},
		{0x2edbe6ff, 0xc0bc166f}, {0x33d6bf95, 0xc0a6b6f9}, {0x3a83126f, 0xc045c655}, {0x3f7fbe77, 0x4045c62b}, {0x3f7fffff, 0x40a6b6f8}, {0x3cba5e35, 0xc000000a},
	} {
		x, ok := impl.BellAt(fromBits(c.p))
		wantTold(t, call{"BellAt ", fromBits(c.p)}, x, ok, fromBits(c.want))
	}
}
