package tests

import (
	"math"
	"sync"
	"testing"
)

// Values that Go has no literals for, and the ends of the format.
var (
	inf       = float32(math.Inf(1))
	nan       = float32(math.NaN())
	minusZero = float32(math.Copysign(0, -1))
)

const (
	most          = float32(math.MaxFloat32)
	least         = float32(0x1p-149)
	leastNormal   = float32(0x1p-126)
	mostSubnormal = float32(0x1p-126 - 0x1p-149)
	afterOne      = float32(1 + 0x1p-23)
)

// bitsOf tells numbers apart without the program's own help.
func bitsOf(x float32) uint32 {
	if x != x {
		return 0x7fc00000
	}
	return math.Float32bits(x)
}

// oddNumbers has no two numbers that are the same.
func oddNumbers() []float32 {
	list := []float32{nan}
	for _, x := range []float32{0, least, mostSubnormal, leastNormal, 0.25, 0.5, 0.75, 1, afterOne, 1.5, 3, 200, 201, 1e20, 0x1p51, 0x1p52, most, inf} {
		list = append(list, x, float32(math.Copysign(float64(x), -1)))
	}
	return list
}

// drawnBits gives the same numbers in each run.
type drawnBits uint64

func (d *drawnBits) next() uint32 {
	*d = *d*6364136223846793005 + 1442695040888963407
	return uint32(*d >> 32)
}

// drawnNumbers has numbers with any bits, and, for each of them, one nearer to 1 and one nearer to 200.
func drawnNumbers(count int) []float32 {
	d := drawnBits(1)
	list := oddNumbers()
	for range count {
		list = append(list, math.Float32frombits(d.next()))
		list = append(list, (float32(d.next())/0x1p32-0.5)*4)
		list = append(list, (float32(d.next())/0x1p32-0.5)*420)
	}
	return list
}

func wantNumber(t *testing.T, what string, got, want float32) {
	t.Helper()
	if bitsOf(got) != bitsOf(want) {
		t.Errorf("%s: got %v (%08x), want %v (%08x)", what, got, bitsOf(got), want, bitsOf(want))
	}
}

func wantComplex(t *testing.T, what string, got, want complex64) {
	t.Helper()
	if bitsOf(real(got)) != bitsOf(real(want)) || bitsOf(imag(got)) != bitsOf(imag(want)) {
		t.Errorf("%s: got %v, want %v", what, got, want)
	}
}

func wantSame[T comparable](t *testing.T, what string, got, want T) {
	t.Helper()
	if got != want {
		t.Errorf("%s: got %v, want %v", what, got, want)
	}
}

// wantEqualAtOnce makes calls at the same time, which must return what they return alone.
func wantEqualAtOnce(t *testing.T, calls func() string) {
	t.Helper()
	want := calls()
	results := make([]string, 32)
	var group sync.WaitGroup
	for i := range results {
		group.Go(func() { results[i] = calls() })
	}
	group.Wait()
	for _, result := range results {
		wantSame(t, "calls at once", result, want)
	}
}

// The operations of the references are calls that are never inlined, so that
// no compiler can fuse two of them.

//go:noinline
func plus(a, b float64) float64 { return a + b }

//go:noinline
func less(a, b float64) float64 { return a - b }

//go:noinline
func times(a, b float64) float64 { return a * b }

//go:noinline
func over(a, b float64) float64 { return a / b }

//go:noinline
func shortPlus(a, b float32) float32 { return a + b }

//go:noinline
func shortTimes(a, b float32) float32 { return a * b }
