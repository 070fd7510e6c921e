package tests

import (
	"fmt"
	"math"
	"testing"

	"loop.example/g01339/impl"
)

func TestLimitsOfShapes(t *testing.T) {
	wantSame(t, "the limits", [2]int{impl.MaxOrder, impl.MaxEdges}, [2]int{64, 256})
}

func wantPoint(t *testing.T, what string, d draws, want complex64, end impl.Seed, got complex64, ok bool) {
	t.Helper()
	wantComplex(t, what, got, want)
	wantSame(t, "the seed after "+what, end, d.at)
	wantSame(t, "success of "+what, ok, true)
}

func wantNumbers(t *testing.T, what string, got, want []float32) {
	t.Helper()
	wantSame(t, "how many numbers: "+what, len(got), len(want))
	for i := range min(len(got), len(want)) {
		wantNumber(t, fmt.Sprint(what, ", number ", i), got[i], want[i])
	}
}

func wantDrawnNumbers(t *testing.T, what string, d draws, want []float32, end impl.Seed, got []float32, ok bool) {
	t.Helper()
	wantNumbers(t, what, got, want)
	wantSame(t, "the seed after "+what, end, d.at)
	wantSame(t, "success of "+what, ok, true)
}

func TestCirclePoint(t *testing.T) {
	for _, s := range append(seedsOfDraws(1000), oddSeeds()...) {
		d := draws{s}
		want := phasorReference(float64(d.share()))
		end, point, ok := impl.CirclePoint(s)
		wantPoint(t, fmt.Sprint("CirclePoint ", s), d, want, end, point, ok)
		wantNear(t, "how far it is from 0", math.Hypot(float64(real(point)), float64(imag(point))), 1, 1e-6)
	}
	for _, s := range badSeeds() {
		end, point, ok := impl.CirclePoint(s)
		wantFailure(t, fmt.Sprint("CirclePoint ", s), end, point, ok)
	}
}

func TestCirclePointOfKnownWords(t *testing.T) {
	for _, c := range []struct {
		word int64
		want complex64
	}{
		{0, 1}, {255, 1}, {1 << 30, 1i}, {1 << 31, -1}, {3 << 30, -1i},
		{1 << 29, complex(fromBits(0x3f3504f3), fromBits(0x3f3504f3))}, {mostWord, complex(1, fromBits(0xb4c90fdb))},
	} {
		_, point, ok := impl.CirclePoint(lineOfWord(c.word))
		wantComplex(t, fmt.Sprint("CirclePoint of the word ", c.word), point, c.want)
		wantSame(t, "CirclePoint succeeds", ok, true)
	}
}

func squaresReference(u, v float32) float32 { return shortPlus(shortTimes(u, u), shortTimes(v, v)) }

// discReference returns how many pairs it takes as well.
func discReference(d *draws) (complex64, int) {
	for pairs := 1; ; pairs++ {
		u := shortLess(shortTimes(2, d.share()), 1)
		v := shortLess(shortTimes(2, d.share()), 1)
		if squaresReference(u, v) < 1 {
			return complex(u, v), pairs
		}
	}
}

func TestDiscPoint(t *testing.T) {
	pairs := map[int]int{}
	for _, s := range append(seedsOfDraws(1000), oddSeeds()...) {
		d := draws{s}
		want, taken := discReference(&d)
		pairs[taken]++
		end, point, ok := impl.DiscPoint(s)
		wantPoint(t, fmt.Sprint("DiscPoint ", s), d, want, end, point, ok)
		wantSame(t, "it lies in the disc", squaresReference(real(point), imag(point)) < 1, true)
	}
	for taken := 1; taken <= 3; taken++ {
		wantSame(t, fmt.Sprint("some points take so many pairs: ", taken), pairs[taken] > 0, true)
	}
	for _, s := range badSeeds() {
		end, point, ok := impl.DiscPoint(s)
		wantFailure(t, fmt.Sprint("DiscPoint ", s), end, point, ok)
	}
}

func TestDiscPointAtTheEdge(t *testing.T) {
	for _, c := range []struct {
		first, second int64
		pairs         int
		want          complex64
	}{
		{1 << 31, 1 << 31, 1, 0}, {1 << 31, 3 << 30, 1, 0.5i}, {1 << 30, 1 << 31, 1, -0.5},
		{mostWord, 1 << 31, 1, 1 - 0x1p-23}, {1 << 31, mostWord, 1, complex(0, 1-0x1p-23)}, {256, 1 << 31, 1, -1 + 0x1p-23},
		// The sum of both squares is 1.
		{0, 1 << 31, 2, 0}, {1 << 31, 0, 2, 0}, {255, 1 << 31, 2, 0},
		{0, 0, 2, 0}, {mostWord, mostWord, 2, 0}, {0, mostWord, 2, 0},
		// The sum of both squares is 1 only when it is rounded.
		{3394854144, 3895554816, 2, 0}, {2288205824, 4290351616, 2, 0}, {3447998976, 3856385536, 2, 0},
	} {
		d := draws{lineOfWords(c.first, c.second)}
		want, pairs := discReference(&d)
		wantSame(t, fmt.Sprint("how many pairs are taken for ", c), min(pairs, 2), c.pairs)
		if pairs == 1 {
			wantComplex(t, "the first point", want, c.want)
		}
		end, point, ok := impl.DiscPoint(lineOfWords(c.first, c.second))
		wantPoint(t, fmt.Sprint("DiscPoint of the words ", c.first, c.second), d, want, end, point, ok)
	}
}

func ballReference(d *draws) []float32 {
	point, _ := discReference(d)
	u, v := real(point), imag(point)
	q := squaresReference(u, v)
	r := shortRoot(shortLess(1, q))
	return []float32{shortTimes(shortTimes(2, u), r), shortTimes(shortTimes(2, v), r), shortLess(1, shortTimes(2, q))}
}

func TestBallPoint(t *testing.T) {
	for _, s := range append(seedsOfDraws(1000), oddSeeds()...) {
		d := draws{s}
		want := ballReference(&d)
		end, point, ok := impl.BallPoint(s)
		wantDrawnNumbers(t, fmt.Sprint("BallPoint ", s), d, want, end, point, ok)
		x, y, z := float64(point[0]), float64(point[1]), float64(point[2])
		wantNear(t, "how far it is from 0", math.Sqrt(x*x+y*y+z*z), 1, 1e-6)
	}
	for _, s := range badSeeds() {
		end, point, ok := impl.BallPoint(s)
		wantFailure(t, fmt.Sprint("BallPoint ", s), end, point, ok)
	}
}

func TestBallPointOfKnownWords(t *testing.T) {
	for _, c := range []struct {
		first, second int64
		want          []float32
	}{
		{1 << 31, 1 << 31, []float32{0, 0, 1}}, {3 << 30, 3 << 30, []float32{fromBits(0x3f3504f3), fromBits(0x3f3504f3), 0}},
		{1 << 30, 1 << 31, []float32{fromBits(0xbf5db3d7), 0, 0.5}}, {1 << 31, 3 << 30, []float32{0, fromBits(0x3f5db3d7), 0.5}},
		{1<<31 + 1<<29, 1 << 30, []float32{fromBits(0x3ed44395), fromBits(0xbf544395), 0.375}},
	} {
		_, point, ok := impl.BallPoint(lineOfWords(c.first, c.second))
		wantNumbers(t, fmt.Sprint("BallPoint of the words ", c.first, c.second), point, c.want)
		wantSame(t, "BallPoint succeeds", ok, true)
	}
}

// triangleReference returns one part of the point.
func triangleReference(u, v, a, b, c float32) float32 {
	return shortPlus(shortPlus(a, shortTimes(shortLess(b, a), u)), shortTimes(shortLess(c, a), v))
}

func trianglesReference(d *draws, a, b, c complex64) complex64 {
	u, v := d.share(), d.share()
	if shortPlus(u, v) > 1 {
		u, v = shortLess(1, u), shortLess(1, v)
	}
	return complex(triangleReference(u, v, real(a), real(b), real(c)), triangleReference(u, v, imag(a), imag(b), imag(c)))
}

func isFinite(x float32) bool { return x-x == 0 }

func TestTrianglePoint(t *testing.T) {
	finite, failed := []float32{}, 0
	for _, x := range drawnNumbers(100) {
		if isFinite(x) {
			finite = append(finite, x)
		}
	}
	large := []float32{most, -most, 2e38, -2e38, 1e38, -1e38, 0, 1, 1e38, -1e38, 3e38}
	for i, s := range append(seedsOfDraws(2000), oddSeeds()...) {
		list := finite
		if i%5 == 0 {
			list = large
		}
		part := func(i int) float32 { return list[i%len(list)] }
		a, b, c := complex(part(i), part(i*3+1)), complex(part(i*5+2), part(i*7+3)), complex(part(i*11+4), part(i*13+5))
		d := draws{s}
		want := trianglesReference(&d, a, b, c)
		end, point, ok := impl.TrianglePoint(s, a, b, c)
		what := fmt.Sprint("TrianglePoint ", s, a, b, c)
		if isFinite(real(want)) && isFinite(imag(want)) {
			wantPoint(t, what, d, want, end, point, ok)
		} else {
			failed++
			wantFailure(t, what, end, point, ok)
		}
	}
	wantSame(t, fmt.Sprint("some points are not finite, most are: ", failed), failed > 50 && failed < 800, true)
}

func TestTrianglePointOfKnownWords(t *testing.T) {
	const half = 1 << 31
	for _, c := range []struct {
		first, second int64
		want          complex64
	}{
		{0, 0, 0}, {1 << 30, 0, 0.25}, {0, 1 << 30, 0.25i}, {1 << 30, half, 0.25 + 0.5i},
		// The sum of both shares is 1.
		{1 << 30, 3 << 30, 0.25 + 0.75i}, {3 << 30, 1 << 30, 0.75 + 0.25i}, {256, mostWord - 255, complex(0x1p-24, 1-0x1p-24)},
		// It is rounded to 1.
		{half, half + 256, complex(0.5, 0.5+0x1p-24)}, {half + 256, half, complex(0.5+0x1p-24, 0.5)},
		// It is greater than 1.
		{half, half + 512, complex(0.5, 0.5-0x1p-23)}, {3 << 30, 3 << 30, 0.25 + 0.25i}, {mostWord, mostWord, complex(0x1p-24, 0x1p-24)}, {mostWord, half, complex(0x1p-24, 0.5)},
	} {
		s := lineOfWords(c.first, c.second)
		_, point, ok := impl.TrianglePoint(s, 0, 1, 1i)
		wantComplex(t, fmt.Sprint("TrianglePoint of the words ", c.first, c.second), point, c.want)
		wantSame(t, "TrianglePoint succeeds", ok, true)
		_, point, _ = impl.TrianglePoint(s, 1+2i, 3+2i, 1+6i)
		wantComplex(t, fmt.Sprint("TrianglePoint of a great triangle, of the words ", c.first, c.second), point,
			complex(shortPlus(1, 2*real(c.want)), shortPlus(2, 4*imag(c.want))))
	}
	for _, a := range []complex64{0, 1 - 2i, complex(most, -most), complex(minusZero, least)} {
		_, point, ok := impl.TrianglePoint(lineOfWords(1<<30, 77), a, a, a)
		wantComplex(t, fmt.Sprint("TrianglePoint of equal points ", a), point, a+0)
		wantSame(t, "TrianglePoint of equal points succeeds", ok, true)
	}
}

// TestTrianglePointLiesInTheTriangle looks at which side of each edge it lies.
func TestTrianglePointLiesInTheTriangle(t *testing.T) {
	side := func(from, to, point complex64) float64 {
		way, off := complex128(to)-complex128(from), complex128(point)-complex128(from)
		return real(way)*imag(off) - imag(way)*real(off)
	}
	a, b, c := complex64(-3+1i), complex64(5-2i), complex64(1+7i)
	for _, s := range seedsOfDraws(1000) {
		_, point, _ := impl.TrianglePoint(s, a, b, c)
		if side(a, b, point) < -1e-5 || side(b, c, point) < -1e-5 || side(c, a, point) < -1e-5 {
			t.Errorf("TrianglePoint %v: %v lies outside", s, point)
		}
	}
}

func TestTrianglePointFails(t *testing.T) {
	good := drawnSeeds(4)
	for _, bad := range oddFloats() {
		for _, x := range []complex64{complex(bad, 0), complex(0, bad), complex(bad, bad)} {
			for _, s := range append(good, badSeeds()...) {
				end, point, ok := impl.TrianglePoint(s, x, 1, 1i)
				wantFailure(t, fmt.Sprint("TrianglePoint ", s, x, 1, 1i), end, point, ok)
				end, point, ok = impl.TrianglePoint(s, 0, x, 1i)
				wantFailure(t, fmt.Sprint("TrianglePoint ", s, 0, x, 1i), end, point, ok)
				end, point, ok = impl.TrianglePoint(s, 0, 1, x)
				wantFailure(t, fmt.Sprint("TrianglePoint ", s, 0, 1, x), end, point, ok)
				end, point, ok = impl.TrianglePoint(s, x, x, x)
				wantFailure(t, fmt.Sprint("TrianglePoint ", s, x, x, x), end, point, ok)
			}
		}
	}
	for _, s := range badSeeds() {
		end, point, ok := impl.TrianglePoint(s, 0, 1, 1i)
		wantFailure(t, fmt.Sprint("TrianglePoint ", s), end, point, ok)
	}
	// A difference that is too great is not finite times any share, 0 among them.
	for _, words := range [][2]int64{{0, 0}, {0, 1 << 30}, {1 << 30, 0}, {1 << 29, 1 << 29}} {
		s := lineOfWords(words[0], words[1])
		for _, c := range [][3]complex64{
			{complex(-most, 0), complex(most, 0), complex(-most, 0)}, {complex(0, -most), complex(0, -most), complex(0, most)},
			{complex(0, most), complex(0, -most), complex(0, most)}, {complex(most, 0), complex(most, 0), complex(-most, 0)},
		} {
			end, point, ok := impl.TrianglePoint(s, c[0], c[1], c[2])
			wantFailure(t, fmt.Sprint("TrianglePoint of words ", words, c), end, point, ok)
		}
	}
}

func simplexReference(d *draws, n int64) []float32 {
	sorted := []float32{}
	for range n - 1 {
		u := d.share()
		at := len(sorted)
		for at > 0 && sorted[at-1] > u {
			at--
		}
		sorted = append(sorted[:at], append([]float32{u}, sorted[at:]...)...)
	}
	if n == 1 {
		return []float32{1}
	}
	list := []float32{sorted[0]}
	for i := 1; i < len(sorted); i++ {
		list = append(list, shortLess(sorted[i], sorted[i-1]))
	}
	return append(list, shortLess(1, sorted[len(sorted)-1]))
}

func TestSimplexPoint(t *testing.T) {
	for i, s := range append(seedsOfDraws(300), oddSeeds()...) {
		for n := int64(1); n <= 64; n++ {
			if n > 4 && n < 64 && (int64(i)+n)%16 != 0 {
				continue
			}
			d := draws{s}
			want := simplexReference(&d, n)
			end, point, ok := impl.SimplexPoint(s, n)
			wantDrawnNumbers(t, fmt.Sprint("SimplexPoint ", s, n), d, want, end, point, ok)
			// All differences between shares are exact.
			sum := float32(0)
			for _, x := range point {
				wantSame(t, "no number is less than 0", x >= 0, true)
				sum = shortPlus(sum, x)
			}
			wantNumber(t, "the sum of SimplexPoint", sum, 1)
		}
	}
	for _, s := range append(badSeeds(), drawnSeeds(4)...) {
		for _, n := range append(badCounts(), 0) {
			end, point, ok := impl.SimplexPoint(s, n)
			wantFailure(t, fmt.Sprint("SimplexPoint ", s, n), end, point, ok)
		}
	}
	for _, s := range badSeeds() {
		for _, n := range []int64{1, 2, 64} {
			end, point, ok := impl.SimplexPoint(s, n)
			wantFailure(t, fmt.Sprint("SimplexPoint ", s, n), end, point, ok)
		}
	}
}

func TestSimplexPointOfKnownWords(t *testing.T) {
	for _, c := range []struct {
		first, second, n int64
		want             []float32
	}{
		{0, 0, 1, []float32{1}}, {0, 0, 2, []float32{0, 1}}, {1 << 30, 0, 2, []float32{0.25, 0.75}}, {mostWord, 0, 2, []float32{1 - 0x1p-24, 0x1p-24}},
		{1 << 30, 1 << 31, 3, []float32{0.25, 0.25, 0.5}}, {1 << 31, 1 << 30, 3, []float32{0.25, 0.25, 0.5}},
		{3 << 30, 3 << 30, 3, []float32{0.75, 0, 0.25}}, {0, 0, 3, []float32{0, 0, 1}}, {mostWord, 0, 3, []float32{0, 1 - 0x1p-24, 0x1p-24}},
	} {
		s := lineOfWords(c.first, c.second)
		end, point, ok := impl.SimplexPoint(s, c.n)
		wantDrawnNumbers(t, fmt.Sprint("SimplexPoint of the words ", c), draws{s}.behind(int(c.n)-1), c.want, end, point, ok)
	}
}

// TestPointsAreEven looks at means that all points together have.
func TestPointsAreEven(t *testing.T) {
	square := func(x float32) float64 { return float64(x) * float64(x) }
	mean, squares := meanOf(t, "DiscPoint", 20000, func(s impl.Seed) (impl.Seed, float64, bool) {
		s, point, ok := impl.DiscPoint(s)
		return s, square(real(point)) + square(imag(point)), ok
	})
	wantNear(t, "the mean of the power in a disc", mean, 1.0/2, 0.01)
	wantNear(t, "the mean of its square", squares, 1.0/3, 0.01)
	for i := range 3 {
		mean, squares = meanOf(t, "BallPoint", 20000, func(s impl.Seed) (impl.Seed, float64, bool) {
			s, point, ok := impl.BallPoint(s)
			return s, float64(point[i]), ok
		})
		wantNear(t, fmt.Sprint("the mean of the number on a ball ", i), mean, 0, 0.02)
		wantNear(t, fmt.Sprint("the mean of its square ", i), squares, 1.0/3, 0.01)
	}
	mean, _ = meanOf(t, "TrianglePoint", 20000, func(s impl.Seed) (impl.Seed, float64, bool) {
		s, point, ok := impl.TrianglePoint(s, 0, 3, 6i)
		return s, float64(real(point) * imag(point)), ok
	})
	wantNear(t, "the mean of the product of both parts in a triangle", mean, 18.0/12, 0.03)
	for i := range 4 {
		mean, squares = meanOf(t, "SimplexPoint", 20000, func(s impl.Seed) (impl.Seed, float64, bool) {
			s, point, ok := impl.SimplexPoint(s, 4)
			return s, float64(point[i]), ok
		})
		wantNear(t, fmt.Sprint("the mean of the number in a simplex ", i), mean, 1.0/4, 0.01)
		wantNear(t, fmt.Sprint("the mean of its square ", i), squares, 1.0/10, 0.01)
	}
}
