package tests

import (
	"fmt"
	"math"
	"slices"
	"testing"

	"loop.example/g01339/impl"
)

// meansReference puts each mean behind all that are not greater, at once.
func meansReference(d *draws, list []float32, times int64) []float32 {
	means := []float32{}
	for range times {
		sum := float32(0)
		for range list {
			sum = shortPlus(sum, list[d.below(int64(len(list)))])
		}
		mean := shortOver(sum, float32(len(list)))
		at := len(means)
		for at > 0 && means[at-1] > mean {
			at--
		}
		means = slices.Insert(means, at, mean)
	}
	return means
}

// listsToDraw has lists of 1 to 40 finite numbers.
func listsToDraw() [][]float32 {
	lists := [][]float32{{3}, {0}, {minusZero}, {most}, {-most}, {least}, {0, minusZero}, {1, 2}, {-1, 1}, {-1, 1, 0}, {-least, least, 0}, {-least, least}, {-least, 0, 0, 0, least}, {-least, minusZero, minusZero}, {0.1, 0.2, 0.3}, {1e20, -1e20, 1}, {0x1p24, 1, 1}, {most / 40, -most / 40, 7}, repeated[float32](2, 40), repeated(minusZero, 40), wholes(40), {-1e-40, 1e-40, 3e-45, -3e-45}}
	d := drawnBits(141)
	for n := 1; n <= 40; n++ {
		for _, wide := range []float32{1, 1000, 0x1p-146} {
			list := []float32{}
			for range n {
				list = append(list, shortTimes(float32(d.next()>>8)*0x1p-24-0.5, wide))
			}
			lists = append(lists, list)
		}
	}
	return lists
}

func TestDrawnMeans(t *testing.T) {
	lists := listsToDraw()
	zeros, mixed := map[bool]int{}, 0
	for i, s := range append(seedsOfDraws(200), oddSeeds()...) {
		for k := range 3 {
			list := lists[(i*3+k)%len(lists)]
			for _, times := range []int64{0, 1, 2, 20} {
				d := draws{s}
				want := meansReference(&d, list, times)
				if !slices.ContainsFunc(want, func(x float32) bool { return !isFinite(x) }) {
					end, means, ok := impl.DrawnMeans(s, list, times)
					wantDrawnNumbers(t, fmt.Sprint("DrawnMeans ", s, list, times), d, want, end, means, ok)
					wantSame(t, "they are in ascending order", slices.IsSorted(means), true)
				}
				behind := false
				for _, mean := range want {
					if mean == 0 {
						negative := math.Signbit(float64(mean))
						zeros[negative]++
						behind = behind || !negative
						if behind && negative {
							mixed++
						}
					}
				}
			}
		}
	}
	wantSame(t, "both zeros are drawn, also the one with a sign behind the other one", zeros[true] > 10 && zeros[false] > 10 && mixed > 10, true)
	for _, s := range drawnSeeds(4) {
		for _, list := range [][]float32{{3}, {-1, 1, 0}, {-least, 0, 0, 0, least}, wholes(40)} {
			d := draws{s}
			want := meansReference(&d, list, 256)
			end, means, ok := impl.DrawnMeans(s, list, 256)
			wantDrawnNumbers(t, fmt.Sprint("DrawnMeans 256 times ", s, list), d, want, end, means, ok)
		}
	}
	_, means, _ := impl.DrawnMeans(impl.Seed{Kind: impl.SeedLine, B: 1}, []float32{3}, 2)
	wantNumbers(t, "DrawnMeans of one number", means, []float32{3, 3})
	end, _, _ := impl.DrawnMeans(impl.Seed{Kind: impl.SeedCount}, []float32{3}, 5)
	want, _ := impl.SkipSeed(impl.Seed{Kind: impl.SeedCount}, 5)
	wantSame(t, "the seed after means of one number, which are drawn as well", end, want)
}

func TestDrawnMeansFails(t *testing.T) {
	good := impl.Seed{Kind: impl.SeedCount}
	for _, times := range []int64{-1, 257, 258, 1000, wordsEnd, wordsEnd + 1, math.MinInt64, math.MaxInt64} {
		end, means, ok := impl.DrawnMeans(good, []float32{1, 2}, times)
		wantFailure(t, fmt.Sprint("DrawnMeans ", times), end, means, ok)
	}
	for _, s := range badSeeds() {
		for _, times := range []int64{0, 1, 256} {
			end, means, ok := impl.DrawnMeans(s, []float32{1, 2, 3}, times)
			wantFailure(t, fmt.Sprint("DrawnMeans ", s, times), end, means, ok)
		}
	}
	lists := [][]float32{nil, {}, repeated[float32](1, 41), wholes(41), repeated[float32](1, 256), repeated[float32](0, 1000)}
	for _, odd := range oddFloats() {
		lists = append(lists, []float32{odd}, []float32{odd, 1}, []float32{1, odd}, append(repeated[float32](1, 39), odd), append([]float32{odd}, repeated[float32](1, 39)...))
	}
	for _, list := range lists {
		for _, times := range []int64{0, 1, 100} {
			end, means, ok := impl.DrawnMeans(good, list, times)
			wantFailure(t, fmt.Sprint("DrawnMeans ", list, times), end, means, ok)
		}
	}
	// The sum of both numbers, or of two equal ones, is too great.
	for _, list := range [][]float32{{most, most}, {-most, -most}, {most, most, most}, {most / 2, most, most}} {
		end, means, ok := impl.DrawnMeans(good, list, 0)
		wantDrawnNumbers(t, "DrawnMeans none", draws{good}, []float32{}, end, means, ok)
		for _, times := range []int64{1, 2, 256} {
			d := draws{good}
			can := !slices.ContainsFunc(meansReference(&d, list, times), func(x float32) bool { return !isFinite(x) })
			end, means, ok = impl.DrawnMeans(good, list, times)
			wantSame(t, fmt.Sprint("DrawnMeans ", list, times, " succeeds"), ok, can)
			if !can {
				wantFailure(t, fmt.Sprint("DrawnMeans ", list, times), end, means, ok)
			}
		}
	}
	end, means, ok := impl.DrawnMeans(good, []float32{most, -most}, 256)
	wantFailure(t, "DrawnMeans where some sums are too great", end, means, ok)
	// Only one of many means is too great.
	failed := 0
	for _, s := range drawnSeeds(200) {
		d := draws{s}
		want := meansReference(&d, []float32{most / 3, 0, 0, 0, 0, 0}, 5)
		infinite := 0
		for _, mean := range want {
			if !isFinite(mean) {
				infinite++
			}
		}
		end, means, ok := impl.DrawnMeans(s, []float32{most / 3, 0, 0, 0, 0, 0}, 5)
		if infinite > 0 {
			wantFailure(t, fmt.Sprint("DrawnMeans where a mean is too great ", s), end, means, ok)
			failed++
		} else {
			wantDrawnNumbers(t, fmt.Sprint("DrawnMeans where no mean is too great ", s), d, want, end, means, ok)
		}
	}
	wantSame(t, "some fail, some do not", failed > 0 && failed < 200, true)
}

// bandReference looks for the greatest k step by step.
func bandReference(list []float32, share float32) (float32, float32) {
	product, k := shortTimes(share, float32(len(list))), 0
	for float32(k+1) <= product && 2*(k+1) <= len(list)-1 {
		k++
	}
	return list[k], list[len(list)-1-k]
}

func sharesOfBands() []float32 {
	return []float32{least, leastNormal, 0.001, 0.01, 0.025, 0.05, 0.1, 0.125, 0.15, 0.2, 0.25, 0.3, 1.0 / 3, 0.35, 0.4, 0.45, 0.49, 0.499, 0.5 - 0x1p-25, 0.5, 1.0 / 256, 1.0/256 - 0x1p-32, 0.00390626}
}

func TestBandOf(t *testing.T) {
	for n := 1; n <= 256; n++ {
		list := wholes(n)
		for _, share := range sharesOfBands() {
			wantLow, wantHigh := bandReference(list, share)
			low, high, ok := impl.BandOf(list, share)
			wantNumber(t, fmt.Sprint("the lower end of ", n, share), low, wantLow)
			wantNumber(t, fmt.Sprint("the upper end of ", n, share), high, wantHigh)
			wantSame(t, fmt.Sprint("BandOf succeeds: ", n, share), ok, true)
			wantSame(t, "the ends are in order", low <= high, true)
		}
	}
	for _, c := range []struct {
		list             []float32
		share, low, high float32
	}{
		{[]float32{1, 2, 3, 4}, 0.25, 2, 3}, {[]float32{1, 2, 3, 4}, 0.5, 2, 3}, {[]float32{1, 2, 3, 4}, 0.249, 1, 4}, {[]float32{1, 2, 3}, 0.5, 2, 2}, {[]float32{7}, 0.5, 7, 7}, {[]float32{7}, least, 7, 7}, {[]float32{1, 2}, 0.5, 1, 2}, {[]float32{-most, 0, most}, 0.1, -most, most}, {[]float32{5, 5, 5}, 0.4, 5, 5}, {[]float32{0, minusZero, 0, minusZero}, 0.25, minusZero, 0}, {[]float32{minusZero, 0, minusZero}, 0.1, minusZero, minusZero}, {[]float32{0, minusZero}, 0.3, 0, minusZero}, {[]float32{-1, minusZero, 0, minusZero, 0, 1}, 0.2, minusZero, 0},
		{wholes(256), 0.5, 127, 128}, {wholes(255), 0.5, 127, 127}, {wholes(256), 1.0 / 256, 1, 254}, {wholes(256), 1.0/256 - 0x1p-32, 0, 255},
		// The product of this share and 20 is rounded up to 9, and that of the next lesser one is not.
		{wholes(20), 0.45, 9, 10}, {wholes(20), math.Nextafter32(0.45, 0), 8, 11},
	} {
		low, high, ok := impl.BandOf(c.list, c.share)
		wantNumber(t, fmt.Sprint("the lower end of ", c.list, c.share), low, c.low)
		wantNumber(t, fmt.Sprint("the upper end of ", c.list, c.share), high, c.high)
		wantSame(t, fmt.Sprint("BandOf succeeds: ", c.list, c.share), ok, true)
	}
}

func TestBandOfFails(t *testing.T) {
	for _, share := range append(oddFloats(), 0, minusZero, -least, -0.25, -1, 0.5+0x1p-24, 0.6, 1, 2, most, -most) {
		for _, list := range [][]float32{{1}, {1, 2, 3, 4}, wholes(256)} {
			low, high, ok := impl.BandOf(list, share)
			wantFailure(t, fmt.Sprint("BandOf ", list, share), low, high, ok)
		}
	}
	lists := [][]float32{nil, {}, wholes(257), repeated[float32](0, 300), {2, 1}, {1, 2, 3, 2}, {1, 0, 2, 3}, {0, -least}, {1, 2, 4, 3, 5}, {3, 2, 1}, {most, -most}}
	for _, odd := range oddFloats() {
		lists = append(lists, []float32{odd}, []float32{odd, 1}, []float32{1, odd}, []float32{1, odd, 3}, []float32{1, 2, odd}, append(wholes(255), odd), append([]float32{odd}, wholes(255)...), []float32{odd, odd, odd})
	}
	for _, list := range append(lists, []float32{-inf, inf}, []float32{-inf, 0, inf}) {
		for _, share := range []float32{least, 0.25, 0.5} {
			low, high, ok := impl.BandOf(list, share)
			wantFailure(t, fmt.Sprint("BandOf ", list, share), low, high, ok)
		}
	}
}

func TestShareOfTail(t *testing.T) {
	numbers := []int64{0, 1, 2, 3, 7, 20, 255, 1 << 24, 1<<24 + 1, 1<<24 + 3, 1<<25 - 1, 118264581564861424, 1 << 60, 1<<60 + 1, math.MaxInt64 - 1, math.MaxInt64, 1<<62 + 1<<38, 1<<62 + 1<<38 + 1, 1<<62 - 1}
	for _, part := range numbers {
		for _, all := range numbers {
			got, ok := impl.ShareOfTail(part, all)
			if all < 1 || part > all {
				wantFailure(t, fmt.Sprint("ShareOfTail ", part, all), got, ok)
				continue
			}
			wantTold(t, call{"ShareOfTail ", part, all}, got, ok, shortOver(nearestShort(part), nearestShort(all)))
		}
	}
	for part := int64(0); part <= 30; part++ {
		for all := max(part, 1); all <= 30; all++ {
			got, ok := impl.ShareOfTail(part, all)
			wantTold(t, call{"ShareOfTail ", part, all}, got, ok, float32(part)/float32(all))
		}
	}
	for _, c := range []struct {
		part, all int64
		want      float32
	}{{1, 4, 0.25}, {0, 1, 0}, {1, 1, 1}, {0, math.MaxInt64, 0}, {math.MaxInt64, math.MaxInt64, 1}, {1, math.MaxInt64, 0x1p-63}, {1<<24 + 1, 1 << 25, 0.5}, {1<<24 + 3, 1 << 25, 0.5 + 0x1p-23}, {1, 1<<24 + 1, 0x1p-24}} {
		got, ok := impl.ShareOfTail(c.part, c.all)
		wantTold(t, call{"ShareOfTail ", c.part, c.all}, got, ok, c.want)
	}
	for _, c := range [][2]int64{{0, 0}, {1, 0}, {0, -1}, {-1, -1}, {-1, 1}, {-2, 5}, {2, 1}, {6, 5}, {-5, -3}, {math.MinInt64, 1}, {math.MinInt64, math.MinInt64}, {0, math.MinInt64}, {math.MaxInt64, 1}, {math.MaxInt64, math.MaxInt64 - 1}, {-1, math.MaxInt64}} {
		got, ok := impl.ShareOfTail(c[0], c[1])
		wantFailure(t, fmt.Sprint("ShareOfTail ", c), got, ok)
	}
}

// nearestShort rounds an integer to 24 binary digits, ties to even, without a conversion that rounds.
func nearestShort(n int64) float32 {
	unit := int64(1)
	for n/unit >= 1<<24 {
		unit *= 2
	}
	whole, rest := n/unit, n%unit
	if 2*uint64(rest) > uint64(unit) || 2*uint64(rest) == uint64(unit) && whole%2 == 1 {
		whole++
	}
	return shortTimes(float32(whole), float32(unit))
}
