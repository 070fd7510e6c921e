package tests

import (
	"fmt"
	"math"
	"strings"
	"testing"

	"loop.example/g01339/impl"
)

func oddTexts() []string {
	return []string{"", "none", ",", "0", "-0", "-5", "a", "ring", "3f800000", "7fc00001", "3f80000000000000", "é\xff\x00\n", strings.Repeat("1,", 64), strings.Repeat("3f800000,", 300), strings.Repeat("9", 5000)}
}

func oddIntegers() []int64 {
	return []int64{0, 1, -1, 64, 65002, 65003, impl.MaxValue, -impl.MaxValue, impl.MaxValue + 1, math.MaxUint32, math.MaxUint32 + 1, math.MaxInt64, math.MinInt64}
}

// spare returns a copy of the list with unused capacity, which is filled as well.
func spare[T any](list []T, filler T) []T {
	long := append(append(make([]T, 0, len(list)+4), list...), filler, filler, filler, filler)
	return long[:len(list)]
}

func TestScalarFunctionsReturnEqualResults(t *testing.T) {
	calls := func(x, y float32) string {
		a, b := complex(x, y), complex(y, x)
		tenths, ok := impl.TenthsOf(x)
		return fmt.Sprint(impl.SameNumber(x, y), impl.IsFinite(x), impl.BitsOf(x), impl.NarrowNumber(float64(x)*1.1), impl.IsSubnormal(x), impl.FlushNumber(x),
			impl.SameComplex(a, b), impl.IsFiniteComplex(a), impl.NarrowComplex(complex(float64(x)*1.1, float64(y))), impl.MulComplex(a, b), impl.ScaleComplex(a, x),
			impl.ConjugateOf(a), impl.PowerOf(a), impl.LongOf(a), impl.QuotientOf(a, b), impl.PhasorOf(float64(x)*1.1), impl.AngleOf(a), impl.SineTurns(x), impl.AngleTurns(x, y),
			tenths, ok, impl.RootNumber(x), impl.ExpNumber(x), impl.LogNumber(x))
	}
	for _, x := range oddNumbers() {
		for _, y := range oddNumbers() {
			wantSame(t, "the second call", calls(x, y), calls(x, y))
		}
	}
}

func TestTextFunctionsReturnEqualResults(t *testing.T) {
	calls := func(n int64, s string) string {
		x, one := impl.FromBits(n)
		numbers, two := impl.ReadNumbers(s)
		complexes, three := impl.ReadComplex(s)
		read, four := impl.ReadDecimal(s)
		list, five := impl.ReadList(s)
		check, six := impl.CheckOf(n, s)
		return fmt.Sprint(x, one, numbers, two, complexes, three, impl.IsName(s), impl.Decimal(n), read, four, list, five, check, six)
	}
	for _, n := range oddIntegers() {
		for _, s := range oddTexts() {
			wantSame(t, "the second call", calls(n, s), calls(n, s))
		}
	}
}

func TestListsAreNotChanged(t *testing.T) {
	for _, count := range []int{0, 1, 35, 64, 256, 257} {
		var numbers []float32
		var complexes []complex64
		var integers []int64
		for i := range count {
			odd, all := oddNumbers(), oddIntegers()
			numbers = append(numbers, odd[i%len(odd)])
			complexes = append(complexes, complex(odd[i%len(odd)], odd[i*7%len(odd)]))
			integers = append(integers, all[i%len(all)])
		}
		numbers, complexes, integers = spare(numbers, 7), spare(complexes, 7), spare(integers, 7)
		all := func() string {
			return fmt.Sprint(numbers[:cap(numbers)], complexes[:cap(complexes)], integers[:cap(integers)])
		}
		calls := func() string {
			a, one := impl.SumNumbers(numbers)
			b, two := impl.DotNumbers(numbers, numbers)
			c, three := impl.SumComplex(complexes)
			d, four := impl.DotComplex(complexes, complexes)
			e, five := impl.DotConjugate(complexes, complexes)
			f, six := impl.PowersOf(complexes)
			g, seven := impl.NumbersText(numbers)
			h, eight := impl.ComplexText(complexes)
			i, nine := impl.ListText(integers)
			return fmt.Sprint(a, b, c, d, e, f, g, h, i, one, two, three, four, five, six, seven, eight, nine)
		}
		before := all()
		wantSame(t, "the second call", calls(), calls())
		wantSame(t, "the lists behind all calls", all(), before)
	}
}

func TestReadListsAreNew(t *testing.T) {
	numbers, _ := impl.ReadNumbers("3f800000,40000000")
	complexes, _ := impl.ReadComplex("3f80000040000000")
	integers, _ := impl.ReadList("1,2")
	numbers[0], complexes[0], integers[0] = 5, 5, 5
	again, _ := impl.ReadNumbers("3f800000,40000000")
	wantNumber(t, "ReadNumbers behind a change of its result", again[0], 1)
	other, _ := impl.ReadComplex("3f80000040000000")
	wantComplex(t, "ReadComplex behind a change of its result", other[0], complex(1, 2))
	last, _ := impl.ReadList("1,2")
	wantSame(t, "ReadList behind a change of its result", last[0], 1)
}

func TestLimits(t *testing.T) {
	wantSame(t, "the limits", [4]int{impl.MaxNumbers, impl.MaxValue, impl.MaxItems, impl.CheckSize}, [4]int{256, 1000000000000000, 64, 65003})
}
