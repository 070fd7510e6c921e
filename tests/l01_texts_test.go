package tests

import (
	"math"
	"slices"
	"strings"
	"testing"

	"loop.example/g01339/impl"
)

func TestNumbersText(t *testing.T) {
	for _, c := range []struct {
		list []float32
		text string
	}{
		{nil, "none"}, {[]float32{1, -2}, "3f800000,c0000000"}, {[]float32{0, minusZero, least}, "00000000,80000000,00000001"},
		{[]float32{inf, -inf, nan}, "7f800000,ff800000,7fc00000"}, {[]float32{fromBits(0xffffffff)}, "7fc00000"},
		{[]float32{fromBits(0x01abcdef)}, "01abcdef"}, {repeated[float32](2, 256), strings.Repeat("40000000,", 255) + "40000000"},
	} {
		text, ok := impl.NumbersText(c.list)
		wantSame(t, "NumbersText", text, c.text)
		wantSame(t, "NumbersText succeeds", ok, true)
		list, ok := impl.ReadNumbers(c.text)
		wantSame(t, "ReadNumbers, as many as written", len(list), len(c.list))
		for i := range list {
			wantNumber(t, "ReadNumbers", list[i], c.list[i])
		}
		wantSame(t, "ReadNumbers succeeds", ok, true)
	}
	text, ok := impl.NumbersText(repeated[float32](2, 257))
	wantSame(t, "NumbersText of 257 numbers", text, "")
	wantSame(t, "NumbersText fails", ok, false)
	for _, x := range drawnNumbers(1000) {
		text, _ := impl.NumbersText([]float32{x})
		list, ok := impl.ReadNumbers(text)
		wantSame(t, "ReadNumbers succeeds", ok && len(list) == 1, true)
		wantNumber(t, "ReadNumbers", list[0], x)
	}
}

func TestReadNumbersFails(t *testing.T) {
	for _, text := range []string{
		"", ",", "None", "none,", "none,3f800000", "3f800000,", ",3f800000", "3f800000,,3f800000", "3f80000", "3f8000000",
		"3F800000", "3f80000g", "3f80000 ", " 3f80000", "+3f80000", "-0000001", "0x3f8000", "3f800000;3f800000", "3f800000, 3f80000",
		// Not-a-numbers that are never written, and signs that are no digits.
		"7f800001", "7fffffff", "ffc00000", "ff800001", "3f80000\x00", "3f80000\xff", "3f8000é", "３f800", "3f800000\n",
		strings.Repeat("40000000,", 256) + "40000000", strings.Repeat(",", 1000),
	} {
		list, ok := impl.ReadNumbers(text)
		wantSame(t, "ReadNumbers fails for "+text, ok, false)
		wantSame(t, "ReadNumbers that fails", len(list), 0)
		complexes, ok := impl.ReadComplex(text)
		wantSame(t, "ReadComplex fails for "+text, ok, false)
		wantSame(t, "ReadComplex that fails", len(complexes), 0)
	}
}

func TestComplexText(t *testing.T) {
	for _, c := range []struct {
		list []complex64
		text string
	}{
		{nil, "none"}, {[]complex64{1, complex(0, -2)}, "3f80000000000000,00000000c0000000"},
		{[]complex64{complex(minusZero, least), complex(nan, -inf)}, "8000000000000001,7fc00000ff800000"},
		{repeated(complex64(complex(2, -2)), 256), strings.Repeat("40000000c0000000,", 255) + "40000000c0000000"},
	} {
		text, ok := impl.ComplexText(c.list)
		wantSame(t, "ComplexText", text, c.text)
		wantSame(t, "ComplexText succeeds", ok, true)
		list, ok := impl.ReadComplex(c.text)
		wantSame(t, "ReadComplex, as many as written", len(list), len(c.list))
		for i := range list {
			wantComplex(t, "ReadComplex", list[i], c.list[i])
		}
		wantSame(t, "ReadComplex succeeds", ok, true)
	}
	text, ok := impl.ComplexText(repeated(complex64(1), 257))
	wantSame(t, "ComplexText of 257 numbers", text, "")
	wantSame(t, "ComplexText fails", ok, false)
}

func TestReadComplexFails(t *testing.T) {
	for _, text := range []string{
		"", "3f800000", "3f80000000000000,", ",3f80000000000000", "3f8000000000000", "3f800000000000000", "3f800000,00000000",
		"3F80000000000000", "3f8000000000000g", "g3f8000000000000", "7f80000100000000", "000000007f800001", "ffc0000000000000", "00000000ffc00000",
		"3f80000000000000,3f800000", "3f80000\xff00000000", "3f8000é00000000", strings.Repeat("40000000c0000000,", 256) + "40000000c0000000",
	} {
		list, ok := impl.ReadComplex(text)
		wantSame(t, "ReadComplex fails for "+text, ok, false)
		wantSame(t, "ReadComplex that fails", len(list), 0)
	}
}

func TestIsName(t *testing.T) {
	for _, s := range []string{"a", "z", "ring", "abcdefgh", "none"} {
		wantSame(t, "IsName "+s, impl.IsName(s), true)
	}
	for _, s := range []string{"", "abcdefghi", "A", "Ring", "a1", "a b", " a", "ab\n", "a-b", "é", "a\xff", "`", "{", "a\x00"} {
		wantSame(t, "IsName "+s, impl.IsName(s), false)
	}
}

func TestDecimal(t *testing.T) {
	for _, c := range []struct {
		n    int64
		text string
		read bool
	}{
		{0, "0", true}, {7, "7", true}, {-4, "-4", true}, {10, "10", true}, {-120, "-120", true},
		{1000000000000000, "1000000000000000", true}, {-1000000000000000, "-1000000000000000", true},
		{1000000000000001, "1000000000000001", false}, {-1000000000000001, "-1000000000000001", false},
		{math.MaxInt64, "9223372036854775807", false}, {math.MinInt64, "-9223372036854775808", false},
	} {
		wantSame(t, "Decimal", impl.Decimal(c.n), c.text)
		n, ok := impl.ReadDecimal(c.text)
		wantSame(t, "ReadDecimal of "+c.text, ok, c.read)
		want := c.n
		if !c.read {
			want = 0
		}
		wantSame(t, "ReadDecimal of "+c.text, n, want)
	}
}

func TestReadDecimalFails(t *testing.T) {
	for _, text := range []string{
		"", "-", "+", "-0", "+1", "01", "-01", "00", "--1", "1-", " 1", "1 ", "1\n", "1,", "1.0", "1e3", "0x10", "1_000", "a", "none",
		"9223372036854775808", "-9223372036854775809", "99999999999999999999999999", "\xff", "1\x00", "１", strings.Repeat("1", 100000),
	} {
		n, ok := impl.ReadDecimal(text)
		wantSame(t, "ReadDecimal fails for "+text, ok, false)
		wantSame(t, "ReadDecimal that fails", n, 0)
	}
}

func TestListText(t *testing.T) {
	for _, c := range []struct {
		list []int64
		text string
	}{
		{nil, "none"}, {[]int64{0}, "0"}, {[]int64{1, -2, 30}, "1,-2,30"},
		{[]int64{impl.MaxValue, -impl.MaxValue}, "1000000000000000,-1000000000000000"},
		{repeated(int64(5), 64), strings.Repeat("5,", 63) + "5"},
	} {
		text, ok := impl.ListText(c.list)
		wantSame(t, "ListText", text, c.text)
		wantSame(t, "ListText succeeds", ok, true)
		list, ok := impl.ReadList(c.text)
		wantSame(t, "ReadList of "+c.text, slices.Equal(list, c.list), true)
		wantSame(t, "ReadList succeeds", ok, true)
	}
	for _, list := range [][]int64{
		{impl.MaxValue + 1}, {1, -impl.MaxValue - 1}, {math.MaxInt64}, {math.MinInt64}, repeated(int64(5), 65),
	} {
		text, ok := impl.ListText(list)
		wantSame(t, "ListText that fails", text, "")
		wantSame(t, "ListText fails", ok, false)
	}
	for _, text := range []string{
		"", ",", "1,", ",1", "1,,2", "1, 2", "1;2", "None", "none,1", "none ", "01", "1,-0", "+1", "1,a",
		"1000000000000001", "1,-1000000000000001", strings.Repeat("5,", 64) + "5", "1\xff",
	} {
		list, ok := impl.ReadList(text)
		wantSame(t, "ReadList fails for "+text, ok, false)
		wantSame(t, "ReadList that fails", len(list), 0)
	}
}

func TestCheckOf(t *testing.T) {
	for _, c := range []struct {
		start int64
		text  string
		want  int64
		ok    bool
	}{
		{0, "", 0, true}, {65002, "", 65002, true}, {0, "a", 264, true}, {1, "a", 1147, true},
		{0, "ab", (883*264 + 98 + 167) % 65003, true}, {65002, "\xff", (883*65002 + 255 + 167) % 65003, true}, {0, "\x00", 167, true},
		{0, "é", (883*(0xc3+167) + 0xa9 + 167) % 65003, true},
		{-1, "a", 0, false}, {65003, "a", 0, false}, {65003, "", 0, false}, {math.MinInt64, "a", 0, false}, {math.MaxInt64, "a", 0, false},
	} {
		check, ok := impl.CheckOf(c.start, c.text)
		wantSame(t, "CheckOf "+c.text, check, c.want)
		wantSame(t, "CheckOf succeeds for "+c.text, ok, c.ok)
	}
	text := strings.Repeat("any text\n\xf0", 5000)
	first, _ := impl.CheckOf(17, text[:12345])
	both, _ := impl.CheckOf(first, text[12345:])
	whole, ok := impl.CheckOf(17, text)
	wantSame(t, "CheckOf a text in two parts", both, whole)
	wantSame(t, "CheckOf a long text succeeds", ok, true)
}
