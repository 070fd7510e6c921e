package tests

import (
	"math"
	"math/big"
	"reflect"
	"slices"
	"testing"

	"loop.example/g01339/impl"
)

const (
	mostWord  = 4294967295
	wordsEnd  = 4294967296
	farthest  = 4611686018427387904
	mostWide  = math.MaxUint64
	wideShift = 1 << 63
)

func wantList[T comparable](t *testing.T, what string, got, want []T) {
	t.Helper()
	if !slices.Equal(got, want) {
		t.Errorf("%s: got %v, want %v", what, got, want)
	}
}

// wantFailure takes all results of a call that must fail.
func wantFailure(t *testing.T, what string, results ...any) {
	t.Helper()
	for i, result := range results {
		value := reflect.ValueOf(result)
		empty := value.Kind() == reflect.Slice && value.Len() == 0
		if !empty && !value.IsZero() {
			t.Errorf("%s: result %d is %v, not a zero value", what, i, result)
		}
	}
}

// oddSeeds has valid seeds of all kinds, with the ends of both numbers.
func oddSeeds() []impl.Seed {
	var list []impl.Seed
	numbers := []uint64{0, 1, 2, mostWord, wordsEnd, wordsEnd + 1, wideShift - 1, wideShift, wideShift + 1, mostWide - 1, mostWide, 0x0123456789abcdef, 0xfedcba9876543211}
	for _, a := range numbers {
		for _, b := range numbers {
			for kind := int64(0); kind < 4; kind++ {
				if isSeed(kind, a, b) {
					list = append(list, impl.Seed{Kind: kind, A: a, B: b})
				}
			}
		}
	}
	return list
}

// drawnSeeds has valid seeds of all kinds with any numbers.
func drawnSeeds(count int) []impl.Seed {
	d := drawnBits(2)
	var list []impl.Seed
	for i := range count {
		a := uint64(d.next())<<32 | uint64(d.next())
		b := uint64(d.next())<<32 | uint64(d.next())
		list = append(list, impl.Seed{Kind: int64(i % 4), A: a | 1, B: b | 1})
	}
	return list
}

func isSeed(kind int64, a, b uint64) bool {
	odd, some := b%2 == 1, a != 0
	return []bool{odd, some, true, some || b != 0}[kind]
}

func badSeeds() []impl.Seed {
	return []impl.Seed{
		{}, {Kind: 0, A: 1}, {Kind: 0, A: 7, B: 2}, {Kind: 0, B: mostWide - 1}, {Kind: 0, A: 5, B: wideShift},
		{Kind: 1}, {Kind: 1, B: 1}, {Kind: 1, B: mostWide}, {Kind: 3},
		{Kind: -1, A: 1, B: 1}, {Kind: 4, A: 1, B: 1}, {Kind: 256, A: 1, B: 1}, {Kind: wordsEnd, A: 1, B: 1},
		{Kind: math.MaxInt64, A: 1, B: 1}, {Kind: math.MinInt64, A: 1, B: 1},
	}
}

// lineOfWord returns a seed whose next word is the given one.
func lineOfWord(word int64) impl.Seed {
	return impl.Seed{Kind: impl.SeedLine, B: uint64(word)<<32 | 1}
}

// lineOfWords returns a seed whose next two words are the given ones.
func lineOfWords(first, second int64) impl.Seed {
	one := new(big.Int).Lsh(wide(uint64(first)), 32)
	two := new(big.Int).Lsh(wide(uint64(second)), 32)
	// one is the factor times A, plus B, and two is the factor times one, plus B.
	b := modulo(two.Sub(two, new(big.Int).Mul(wide(lineFactor), one)))
	b |= 1
	two = new(big.Int).Add(new(big.Int).Mul(wide(lineFactor), one), wide(b))
	a := one.Sub(one, wide(b))
	a.Mul(a, new(big.Int).ModInverse(wide(lineFactor), wordModulus()))
	return impl.Seed{Kind: impl.SeedLine, A: modulo(a), B: b}
}

// The references below reckon with integers of any size, modulo 2^64, as the document tells it.

const lineFactor = 6364136223846793005

func wide(x uint64) *big.Int { return new(big.Int).SetUint64(x) }

func wordModulus() *big.Int { return new(big.Int).Lsh(big.NewInt(1), 64) }

func modulo(x *big.Int) uint64 { return new(big.Int).Mod(x, wordModulus()).Uint64() }

func sum(a, b uint64) uint64 { return modulo(new(big.Int).Add(wide(a), wide(b))) }

func product(a, b uint64) uint64 { return modulo(new(big.Int).Mul(wide(a), wide(b))) }

func shifted(x uint64, k uint) uint64 { return modulo(new(big.Int).Lsh(wide(x), k)) }

func shiftedBack(x uint64, k uint) uint64 { return modulo(new(big.Int).Rsh(wide(x), k)) }

func turned(x uint64, k uint) uint64 { return sum(shifted(x, k), shiftedBack(x, 64-k)) }

func joined(a, b uint64) uint64 { return modulo(new(big.Int).Xor(wide(a), wide(b))) }

func mixReference(x uint64) uint64 {
	x = product(joined(x, shiftedBack(x, 30)), 13787848793156543929)
	x = product(joined(x, shiftedBack(x, 27)), 10723151780598845931)
	return joined(x, shiftedBack(x, 31))
}

func nextReference(s impl.Seed) (impl.Seed, int64) {
	a, b := s.A, s.B
	switch s.Kind {
	case impl.SeedLine:
		a = sum(product(lineFactor, a), b)
		return impl.Seed{Kind: s.Kind, A: a, B: b}, int64(shiftedBack(a, 32))
	case impl.SeedShift:
		a = joined(a, shifted(a, 13))
		a = joined(a, shiftedBack(a, 7))
		a = joined(a, shifted(a, 17))
		return impl.Seed{Kind: s.Kind, A: a, B: b}, int64(shiftedBack(product(a, 2685821657736338717), 32))
	case impl.SeedCount:
		a = sum(a, 11400714819323198485)
		return impl.Seed{Kind: s.Kind, A: a, B: b}, int64(shiftedBack(mixReference(sum(a, b)), 32))
	}
	x := joined(a, b)
	next := impl.Seed{Kind: s.Kind, A: joined(joined(turned(a, 24), x), shifted(x, 16)), B: turned(x, 37)}
	return next, int64(shiftedBack(sum(a, b), 32))
}

func splitReference(s impl.Seed, stream uint64) impl.Seed {
	x := sum(mixReference(s.A), mixReference(sum(s.B, sum(stream, 1))))
	split := impl.Seed{Kind: s.Kind, A: x, B: mixReference(sum(x, 1))}
	if x == 0 {
		split.A = 1
	}
	if s.Kind == impl.SeedLine && split.B%2 == 0 {
		split.B++
	}
	return split
}
