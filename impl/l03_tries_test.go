package impl

import "testing"

// These tests are inside the package, as no seed is known with which MaxTries
// tries one after another bring nothing.

// triesWith returns a try that brings something at the given try, and counts the tries.
func triesWith(found int) (func(Seed) (Seed, float32, bool), *int) {
	count := new(int)
	return func(s Seed) (Seed, float32, bool) {
		*count++
		s.A++
		return s, float32(*count), *count == found
	}, count
}

func TestTryUpToTheLastTry(t *testing.T) {
	for found := 1; found <= 64; found++ {
		try, count := triesWith(found)
		end, x, ok := tryUp(Seed{Kind: SeedCount, A: 100, B: 5}, try)
		if want := (Seed{Kind: SeedCount, A: 100 + uint64(found), B: 5}); end != want || x != float32(found) || !ok || *count != found {
			t.Errorf("found at try %d: got %v, %v, %v behind %d tries", found, end, x, ok, *count)
		}
	}
}

func TestTryUpWhereNoTryBringsAnything(t *testing.T) {
	for _, found := range []int{0, 65, 66, 1000} {
		try, count := triesWith(found)
		end, x, ok := tryUp(Seed{Kind: SeedCount, A: 100, B: 5}, try)
		if end != (Seed{}) || x != 0 || ok || *count != 64 {
			t.Errorf("nothing in 64 tries: got %v, %v, %v behind %d tries", end, x, ok, *count)
		}
	}
}
