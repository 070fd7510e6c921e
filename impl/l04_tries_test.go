package impl

import "testing"

// This test is inside the package, as no seed is known with which 64 pairs one
// after another lie outside the disc.
func TestPointInDiscUpToTheLastPair(t *testing.T) {
	for pair := 1; pair <= 70; pair++ {
		drawn := 0
		// The shares of 0 bring the point -1 - i, those of the given pair 0.5 - 0.25 i.
		share := func() float32 {
			drawn++
			switch drawn {
			case 2*pair - 1:
				return 0.75
			case 2 * pair:
				return 0.375
			}
			return 0
		}
		point, ok := pointInDisc(share)
		if pair <= 64 && (point != 0.5-0.25i || !ok || drawn != 2*pair) {
			t.Errorf("the pair %d lies in the disc: got %v, %v behind %d shares", pair, point, ok, drawn)
		}
		if pair > 64 && (point != 0 || ok || drawn != 128) {
			t.Errorf("no pair lies in the disc: got %v, %v behind %d shares", point, ok, drawn)
		}
	}
}
