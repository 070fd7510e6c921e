package tests

import (
	"fmt"
	"slices"
	"testing"

	"loop.example/g01339/impl"
)

// goodDesks has valid ones whose parts lie at the ends of what is valid, and drawn ones.
func goodDesks() []impl.Desk {
	full := tableOf(4, 4, append(repeated[int64](4, 15), 0)...)
	list := []impl.Desk{
		newDesk(),
		deskOf(impl.Seed{Kind: impl.SeedShift, A: 1}, square(1, 0, 0, 0), []int64{0}, 0),
		deskOf(impl.Seed{Kind: impl.SeedCount}, full, descending(64), repeated[float32](1, 64)...),
		deskOf(impl.Seed{Kind: impl.SeedPair, B: 1}, tableOf(3, 3, 3, 2, 2, 2, 3, 2, 2, 2, 2), ascending(64), minusZero),
		deskOf(impl.Seed{Kind: impl.SeedPair, A: mostWide}, tableOf(3, 3, 3, 2, 2, 2, 3, 2, 2, 2, 3), descending(20), least, 1, minusZero, 0),
		deskOf(impl.Seed{Kind: impl.SeedLine, A: mostWide, B: mostWide}, square(15, 15, 15, 15), descending(21), append(repeated(minusZero, 63), 0)...),
		deskOf(stubborn, tableOf(2, 3, 2, 0, 0, 0, 1, 1), ascending(20), 0.01, 0.04),
		deskOf(impl.Seed{Kind: impl.SeedShift, A: wideShift, B: 5}, tableOf(3, 2, 1, 2, 3, 4, 5, 5), []int64{1, 0}, 1-0x1p-24, 0.5),
		deskOf(impl.Seed{Kind: impl.SeedCount, A: mostWide, B: 7}, tableOf(2, 4, 1, 0, 0, 0, 0, 1, 0, 0), []int64{1, 2, 0}, 0.75),
	}
	d := drawnBits(171)
	tables, orders, shares := drawnTables(60), drawnOrders(), manyShares()
	for i, s := range append(drawnSeeds(24), oddSeeds()[:16]...) {
		table := tables[int(d.next())%len(tables)]
		if i%3 > 0 {
			table = drawnTable(&d, 2+int64(i)%2, 2+int64(i/2)%2, 1+int64(d.next())%20, i%3)
		}
		list = append(list, deskOf(s, table, orders[int(d.next())%len(orders)], shares[int(d.next())%len(shares)]...))
	}
	return list
}

// badDesks has ones of which one part is not valid.
func badDesks() []impl.Desk {
	good := newDesk()
	list := []impl.Desk{{}, {Seed: good.Seed}, {Order: good.Order, List: good.List}}
	for _, s := range badSeeds() {
		list = append(list, deskOf(s, good.Table, good.Order, good.List...))
	}
	for _, table := range badTables() {
		list = append(list, deskOf(good.Seed, table, good.Order, good.List...))
	}
	for _, order := range badOrders() {
		list = append(list, deskOf(good.Seed, good.Table, order, good.List...))
	}
	lists := [][]float32{nil, {}, repeated[float32](0.5, 65), repeated[float32](0, 256), repeated[float32](0.5, 257)}
	for _, odd := range outside() {
		lists = append(lists, []float32{odd}, []float32{odd, 0.5}, []float32{0.5, odd}, []float32{0, odd, 1}, append(repeated[float32](0.5, 63), odd))
	}
	for _, shares := range lists {
		list = append(list, deskOf(good.Seed, good.Table, good.Order, shares...))
	}
	return list
}

func TestValidDesk(t *testing.T) {
	for _, d := range goodDesks() {
		wantSame(t, fmt.Sprint("a good desk ", d), isDesk(d), true)
		wantSame(t, fmt.Sprint("ValidDesk ", d), impl.ValidDesk(d), true)
	}
	for _, d := range badDesks() {
		wantSame(t, fmt.Sprint("a bad desk ", d), isDesk(d), false)
		wantSame(t, fmt.Sprint("ValidDesk ", d), impl.ValidDesk(d), false)
	}
}

func TestNewDesk(t *testing.T) {
	d := impl.NewDesk()
	wantDesk(t, call{"NewDesk"}, d, newDesk())
	wantSame(t, "a new desk is valid", impl.ValidDesk(d), true)
	wantSame(t, "the seed of a new desk", d.Seed, impl.Seed{Kind: impl.SeedLine, A: 0, B: 1})
	wantSame(t, "new desks are the same", impl.SameDesk(d, impl.NewDesk()), true)
	d.Table.Counts[0], d.Order[0], d.List[0] = 7, 7, 7
	wantDesk(t, call{"NewDesk behind a change of one"}, impl.NewDesk(), newDesk())
}

func TestSameDesk(t *testing.T) {
	list := append(goodDesks(), badDesks()...)
	for i, a := range list {
		for k, b := range list {
			if i%7 == k%7 || i == k+1 || i < 20 && k < 20 {
				wantSame(t, fmt.Sprint("SameDesk ", a, b), impl.SameDesk(a, copyOfDesk(b)), sameDesk(a, b))
			}
		}
		wantSame(t, fmt.Sprint("SameDesk of one with spare memory ", a), impl.SameDesk(a, spareDesk(a)), true)
	}
	wantSame(t, "SameDesk of nothing", impl.SameDesk(impl.Desk{}, impl.Desk{Order: []int64{}, List: []float32{}}), true)
}

// TestSameDeskLooksAtAll changes one number of a desk after the other.
func TestSameDeskLooksAtAll(t *testing.T) {
	base := deskOf(impl.Seed{Kind: 3, A: 4, B: 5}, tableOf(2, 3, 1, 2, 3, 4, 5, 6), []int64{2, 0, 1}, 0, 0.5, nan)
	wantSame(t, "the same not-a-numbers", impl.SameDesk(base, deskOf(base.Seed, base.Table, base.Order, 0, 0.5, fromBits(0xffffffff))), true)
	for i, change := range []func(d *impl.Desk){
		func(d *impl.Desk) { d.Seed.Kind = 2 }, func(d *impl.Desk) { d.Seed.A++ }, func(d *impl.Desk) { d.Seed.B++ },
		func(d *impl.Desk) { d.Table.Rows++ }, func(d *impl.Desk) { d.Table.Columns++ }, func(d *impl.Desk) { d.Table.Counts[0]++ }, func(d *impl.Desk) { d.Table.Counts[5]++ },
		func(d *impl.Desk) { d.Table.Counts = d.Table.Counts[:5] }, func(d *impl.Desk) { d.Table.Counts = append(d.Table.Counts, 0) }, func(d *impl.Desk) { d.Table.Counts = nil },
		func(d *impl.Desk) { d.Order[0] = 3 }, func(d *impl.Desk) { d.Order[2] = 0 }, func(d *impl.Desk) { d.Order = d.Order[:2] }, func(d *impl.Desk) { d.Order = append(d.Order, 3) }, func(d *impl.Desk) { slices.Reverse(d.Order) },
		func(d *impl.Desk) { d.List[0] = minusZero }, func(d *impl.Desk) { d.List[1] = 0.25 }, func(d *impl.Desk) { d.List[2] = inf }, func(d *impl.Desk) { d.List = d.List[:2] }, func(d *impl.Desk) { d.List = append(d.List, 0) }, func(d *impl.Desk) { d.List = nil },
	} {
		other := copyOfDesk(base)
		wantSame(t, "a copy", impl.SameDesk(base, other), true)
		change(&other)
		wantSame(t, fmt.Sprint("SameDesk behind the change ", i), impl.SameDesk(base, other), false)
		wantSame(t, fmt.Sprint("SameDesk of the change and the desk ", i), impl.SameDesk(other, base), false)
	}
}
