package tests

import (
	"fmt"
	"math"
	"slices"
	"strings"
	"testing"

	"loop.example/g01339/impl"
)

// oddBytes are put into texts and lines: some that may stand there, and some that may not.
const oddBytes = "0129afgAFnz,;/-+. \t\n\x00\x80\xff"

// textsNear has all texts in which one byte of a text is missing, is another one, or is there twice, and those with a byte more.
func textsNear(text string) []string {
	list := []string{text, strings.ToUpper(text), text + text}
	for i := range len(text) {
		list = append(list, text[:i]+text[i+1:], text[:i], text[i:])
		for _, b := range []byte(oddBytes) {
			list = append(list, text[:i]+string([]byte{b})+text[i+1:], text[:i]+string([]byte{b})+text[i:])
		}
	}
	for _, b := range []byte(oddBytes) {
		list = append(list, text+string([]byte{b}))
	}
	return list
}

func wantReadSeed(t *testing.T, text string) bool {
	t.Helper()
	want, can := readSeedReference(text)
	if !can {
		want = impl.Seed{}
	}
	s, ok := impl.ReadSeed(text)
	if s != want || ok != can {
		t.Errorf("ReadSeed %.200q: got %v, %v, want %v, %v", text, s, ok, want, can)
	}
	return can
}

func wantReadTable(t *testing.T, text string) bool {
	t.Helper()
	want, can := readTableReference(text)
	if !can {
		want = impl.Table{}
	}
	table, ok := impl.ReadTable(text)
	if table.Rows != want.Rows || table.Columns != want.Columns || !slices.Equal(table.Counts, want.Counts) || ok != can {
		t.Errorf("ReadTable %.200q: got %v, %v, want %v, %v", text, table, ok, want, can)
	}
	return can
}

func wantReadCycles(t *testing.T, text string) bool {
	t.Helper()
	want, can := readCyclesReference(text)
	if !can {
		want = nil
	}
	order, ok := impl.ReadCycles(text)
	if !slices.Equal(order, want) || ok != can {
		t.Errorf("ReadCycles %.200q: got %v, %v, want %v, %v", text, order, ok, want, can)
	}
	return can
}

func TestTextsOfSeeds(t *testing.T) {
	for _, s := range append(oddSeeds(), drawnSeeds(400)...) {
		text, ok := impl.SeedText(s)
		wantSame(t, fmt.Sprint("SeedText ", s), text, seedReference(s))
		wantSame(t, fmt.Sprint("SeedText succeeds: ", s), ok, true)
		back, ok := impl.ReadSeed(text)
		wantSame(t, "ReadSeed "+text, back, s)
		wantSame(t, "ReadSeed succeeds: "+text, ok, true)
	}
	for _, s := range badSeeds() {
		text, ok := impl.SeedText(s)
		wantFailure(t, fmt.Sprint("SeedText ", s), text, ok)
		wantSame(t, fmt.Sprint("there is no seed with the text of ", s), wantReadSeed(t, seedReference(s)), false)
	}
	for _, c := range []struct {
		s    impl.Seed
		text string
	}{
		{impl.Seed{B: 1}, "0;0000000000000000;0000000000000001"}, {impl.Seed{Kind: impl.SeedShift, A: 1}, "1;0000000000000001;0000000000000000"}, {impl.Seed{Kind: impl.SeedCount}, "2;0000000000000000;0000000000000000"}, {impl.Seed{Kind: impl.SeedPair, A: 255, B: 16}, "3;00000000000000ff;0000000000000010"},
		{impl.Seed{Kind: impl.SeedCount, A: mostWide, B: wideShift}, "2;ffffffffffffffff;8000000000000000"}, {impl.Seed{Kind: impl.SeedLine, A: 0x0123456789abcdef, B: 0xfedcba9876543211}, "0;0123456789abcdef;fedcba9876543211"},
	} {
		text, _ := impl.SeedText(c.s)
		wantSame(t, fmt.Sprint("SeedText ", c.s), text, c.text)
		s, _ := impl.ReadSeed(c.text)
		wantSame(t, "ReadSeed "+c.text, s, c.s)
	}
}

func TestTextsThatAreNoSeeds(t *testing.T) {
	read := 0
	for _, s := range []impl.Seed{{B: 1}, {Kind: impl.SeedShift, A: 1}, {Kind: impl.SeedCount, A: 0x0123456789abcdef, B: 0xfedcba9876543211}, {Kind: impl.SeedPair, A: mostWide}} {
		for _, text := range textsNear(seedReference(s)) {
			if wantReadSeed(t, text) {
				read++
			}
		}
	}
	wantSame(t, "some of them are seeds", read > 100, true)
	const zero, one = "0000000000000000", "0000000000000001"
	for _, text := range []string{
		"", ";", ";;", ";;;", "none", "0", "0;" + one, "0;;" + one, ";" + zero + ";" + one, "0;" + zero + ";", "0;" + zero + ";" + one + ";", ";0;" + zero + ";" + one, "0;" + zero + ";" + one + ";" + zero, "0;0;1", "0;1", "0," + zero + "," + one, "0;" + zero + one, "0" + zero + one,
		"4;" + one + ";" + one, "9;" + one + ";" + one, "-1;" + one + ";" + one, "-0;" + one + ";" + one, "00;" + one + ";" + one, "+0;" + one + ";" + one, "01;" + one + ";" + one, "10;" + one + ";" + one, " 0;" + one + ";" + one, "a;" + one + ";" + one, "4294967296;" + one + ";" + one, "18446744073709551616;" + one + ";" + one,
		"0;0" + zero + ";" + one, "0;" + zero + ";0" + one, "0;" + zero[1:] + ";" + one, "0;" + zero + ";" + one[1:], "0;0" + zero + ";" + one[1:], "0;" + zero + ";000000000000000F", "2;ABCDEFABCDEFABCD;" + one, "0;0x00000000000000;" + one, "0;+" + zero[1:] + ";" + one, "0;-" + zero[1:] + ";" + one, "0;0000_0000_0000_0;" + one, "2;1" + zero + ";" + one, "2;" + one + ";1" + zero, "2;ffffffffffffffffff;" + one,
		"0;" + zero + ";" + one + "\n", "\n0;" + zero + ";" + one, "0;" + zero + ";" + one + "\x00", "0; " + zero[1:] + ";" + one, "0;" + zero + ";" + one + " ", "0;" + zero + ";" + zero, "1;" + zero + ";" + one, "3;" + zero + ";" + zero, strings.Repeat("0", 1<<20), strings.Repeat(";", 1<<20), "0;" + strings.Repeat("0", 1<<20) + ";" + one, "0;" + zero + ";" + strings.Repeat("f", 1<<20),
	} {
		wantSame(t, fmt.Sprintf("a text of a seed: %.100q", text), wantReadSeed(t, text), false)
	}
}

func TestTextsOfTables(t *testing.T) {
	for _, table := range goodTables() {
		text, ok := impl.TableText(table)
		wantSame(t, fmt.Sprint("TableText ", table), text, tableReference(table))
		wantSame(t, fmt.Sprint("TableText succeeds: ", table), ok, true)
		wantSame(t, "a text of a table: "+text, wantReadTable(t, text), true)
		back, _ := impl.ReadTable(text)
		wantSame(t, "ReadTable "+text, impl.SameTable(back, table), true)
	}
	for _, table := range badTables() {
		text, ok := impl.TableText(table)
		wantFailure(t, fmt.Sprint("TableText ", table), text, ok)
		wantSame(t, fmt.Sprint("there is no table with the text of ", table), wantReadTable(t, tableReference(table)), false)
	}
	text, _ := impl.TableText(square(3, 0, 0, 3))
	wantSame(t, "TableText", text, "2,2;3,0,0,3")
	text, _ = impl.TableText(tableOf(2, 3, 1, 2, 3, 4, 5, 6))
	wantSame(t, "TableText", text, "2,3;1,2,3,4,5,6")
	table, _ := impl.ReadTable("3,2;10,0,0,0,0,50")
	wantSame(t, "ReadTable", impl.SameTable(table, tableOf(3, 2, 10, 0, 0, 0, 0, 50)), true)
}

func TestTextsThatAreNoTables(t *testing.T) {
	read := 0
	for _, table := range []impl.Table{square(3, 0, 0, 3), tableOf(2, 3, 1, 2, 10, 4, 5, 6), tableOf(4, 4, append(repeated[int64](4, 15), 0)...)} {
		for _, text := range textsNear(tableReference(table)) {
			if wantReadTable(t, text) {
				read++
			}
		}
	}
	wantSame(t, "some of them are tables", read > 20, true)
	for _, text := range []string{
		"", ";", "none", "none;none", "2,2", "2,2;", "2,2;none", ";1,2,3,4", "none;1,2,3,4", "2;1,2", "2;1,2,3,4", "2,2,1;1,2,3,4", "2,2,2;1,2,3,4,5,6,7,8", "2,2;1,2,3", "2,2;1,2,3,4,5", "2,3;1,2,3,4", "3,2;1,2,3,4", "2,2;1,2,3,4;", ";2,2;1,2,3,4", "2,2;1,2;3,4", "2,2,1,2,3,4", "2;2;1,2,3,4", "2/2;1,2,3,4",
		"1,4;1,2,3,4", "4,1;1,2,3,4", "1,1;1", "0,0;none", "5,2;1,1,1,1,1,1,1,1,1,1", "2,5;1,1,1,1,1,1,1,1,1,1", "-2,-2;1,2,3,4", "+2,2;1,2,3,4", "02,2;1,2,3,4", "2,02;1,2,3,4", "2,2;01,2,3,4", "2,2;1,2,3,04", "2,2;+1,2,3,4", "2,2;-0,2,3,4", "2,2;-1,2,3,4", "2,2;0,0,0,0", "2,2;60,1,0,0", "2,2;61,0,0,0", "2,2;61,-1,0,0", "2,2;1000000000000001,0,0,0", "2,2;9223372036854775807,1,1,1", "2,2;18446744073709551617,0,0,0",
		"2, 2;1,2,3,4", "2,2; 1,2,3,4", "2,2;1,2,3,4 ", "2,2;1,2,3,4\n", "2,2;1,2,3,", "2,2;,1,2,3", "2,2;1,,2,3", "2,,2;1,2,3,4", ",2,2;1,2,3,4", "2,2,;1,2,3,4", "a,2;1,2,3,4", "2,2;1,2,3,a", "2,2;1,2,3,4\x00", strings.Repeat("2,", 1<<20), strings.Repeat(";", 1<<20), "2,2;" + strings.Repeat("0,", 1<<20) + "1", "2,2;1,2,3," + strings.Repeat("0", 1<<20), "2,2;" + strings.Repeat("1,", 64) + "1",
	} {
		wantSame(t, fmt.Sprintf("a text of a table: %.100q", text), wantReadTable(t, text), false)
	}
}

func TestTextsOfCycles(t *testing.T) {
	orders := drawnOrders()
	for n := 1; n <= 6; n++ {
		orders = append(orders, ordersOf(n)...)
	}
	for _, order := range orders {
		text, ok := impl.CyclesText(order)
		wantSame(t, fmt.Sprint("CyclesText ", order), text, cycleTexts(cyclesReference(order)))
		wantSame(t, fmt.Sprint("CyclesText succeeds: ", order), ok, true)
		wantSame(t, "a text of cycles: "+text, wantReadCycles(t, text), true)
		back, _ := impl.ReadCycles(text)
		wantList(t, "ReadCycles "+text, back, order)
	}
	for _, list := range badOrders() {
		text, ok := impl.CyclesText(list)
		wantFailure(t, fmt.Sprint("CyclesText ", list), text, ok)
	}
	for _, c := range []struct {
		order []int64
		text  string
	}{
		{[]int64{0}, "0"}, {[]int64{2, 0, 1}, "0,2,1"}, {[]int64{1, 0, 2}, "0,1/2"}, {[]int64{0, 2, 1}, "0/1,2"}, {[]int64{0, 1, 2}, "0/1/2"}, {[]int64{3, 2, 1, 0}, "0,3/1,2"}, {[]int64{1, 2, 0, 4, 3}, "0,1,2/3,4"},
		{ascending(64), strings.ReplaceAll(integersReference(ascending(64)), ",", "/")}, {append(ascending(64)[1:], 0), integersReference(ascending(64))},
	} {
		text, _ := impl.CyclesText(c.order)
		wantSame(t, fmt.Sprint("CyclesText ", c.order), text, c.text)
		order, _ := impl.ReadCycles(c.text)
		wantList(t, "ReadCycles "+c.text, order, c.order)
	}
}

// TestCyclesThatAreToldInAnotherWay tells the cycles of orders with other
// beginnings, and in another order: one of these texts alone is that of CyclesText.
func TestCyclesThatAreToldInAnotherWay(t *testing.T) {
	for n := 1; n <= 5; n++ {
		texts := map[string]bool{}
		for _, order := range ordersOf(n) {
			text, _ := impl.CyclesText(order)
			texts[text] = true
		}
		wantSame(t, fmt.Sprint("each order has its own text: ", n), len(texts), len(ordersOf(n)))
		// All numbers in any order, cut to cycles at any places.
		for _, numbers := range ordersOf(n) {
			for cuts := range 1 << (n - 1) {
				text := fmt.Sprint(numbers[0])
				for i, number := range numbers[1:] {
					text += string(",/"[cuts>>i&1]) + fmt.Sprint(number)
				}
				_, ok := impl.ReadCycles(text)
				wantSame(t, "ReadCycles "+text, ok, texts[text])
				wantReadCycles(t, text)
			}
		}
	}
}

func TestTextsThatAreNoCycles(t *testing.T) {
	read := 0
	for _, order := range [][]int64{{0}, {2, 0, 1}, {0, 1, 2}, {1, 0, 3, 2, 4}, append(ascending(12)[1:], 0), ascending(12)} {
		for _, text := range textsNear(cycleTexts(cyclesReference(order))) {
			if wantReadCycles(t, text) {
				read++
			}
		}
	}
	wantSame(t, "some of them are cycles", read > 10, true)
	long, short := integersReference(ascending(65)), strings.ReplaceAll(integersReference(ascending(65)), ",", "/")
	for _, text := range []string{
		"", "none", "none/0", "0/none", "0/none/1", "/", "//", "0/", "/0", "0//1", ",", "0,", ",0", "0,,1", "0,1/", "0,/1", "0;1", "0 1", "0, 1", "0,1 ", " 0,1", "0,1\n", "0\x00", "1", "1,2", "0,2", "0,0", "0/0", "0,1,1", "0,1/1", "0/2", "-1", "-0", "0,-1", "+0", "00", "0,01", "0/01", "0.0", "a", "0,a", "0/a", "\xff", "1,0", "1/0", "2/0,1", "1,2/0", "0,2,1/", "2,1,0", "1,0,2", "0,2/1/", "0/2,1",
		"0,18446744073709551617", "0,4294967297", "0/4294967297", "1000000000000001", long, short, long + "/65", "0/" + long, strings.Repeat("0/", 100), strings.Repeat("0,", 100), strings.Repeat("/", 1<<20), strings.Repeat(",", 1<<20), strings.Repeat("0/", 1<<20) + "0", strings.Repeat("0", 1<<20), strings.Repeat("none/", 1<<20) + "none",
	} {
		wantSame(t, fmt.Sprintf("a text of cycles: %.100q", text), wantReadCycles(t, text), false)
	}
	// 64 cycles and one more, which is empty, or is there already.
	for _, text := range []string{short[:len(short)-3] + "/none", short[:len(short)-3] + "/0", short[:len(short)-3] + "/", short[:len(short)-3] + "/64", long[:len(long)-3] + ",64", long[:len(long)-3] + "/64"} {
		wantSame(t, "a text of cycles: "+text, wantReadCycles(t, text), false)
	}
	wantSame(t, "a text of 64 cycles", wantReadCycles(t, short[:len(short)-3]), true)
	wantSame(t, "a text of a cycle of 64", wantReadCycles(t, long[:len(long)-3]), true)
}

func TestDrawnTexts(t *testing.T) {
	d := drawnBits(172)
	bytes := []byte("0123456789abcdef,,,;;//n ")
	for range 20000 {
		text := ""
		for range d.next() % 14 {
			text += string(bytes[int(d.next())%len(bytes)])
		}
		wantReadSeed(t, text)
		wantReadTable(t, text)
		wantReadCycles(t, text)
	}
	for _, n := range append(oddIntegers(), math.MaxInt64) {
		text := fmt.Sprint(n)
		wantReadCycles(t, text)
		wantReadTable(t, text+",2;1,2,3,4")
		wantReadTable(t, "2,2;1,2,3,"+text)
		wantReadSeed(t, text+";0000000000000001;0000000000000001")
	}
}
