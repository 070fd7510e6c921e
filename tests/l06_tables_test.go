package tests

import (
	"fmt"
	"math"
	"math/big"
	"slices"
	"testing"

	"loop.example/g01339/impl"
)

func tableOf(rows, columns int64, counts ...int64) impl.Table {
	return impl.Table{Rows: rows, Columns: columns, Counts: counts}
}

// square is a table of 2 rows and 2 columns.
func square(counts ...int64) impl.Table { return tableOf(2, 2, counts...) }

// isTable reads the rules for tables.
func isTable(t impl.Table) bool {
	if t.Rows < 2 || t.Rows > 4 || t.Columns < 2 || t.Columns > 4 || len(t.Counts) != int(t.Rows)*int(t.Columns) {
		return false
	}
	total := new(big.Int)
	for _, count := range t.Counts {
		if count < 0 {
			return false
		}
		total.Add(total, big.NewInt(count))
	}
	return total.Cmp(big.NewInt(1)) >= 0 && total.Cmp(big.NewInt(60)) <= 0
}

// listsWith has all lists of n counts of at least 0 whose sum is at most most.
func listsWith(n int, most int64) [][]int64 {
	lists := [][]int64{{}}
	for range n {
		var longer [][]int64
		for _, list := range lists {
			for count := range most - total(list) + 1 {
				longer = append(longer, append(slices.Clone(list), count))
			}
		}
		lists = longer
	}
	return lists
}

func total(list []int64) int64 {
	all := int64(0)
	for _, n := range list {
		all += n
	}
	return all
}

// drawnTable has a total, and lets each thing of it fall into any cell, into the first ones more often for a greater lean.
func drawnTable(d *drawnBits, rows, columns, total int64, lean int) impl.Table {
	t := tableOf(rows, columns, make([]int64, rows*columns)...)
	for range total {
		cell := int64(d.next()) % (rows * columns)
		for range lean {
			cell = min(cell, int64(d.next())%(rows*columns))
		}
		t.Counts[cell]++
	}
	return t
}

// drawnTables has tables with all numbers of rows and columns, and totals up to most.
func drawnTables(most int64) []impl.Table {
	d := drawnBits(121)
	var list []impl.Table
	for rows := int64(2); rows <= 4; rows++ {
		for columns := int64(2); columns <= 4; columns++ {
			for total := int64(1); total <= most; total++ {
				for lean := range 3 {
					list = append(list, drawnTable(&d, rows, columns, total, lean))
				}
			}
		}
	}
	return list
}

func badTables() []impl.Table {
	list := []impl.Table{
		{}, {Rows: 2, Columns: 2}, {Counts: []int64{1, 2, 3, 4}}, square(0, 0, 0, 0), square(1, 2, 3), square(1, 2, 3, 4, 5), square(1, 2, 3, 4, 0), square(-1, 1, 1, 1), square(1, 1, 1, -1), square(2, -1, 0, 0), square(0, 0, 0, -1),
		square(61, 0, 0, 0), square(0, 0, 0, 61), square(30, 30, 1, 0), square(15, 15, 15, 16), square(60, 0, 0, 1), square(61, -1, 0, 0), square(62, -1, -1, 0), square(1000, 0, 0, -990),
		square(math.MaxInt64, 0, 0, 0), square(math.MaxInt64, 1, 0, 0), square(math.MaxInt64, math.MaxInt64, 2, 1), square(math.MinInt64, math.MinInt64, 1, 0), square(math.MinInt64, 1, 1, 1), square(math.MaxInt64, math.MinInt64, 2, 0), square(1<<62, 1<<62, 1<<62, 1<<62+1), square(wordsEnd+1, 0, 0, 0), square(1<<63-1, 1<<63-1, 1, 2),
		tableOf(1, 4, 1, 1, 1, 1), tableOf(4, 1, 1, 1, 1, 1), tableOf(1, 1, 1), tableOf(0, 4), tableOf(5, 2, 1, 1, 1, 1, 1, 1, 1, 1, 1, 1), tableOf(2, 5, 1, 1, 1, 1, 1, 1, 1, 1, 1, 1), tableOf(5, 5, repeated[int64](1, 25)...), tableOf(-2, -2, 1, 1, 1, 1), tableOf(-2, 2, 1, 1, 1, 1), tableOf(2, -2, 1, 1, 1, 1),
		tableOf(3, 2, 1, 1, 1, 1), tableOf(2, 3, 1, 1, 1, 1), tableOf(3, 3, repeated[int64](1, 8)...), tableOf(4, 4, repeated[int64](1, 15)...), tableOf(4, 4, repeated[int64](1, 17)...), tableOf(4, 4, repeated[int64](4, 16)...), tableOf(4, 4, make([]int64, 16)...), tableOf(3, 4, append(repeated[int64](5, 11), 6)...),
		tableOf(wordsEnd+2, 2, 1, 1, 1, 1), tableOf(2, wordsEnd+2, 1, 1, 1, 1), tableOf(1<<62+2, 2, 1, 1, 1, 1), tableOf(2, 1<<62+2, 1, 1, 1, 1), tableOf(1<<32, 1<<32), tableOf(1<<31, 1<<33), tableOf(math.MaxInt64, math.MaxInt64, 1), tableOf(math.MinInt64, 2), tableOf(2, math.MinInt64), tableOf(math.MinInt64+2, 2, 1, 1, 1, 1), tableOf(math.MinInt64, math.MinInt64),
	}
	return list
}

func goodTables() []impl.Table {
	return append(drawnTables(60), square(1, 0, 0, 0), square(0, 0, 0, 1), square(60, 0, 0, 0), square(0, 0, 60, 0), square(15, 15, 15, 15), square(3, 0, 0, 3), tableOf(4, 4, append(make([]int64, 15), 60)...), tableOf(4, 4, append(repeated[int64](4, 15), 0)...), tableOf(3, 4, repeated[int64](5, 12)...), tableOf(4, 3, repeated[int64](5, 12)...), tableOf(2, 4, 1, 0, 0, 0, 0, 0, 0, 0))
}

func sumsReference(t impl.Table) ([]int64, []int64) {
	rows, columns := make([]int64, t.Rows), make([]int64, t.Columns)
	for row := range t.Rows {
		for column := range t.Columns {
			count := t.Counts[row*t.Columns+column]
			rows[row] += count
			columns[column] += count
		}
	}
	return rows, columns
}

func TestTables(t *testing.T) {
	for _, table := range goodTables() {
		wantSame(t, fmt.Sprint("a good table ", table), isTable(table), true)
		wantSame(t, fmt.Sprint("ValidTable ", table), impl.ValidTable(table), true)
		wantRows, wantColumns := sumsReference(table)
		rows, ok := impl.RowSums(table)
		wantList(t, fmt.Sprint("RowSums ", table), rows, wantRows)
		wantSame(t, fmt.Sprint("RowSums succeeds: ", table), ok, true)
		columns, ok := impl.ColumnSums(table)
		wantList(t, fmt.Sprint("ColumnSums ", table), columns, wantColumns)
		wantSame(t, fmt.Sprint("ColumnSums succeeds: ", table), ok, true)
	}
	rows, _ := impl.RowSums(tableOf(2, 3, 1, 2, 3, 4, 5, 6))
	wantList(t, "RowSums", rows, []int64{6, 15})
	columns, _ := impl.ColumnSums(tableOf(2, 3, 1, 2, 3, 4, 5, 6))
	wantList(t, "ColumnSums", columns, []int64{5, 7, 9})
}

func TestBadTables(t *testing.T) {
	for _, table := range badTables() {
		what := fmt.Sprint(table)
		wantSame(t, "a bad table "+what, isTable(table), false)
		wantSame(t, "ValidTable "+what, impl.ValidTable(table), false)
		rows, ok := impl.RowSums(table)
		wantFailure(t, "RowSums "+what, rows, ok)
		columns, ok := impl.ColumnSums(table)
		wantFailure(t, "ColumnSums "+what, columns, ok)
		part, all, ok := impl.LessTail(table)
		wantFailure(t, "LessTail "+what, part, all, ok)
		part, all, ok = impl.BothTails(table)
		wantFailure(t, "BothTails "+what, part, all, ok)
		part, all, ok = impl.ExactTail(table)
		wantFailure(t, "ExactTail "+what, part, all, ok)
	}
}

func TestSameTable(t *testing.T) {
	tables := append(badTables(), square(3, 0, 0, 3), square(3, 0, 3, 0), square(0, 3, 3, 0), tableOf(2, 3, 1, 2, 3, 4, 5, 6), tableOf(3, 2, 1, 2, 3, 4, 5, 6), tableOf(2, 3, 1, 2, 3, 4, 5, 7), tableOf(2, 3, 2, 2, 3, 4, 5, 6), square(1, 2, 3, 4), square(2, 2, 3, 4), tableOf(4, 4, ascending(16)...), tableOf(4, 4, ascending(17)...))
	for i, a := range tables {
		for k, b := range tables {
			b.Counts = slices.Clone(b.Counts)
			wantSame(t, fmt.Sprint("SameTable ", a, b), impl.SameTable(a, b), i == k)
		}
	}
	wantSame(t, "SameTable of no counts and of none", impl.SameTable(impl.Table{}, impl.Table{Counts: []int64{}}), true)
	wantSame(t, "SameTable with spare memory", impl.SameTable(square(1, 2, 3, 4), square(spare([]int64{1, 2, 3, 4}, 7)...)), true)
}

func TestChoices(t *testing.T) {
	for n := int64(0); n <= 60; n++ {
		for k := int64(0); k <= n; k++ {
			ways, ok := impl.Choices(n, k)
			wantSame(t, fmt.Sprint("Choices ", n, k), ways, new(big.Int).Binomial(n, k).Int64())
			wantSame(t, fmt.Sprint("Choices succeeds: ", n, k), ok, true)
		}
	}
	for _, c := range [][2]int64{{-1, 0}, {-1, -1}, {0, 1}, {0, -1}, {1, 2}, {5, 6}, {5, -1}, {61, 0}, {61, 61}, {61, 30}, {60, 61}, {60, -1}, {64, 1}, {wordsEnd, 1}, {1, wordsEnd}, {math.MaxInt64, 0}, {math.MaxInt64, math.MaxInt64}, {60, math.MinInt64}, {60, math.MaxInt64}, {math.MinInt64, 0}, {math.MinInt64, math.MinInt64}} {
		ways, ok := impl.Choices(c[0], c[1])
		wantFailure(t, fmt.Sprint("Choices ", c), ways, ok)
	}
	ways, _ := impl.Choices(5, 3)
	wantSame(t, "Choices 5 3", ways, 10)
	ways, _ = impl.Choices(60, 30)
	wantSame(t, "Choices 60 30", ways, 118264581564861424)
}

// sidesOf has the sums of rows and of columns of a list of counts.
func sidesOf(rows, columns int64, counts []int64) string {
	one, other := sumsReference(tableOf(rows, columns, counts...))
	return fmt.Sprint(one, other)
}

// TestAllSmallTables gathers all lists of counts with the same sums, and so
// takes the document by its word: TablesWith tells how many there are, and the
// tails are sums over them.
func TestAllSmallTables(t *testing.T) {
	equal := 0
	for rows := int64(1); rows <= 4; rows++ {
		for columns := int64(1); columns <= 4 && rows*columns <= 12; columns++ {
			most := map[int64]int64{1: 24, 2: 24, 3: 20, 4: 12, 6: 8, 8: 6, 9: 5, 12: 4}[rows*columns]
			with := map[string][][]int64{}
			lists := listsWith(int(rows*columns), most)
			for _, counts := range lists {
				sides := sidesOf(rows, columns, counts)
				with[sides] = append(with[sides], counts)
			}
			told := map[string]bool{}
			for _, counts := range lists {
				sides := sidesOf(rows, columns, counts)
				if !told[sides] {
					told[sides] = true
					one, other := sumsReference(tableOf(rows, columns, counts...))
					ways, ok := impl.TablesWith(one, other)
					wantSame(t, "TablesWith "+sides, ways, int64(len(with[sides])))
					wantSame(t, "TablesWith succeeds: "+sides, ok, true)
				}
				if isTable(tableOf(rows, columns, counts...)) {
					equal += wantTails(t, tableOf(rows, columns, counts...), with[sides])
				}
			}
		}
	}
	wantSame(t, "some have other tables with the same weight", equal > 100, true)
}

// weightReference divides factorials.
func weightReference(t impl.Table) *big.Int {
	weight := big.NewInt(1)
	_, columns := sumsReference(t)
	for _, sum := range columns {
		weight.Mul(weight, new(big.Int).MulRange(1, sum))
	}
	for _, count := range t.Counts {
		weight.Div(weight, new(big.Int).MulRange(1, count))
	}
	return weight
}

// wantTails takes all lists of counts with the same sums, and returns how many others have the same weight.
func wantTails(t *testing.T, table impl.Table, lists [][]int64) int {
	t.Helper()
	all, less, both := new(big.Int), new(big.Int), new(big.Int)
	own, equal := weightReference(table), -1
	for _, counts := range lists {
		weight := weightReference(tableOf(table.Rows, table.Columns, counts...))
		all.Add(all, weight)
		if counts[0] <= table.Counts[0] {
			less.Add(less, weight)
		}
		if weight.Cmp(own) <= 0 {
			both.Add(both, weight)
		}
		if weight.Cmp(own) == 0 {
			equal++
		}
	}
	if !all.IsInt64() {
		t.Fatalf("the weights of %v are too great", table)
	}
	small := table.Rows == 2 && table.Columns == 2
	part, ways, ok := impl.LessTail(table)
	wantTail(t, call{"LessTail ", table}, part, ways, ok, less.Int64(), all.Int64(), small)
	part, ways, ok = impl.BothTails(table)
	wantTail(t, call{"BothTails ", table}, part, ways, ok, both.Int64(), all.Int64(), small)
	part, ways, ok = impl.ExactTail(table)
	wantTail(t, call{"ExactTail ", table}, part, ways, ok, both.Int64(), all.Int64(), table.Rows <= 3 && table.Columns <= 3 && total(table.Counts) <= 20)
	return equal
}

// wantTail takes the numbers that are wanted, and whether there are some.
func wantTail(t *testing.T, what call, part, all int64, ok bool, wantPart, wantAll int64, can bool) {
	t.Helper()
	if !can {
		wantPart, wantAll = 0, 0
	}
	if part != wantPart || all != wantAll || ok != can {
		t.Errorf("%v: got %v of %v, %v, want %v of %v, %v", what, part, all, ok, wantPart, wantAll, can)
	}
}

// squaresWith has all tables of 2 rows and 2 columns with the sums of one.
func squaresWith(t impl.Table) [][]int64 {
	rows, columns := sumsReference(t)
	var lists [][]int64
	for first := range int64(61) {
		counts := []int64{first, rows[0] - first, columns[0] - first, rows[1] - columns[0] + first}
		if slices.Min(counts) >= 0 {
			lists = append(lists, counts)
		}
	}
	return lists
}

func TestSquareTails(t *testing.T) {
	d := drawnBits(122)
	tables := []impl.Table{square(15, 15, 15, 15), square(30, 0, 0, 30), square(0, 30, 30, 0), square(60, 0, 0, 0), square(0, 0, 0, 60), square(20, 0, 40, 0), square(0, 20, 0, 40), square(20, 40, 0, 0), square(0, 0, 20, 40), square(1, 29, 29, 1), square(10, 20, 20, 10), square(5, 4, 6, 5), square(10, 5, 5, 0), square(10, 5, 5, 1)}
	for total := int64(1); total <= 60; total++ {
		for lean := range 3 {
			tables = append(tables, drawnTable(&d, 2, 2, total, lean))
			tables = append(tables, square(squaresWith(tables[len(tables)-1])[0]...))
		}
	}
	for _, table := range tables {
		wantTails(t, table, squaresWith(table))
	}
	for _, c := range []struct {
		t                 impl.Table
		less, both, wants int64
	}{
		{square(3, 0, 0, 3), 20, 2, 20}, {square(0, 3, 3, 0), 1, 2, 20}, {square(2, 1, 1, 2), 19, 20, 20}, {square(1, 2, 2, 1), 10, 20, 20}, {square(1, 0, 0, 0), 1, 1, 1}, {square(0, 1, 0, 0), 1, 1, 1}, {square(4, 2, 0, 0), 1, 1, 1}, {square(4, 0, 2, 0), 15, 15, 15}, {square(3, 1, 1, 3), 69, 34, 70}, {square(1, 1, 1, 0), 2, 3, 3}, {square(2, 0, 0, 1), 3, 1, 3}, {square(0, 1, 1, 1), 2, 3, 3},
	} {
		part, all, ok := impl.LessTail(c.t)
		wantTail(t, call{"LessTail ", c.t}, part, all, ok, c.less, c.wants, true)
		part, all, ok = impl.BothTails(c.t)
		wantTail(t, call{"BothTails ", c.t}, part, all, ok, c.both, c.wants, true)
	}
}

// greaterWith has all tables of at most 3 rows and 3 columns with the sums of one.
func greaterWith(t impl.Table) [][]int64 {
	rows, columns := sumsReference(t)
	lists := [][]int64{{}}
	for i := range t.Counts {
		row, column := int64(i)/t.Columns, int64(i)%t.Columns
		var longer [][]int64
		for _, list := range lists {
			// What is left of the row, and of the column, that this count is in.
			ofRow, ofColumn := rows[row], columns[column]
			for k, count := range list {
				if int64(k)/t.Columns == row {
					ofRow -= count
				}
				if int64(k)%t.Columns == column {
					ofColumn -= count
				}
			}
			for count := range min(ofRow, ofColumn) + 1 {
				if (column < t.Columns-1 || count == ofRow) && (row < t.Rows-1 || count == ofColumn) {
					longer = append(longer, append(slices.Clone(list), count))
				}
			}
		}
		lists = longer
	}
	return lists
}

func TestExactTail(t *testing.T) {
	tables := []impl.Table{tableOf(3, 3, 3, 2, 2, 2, 3, 2, 2, 2, 2), tableOf(3, 3, 7, 0, 0, 0, 7, 0, 0, 0, 6), tableOf(3, 3, 0, 0, 20, 0, 0, 0, 0, 0, 0), tableOf(3, 3, 5, 0, 0, 0, 5, 0, 10, 0, 0), tableOf(2, 3, 4, 3, 3, 3, 3, 4), tableOf(3, 2, 4, 3, 3, 3, 3, 4), tableOf(3, 3, 1, 0, 0, 0, 0, 0, 0, 0, 0)}
	for _, table := range drawnTables(22) {
		if table.Rows <= 3 && table.Columns <= 3 && (total(table.Counts)%3 > 0 || total(table.Counts) == 21) {
			tables = append(tables, table)
		}
	}
	for _, table := range tables {
		wantTails(t, table, greaterWith(table))
	}
	for _, table := range drawnTables(60) {
		if table.Rows == 4 || table.Columns == 4 || total(table.Counts) > 20 {
			part, all, ok := impl.ExactTail(table)
			wantFailure(t, fmt.Sprint("ExactTail ", table), part, all, ok)
		}
		if table.Rows > 2 || table.Columns > 2 {
			part, all, ok := impl.LessTail(table)
			wantFailure(t, fmt.Sprint("LessTail ", table), part, all, ok)
			part, all, ok = impl.BothTails(table)
			wantFailure(t, fmt.Sprint("BothTails ", table), part, all, ok)
		}
	}
	for _, c := range []struct {
		t         impl.Table
		part, all int64
		can       bool
	}{
		{square(3, 0, 0, 3), 2, 20, true}, {square(10, 0, 0, 10), 2, 184756, true}, {square(10, 0, 0, 11), 0, 0, false}, {tableOf(3, 3, 1, 0, 0, 0, 1, 0, 0, 0, 1), 6, 6, true}, {tableOf(3, 3, 2, 0, 0, 0, 2, 0, 0, 0, 2), 6, 90, true}, {tableOf(2, 3, 2, 0, 0, 0, 1, 1), 2, 6, true},
		{tableOf(3, 3, 7, 0, 0, 0, 7, 0, 0, 0, 6), 2, 133024320, true}, {tableOf(3, 3, 7, 0, 0, 0, 7, 0, 0, 0, 7), 0, 0, false}, {tableOf(2, 4, 1, 0, 0, 0, 0, 1, 0, 0), 0, 0, false}, {tableOf(4, 2, 1, 0, 0, 0, 0, 1, 0, 0), 0, 0, false}, {tableOf(4, 4, append(make([]int64, 15), 1)...), 0, 0, false}, {tableOf(3, 4, append(make([]int64, 11), 1)...), 0, 0, false},
	} {
		part, all, ok := impl.ExactTail(c.t)
		wantTail(t, call{"ExactTail ", c.t}, part, all, ok, c.part, c.all, c.can)
	}
}

// TestTailsOfTurnedTables looks at promise 7 in another way: all weights add up
// to the orders of all things, divided by those of each row, and a table on its
// side has the same share of all.
func TestTailsOfTurnedTables(t *testing.T) {
	for _, table := range drawnTables(20) {
		if table.Rows > 3 || table.Columns > 3 {
			continue
		}
		side := tableOf(table.Columns, table.Rows)
		for column := range table.Columns {
			for row := range table.Rows {
				side.Counts = append(side.Counts, table.Counts[row*table.Columns+column])
			}
		}
		rows, _ := sumsReference(table)
		orders := new(big.Int).MulRange(1, total(rows))
		for _, sum := range rows {
			orders.Div(orders, new(big.Int).MulRange(1, sum))
		}
		part, all, _ := impl.ExactTail(table)
		wantSame(t, fmt.Sprint("all weights with the sums of ", table), all, orders.Int64())
		sidePart, sideAll, _ := impl.ExactTail(side)
		wantSame(t, fmt.Sprint("the share of the tail, and on its side: ", table), big.NewRat(part, all).Cmp(big.NewRat(sidePart, sideAll)), 0)
		wantSame(t, fmt.Sprint("the tail has the table, and no more than all: ", table), part >= 1 && part <= all, true)
	}
}

// tablesReference goes row by row, and counts by what has been taken of the first two columns.
func tablesReference(rows, columns []int64) int64 {
	if total(rows) != total(columns) {
		return 0
	}
	if len(columns) > 3 {
		rows, columns = columns, rows
	}
	columns = append(slices.Clone(columns), 0, 0)[:3]
	type taken struct{ first, second int64 }
	ways, used := map[taken]int64{{}: 1}, int64(0)
	for _, sum := range rows {
		next := map[taken]int64{}
		used += sum
		for at, count := range ways {
			for first := range sum + 1 {
				for second := range sum - first + 1 {
					to := taken{at.first + first, at.second + second}
					if to.first <= columns[0] && to.second <= columns[1] && used-to.first-to.second <= columns[2] {
						next[to] += count
					}
				}
			}
		}
		ways = next
	}
	return ways[taken{columns[0], columns[1]}]
}

func TestTablesWith(t *testing.T) {
	d := drawnBits(123)
	none, some := 0, 0
	for rows := 1; rows <= 4; rows++ {
		for columns := 1; columns <= 4 && rows*columns <= 12; columns++ {
			for range 60 {
				one, other := make([]int64, rows), make([]int64, columns)
				for i := range one {
					one[i] = int64(d.next() % 25)
				}
				for range total(one) {
					if k := d.next() % uint32(columns); other[k] < 24 {
						other[k]++
					}
				}
				want := tablesReference(one, other)
				if want == 0 {
					none++
				} else {
					some++
				}
				ways, ok := impl.TablesWith(one, other)
				wantSame(t, fmt.Sprint("TablesWith ", one, other), ways, want)
				wantSame(t, fmt.Sprint("TablesWith succeeds: ", one, other), ok, true)
				ways, _ = impl.TablesWith(other, one)
				wantSame(t, fmt.Sprint("TablesWith ", other, one), ways, want)
			}
		}
	}
	wantSame(t, "some sums have tables, some have not", some > 100 && none > 10, true)
}

func TestTablesWithKnownSums(t *testing.T) {
	choices := func(n, k int64) int64 { return new(big.Int).Binomial(n, k).Int64() }
	for r := int64(0); r <= 24; r++ {
		all := []int64{r, r, r}
		ways, _ := impl.TablesWith(all[:2], all[:2])
		wantSame(t, fmt.Sprint("two rows of ", r), ways, r+1)
		ways, _ = impl.TablesWith(all, all)
		wantSame(t, fmt.Sprint("three rows of ", r), ways, choices(r+2, 4)+choices(r+3, 4)+choices(r+4, 4))
		ways, _ = impl.TablesWith(all[:1], all[:1])
		wantSame(t, fmt.Sprint("one row of ", r), ways, 1)
	}
	for _, c := range []struct {
		rows, columns []int64
		want          int64
	}{
		{[]int64{1, 1}, []int64{1, 1}, 2}, {[]int64{1, 1}, []int64{1, 2}, 0}, {[]int64{1, 2}, []int64{1, 1}, 0}, {[]int64{0}, []int64{0}, 1}, {[]int64{0}, []int64{1}, 0}, {[]int64{1}, []int64{0}, 0}, {[]int64{0, 0, 0, 0}, []int64{0, 0, 0}, 1}, {[]int64{0, 0, 0}, []int64{0, 0, 0, 0}, 1}, {[]int64{24}, []int64{24}, 1}, {[]int64{24}, []int64{6, 6, 6, 6}, 1}, {[]int64{6, 6, 6, 6}, []int64{24}, 1}, {[]int64{24}, []int64{6, 6, 6, 5}, 0},
		{[]int64{24, 24}, []int64{24, 24}, 25}, {[]int64{24, 0}, []int64{0, 24}, 1}, {[]int64{24, 24, 24, 24}, []int64{24, 24, 24}, 0}, {[]int64{24, 24, 24}, []int64{24, 24, 24, 24}, 0}, {[]int64{24, 24, 24, 0}, []int64{24, 24, 24}, choices(26, 4) + choices(27, 4) + choices(28, 4)}, {[]int64{24, 24, 24}, []int64{0, 24, 24, 24}, choices(26, 4) + choices(27, 4) + choices(28, 4)}, {[]int64{1, 1, 1}, []int64{1, 1, 1}, 6}, {[]int64{1, 0, 1, 1}, []int64{1, 2}, 3}, {[]int64{2, 1}, []int64{1, 1, 1}, 3},
	} {
		ways, ok := impl.TablesWith(c.rows, c.columns)
		wantSame(t, fmt.Sprint("TablesWith ", c.rows, c.columns), ways, c.want)
		wantSame(t, fmt.Sprint("TablesWith succeeds: ", c.rows, c.columns), ok, true)
	}
	ways, _ := impl.TablesWith([]int64{18, 18, 18, 18}, []int64{24, 24, 24})
	wantSame(t, "TablesWith the most sums", ways, tablesReference([]int64{18, 18, 18, 18}, []int64{24, 24, 24}))
}

func TestTablesWithFails(t *testing.T) {
	good := []int64{1, 1}
	for _, bad := range [][]int64{nil, {}, {1, 1, 0, 0, 0}, {2, 0, 0, 0, 0, 0}, repeated[int64](0, 100), {-1, 3}, {3, -1}, {25, 0}, {0, 25}, {1, 25}, {-1}, {25}, {-24, 26}, {wordsEnd + 1, 1}, {math.MaxInt64, 1}, {math.MinInt64, 1}, {math.MaxInt64, math.MaxInt64, 2, 2}, {1, 1, -1, 1}} {
		for _, other := range [][]int64{good, {2}, {1, 0, 1}, {25, 1}, bad} {
			ways, ok := impl.TablesWith(bad, other)
			wantFailure(t, fmt.Sprint("TablesWith ", bad, other), ways, ok)
			ways, ok = impl.TablesWith(other, bad)
			wantFailure(t, fmt.Sprint("TablesWith ", other, bad), ways, ok)
		}
	}
	for _, n := range []int64{0, 1, 24} {
		ways, ok := impl.TablesWith(repeated(n, 4), repeated(n, 4))
		wantFailure(t, fmt.Sprint("TablesWith 4 rows and 4 columns of ", n), ways, ok)
	}
}
