package tests

import (
	"fmt"
	"strings"
	"testing"
	"unsafe"

	"loop.example/g01339/impl"
)

// deskCalls has the results of all functions of chapter 8, with arguments that may be any ones.
func deskCalls(a, b impl.Desk, text, script string, lines []string) string {
	results := []any{impl.ValidDesk(a), impl.SameDesk(a, b), impl.NewDesk()}
	told := func(text string, ok bool) { results = append(results, text, ok) }
	desk := func(d impl.Desk, output string, ok bool) { results = append(results, d, output, ok) }
	told(impl.SeedText(a.Seed))
	told(impl.TableText(a.Table))
	told(impl.CyclesText(a.Order))
	s, ok := impl.ReadSeed(text)
	results = append(results, s, ok)
	table, ok := impl.ReadTable(text)
	results = append(results, table, ok)
	order, ok := impl.ReadCycles(text)
	results = append(results, order, ok)
	for _, line := range lines {
		desk(impl.DeskCommand(a, line))
	}
	desk(impl.RunDesk(a, script))
	bad, good, ok := impl.CountOutputs(script)
	results = append(results, bad, good, ok)
	told(impl.JournalOf(lines))
	journal, _ := impl.JournalOf(lines)
	for _, text := range []string{text, journal, script} {
		left, size, ok := impl.RecoverJournal(text)
		after, count, can := impl.RunJournal(a, text)
		results = append(results, left, size, ok, after, count, can)
	}
	return fmt.Sprint(results...)
}

func allOfDesk(d impl.Desk) string {
	return fmt.Sprint(d.Seed, d.Table.Rows, d.Table.Columns, d.Table.Counts[:cap(d.Table.Counts)], d.Order[:cap(d.Order)], d.List[:cap(d.List)])
}

func TestArgumentsOfDesksAreNotChanged(t *testing.T) {
	good, bad, texts := goodDesks(), badDesks(), append(textsForParts(), oddTexts()...)
	d := drawnBits(177)
	for at := range 300 {
		a, b := spareDesk(good[at%len(good)]), spareDesk(good[at*7%len(good)])
		if at%4 == 0 {
			a = spareDesk(bad[at*3%len(bad)])
		}
		lines := spare(drawnScript(&d, at%7), "q")
		script := scriptOf(lines)[at%2*len(scriptOf(lines))/2:]
		all := func() string { return allOfDesk(a) + allOfDesk(b) + fmt.Sprint(lines[:cap(lines)]) }
		calls := func() string { return deskCalls(a, b, texts[at%len(texts)], script, lines) }
		before := all()
		wantSame(t, "the second call", calls(), calls())
		wantSame(t, "the arguments behind all calls", all(), before)
	}
}

// TestNoLineChangesTheDeskBeforeIt carries out each form at a desk with spare memory.
func TestNoLineChangesTheDeskBeforeIt(t *testing.T) {
	d := spareDesk(impl.NewDesk())
	before := allOfDesk(d)
	for _, line := range []string{"seed 2;0000000000000000;0000000000000000", "table 2,2;1,2,3,4", "order 0,1", "list 3f800000", "words 3", "skip 3", "split 3", "below 3", "share", "draw 3", "draw 7", "ring 3", "tree 3", "plain", "holm", "step", "gap", "what", "draw 65"} {
		_, _, _ = impl.DeskCommand(d, line)
		wantSame(t, "the desk before the line "+line, allOfDesk(d), before)
		text, _ := impl.JournalOf([]string{line, "draw 3", line, "plain"})
		_, _, _ = impl.RunDesk(d, line+"\ndraw 3\nplain\n"+line+"\n")
		_, _, _ = impl.RunJournal(d, text)
		wantSame(t, "the desk before the lines "+line, allOfDesk(d), before)
	}
}

func TestDesksReturnEqualResultsAtOnce(t *testing.T) {
	d := impl.NewDesk()
	lines := []string{"draw 5", "words 3", "holm", "seed none", "what", "order"}
	wantEqualAtOnce(t, func() string { return deskCalls(d, d, "0,2,1", scriptOf(lines), lines) })
	wantDesk(t, call{"a desk behind all calls"}, d, newDesk())
}

// TestDesksAreNew changes all lists of desks that are returned, which must change no desk from before, and none from later.
func TestDesksAreNew(t *testing.T) {
	d := impl.NewDesk()
	d.Table.Counts, d.Order, d.List = spare(d.Table.Counts, 7), spare(d.Order, 7), spare(d.List, 7)
	before := allOfDesk(d)
	journal, _ := impl.JournalOf([]string{"gap", "plain", "draw 3"})
	for name, call := range map[string]func() impl.Desk{
		"NewDesk":                       impl.NewDesk,
		"DeskCommand that tells":        func() impl.Desk { after, _, _ := impl.DeskCommand(d, "gap"); return after },
		"DeskCommand that is refused":   func() impl.Desk { after, _, _ := impl.DeskCommand(d, "list none"); return after },
		"DeskCommand of no line":        func() impl.Desk { after, _, _ := impl.DeskCommand(d, ""); return after },
		"DeskCommand that changes":      func() impl.Desk { after, _, _ := impl.DeskCommand(d, "plain"); return after },
		"RunDesk":                       func() impl.Desk { after, _, _ := impl.RunDesk(d, "draw 3\nholm\n"); return after },
		"RunDesk of nothing":            func() impl.Desk { after, _, _ := impl.RunDesk(d, ""); return after },
		"RunJournal":                    func() impl.Desk { after, _, _ := impl.RunJournal(d, journal); return after },
		"RunJournal of nothing":         func() impl.Desk { after, _, _ := impl.RunJournal(d, ""); return after },
		"RunJournal of lines that tell": func() impl.Desk { after, _, _ := impl.RunJournal(d, journal[:8]); return after },
	} {
		after := call()
		want := copyOfDesk(after)
		for _, list := range [][]int64{after.Table.Counts, after.Order} {
			for i := range list[:cap(list)] {
				list[:cap(list)][i] = -5
			}
		}
		for i := range after.List[:cap(after.List)] {
			after.List[:cap(after.List)][i] = -5
		}
		wantSame(t, "the desk before "+name, allOfDesk(d), before)
		wantDesk(t, []any{name, " behind a change of its result"}, call(), want)
	}
}

func TestListsOfDesksAreNew(t *testing.T) {
	wantNewList(t, "ReadCycles", func() []int64 { list, _ := impl.ReadCycles("0,2,1"); return list }, -5)
	wantNewList(t, "ReadTable", func() []int64 { table, _ := impl.ReadTable("2,2;3,0,0,3"); return table.Counts }, -5)
	journal, _ := impl.JournalOf([]string{"gap", "plain"})
	wantNewList(t, "RecoverJournal", func() []string { lines, _, _ := impl.RecoverJournal(journal); return lines }, "x")
}

// TestLinesDoNotKeepTheJournal looks where the bytes of recovered lines are.
func TestLinesDoNotKeepTheJournal(t *testing.T) {
	journal := strings.Clone(journalReference([]string{"words 2", "gap"}))
	lines, _, _ := impl.RecoverJournal(journal)
	for _, line := range lines {
		at := strings.Index(journal, line)
		wantSame(t, "the line is a part of the journal: "+line, unsafe.StringData(line) == unsafe.StringData(journal[at:]), false)
	}
}
