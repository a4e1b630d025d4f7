package tests

import (
	"fmt"
	"math"
	"slices"
	"testing"

	"loop.example/g00224/impl"
)

func TestLogsThatAreGood(t *testing.T) {
	for name, w := range manyWals() {
		if !impl.GoodWal(w) {
			t.Errorf("%s: not good", name)
		}
	}
}

// badWals are logs with one fault each.
func badWals() map[string]impl.Wal {
	out := map[string]impl.Wal{
		"zero":                              {},
		"first 0, with a before":            {First: 0, Before: 1},
		"61 entries":                        {First: 1, Entries: entriesOf(61, 1, 0)},
		"before 0, first 2":                 {First: 2},
		"before 0, first 2, entries":        {First: 2, Entries: entriesOf(2, 1, 3)},
		"before 0, greatest first":          {First: 1000000},
		"before below 0, first 1":           {First: 1, Before: -1},
		"before 1000001, nothing behind it": {First: 2, Before: 1000001},
		"before above the first entry":      {First: 1, Before: 2, Entries: entriesOf(1, 1, 3)},
	}
	add := func(fault string, change func(w *impl.Wal)) {
		w := fairWal()
		change(&w)
		out[fault] = w
	}
	for _, n := range []int{math.MinInt, -1, 0, 1000001, math.MaxInt} {
		add(fmt.Sprint("first ", n), func(w *impl.Wal) { w.First = n })
	}
	for _, n := range []int{math.MinInt, -1, 0, 3, 1000001, math.MaxInt} {
		add(fmt.Sprint("before ", n), func(w *impl.Wal) { w.Before = n })
	}
	for i := range fairWal().Entries {
		for _, n := range []int{math.MinInt, -1, 0, 1, 1000001, math.MaxInt} {
			add(fmt.Sprint("term ", n, " at ", i), func(w *impl.Wal) { w.Entries[i].Term = n })
		}
		add(fmt.Sprint("101 bytes at ", i), func(w *impl.Wal) { w.Entries[i].Data = sized(101) })
	}
	add("a term below the one ahead, at the last", func(w *impl.Wal) { w.Entries[3].Term = 3 })
	add("a term above the one behind, at the first", func(w *impl.Wal) { w.Entries[0].Term = 3 })
	return out
}

func TestLogsThatAreNotGood(t *testing.T) {
	for fault, w := range badWals() {
		if impl.GoodWal(w) {
			t.Errorf("%s: good", fault)
		}
		got, ok := impl.AppendWal(w, impl.Entry{Term: 1000000, Data: "x"})
		wantNoWal(t, fault+": AppendWal", got, ok)
		for _, index := range []int{math.MinInt, -1, 0, 1, 2, 3, 4, 5, 6, 7, 8, 9, 10, 999999, 1000000, 1000001, math.MaxInt} {
			got, ok = impl.CutWal(w, index)
			wantNoWal(t, fmt.Sprint(fault, ": CutWal ", index), got, ok)
			got, ok = impl.DropWal(w, index)
			wantNoWal(t, fmt.Sprint(fault, ": DropWal ", index), got, ok)
			if e, ok := impl.EntryAt(w, index); ok || e != (impl.Entry{}) {
				t.Errorf("%s: EntryAt %d: %.40v %v", fault, index, e, ok)
			}
		}
		if index, term, ok := impl.LastOf(w); index != 0 || term != 0 || ok {
			t.Errorf("%s: LastOf: %d %d %v", fault, index, term, ok)
		}
		if l, ok := impl.SegmentsOf(w); len(l) != 0 || ok {
			t.Errorf("%s: SegmentsOf: %d texts, %v", fault, len(l), ok)
		}
	}
}

func TestAppendPutsAnEntryBehindAll(t *testing.T) {
	for name, w := range manyWals() {
		grown := impl.Wal{First: w.First, Before: w.Before}
		for i, e := range w.Entries {
			next, ok := impl.AppendWal(grown, e)
			wantWal(t, fmt.Sprint(name, ": AppendWal ", i), next, ok, cutBehind(w, i+1))
			grown = next
		}
	}
}

func TestAppendTakesGoodEntriesAlone(t *testing.T) {
	for _, w := range []impl.Wal{{First: 1}, {First: 1, Before: 1}, {First: 3, Before: 1, Entries: entriesOf(2, 1, 4)}} {
		for _, e := range []impl.Entry{{Term: 1}, {Term: 2, Data: "x"}, {Term: 1000000, Data: mixed(100, 2)}, {Term: 1, Data: sized(99)}} {
			got, ok := impl.AppendWal(w, e)
			want := impl.Wal{First: w.First, Before: w.Before, Entries: append(slices.Clone(w.Entries), e)}
			wantWal(t, shown(e), got, ok, want)
		}
		for _, e := range []impl.Entry{{}, {Data: "x"}, {Term: -1}, {Term: math.MinInt}, {Term: 1000001}, {Term: math.MaxInt}, {Term: 1, Data: sized(101)}, {Term: 1, Data: sized(5000)}} {
			got, ok := impl.AppendWal(w, e)
			wantNoWal(t, shown(e), got, ok)
		}
	}
}

func TestAppendTakesNoTermBelowTheOneAhead(t *testing.T) {
	for _, w := range []impl.Wal{{First: 1, Before: 7}, {First: 9, Before: 7}, {First: 9, Before: 6, Entries: []impl.Entry{{Term: 7}}}, {First: 1, Entries: []impl.Entry{{Term: 1}, {Term: 7, Data: "x"}}}} {
		for term := 1; term <= 9; term++ {
			e := impl.Entry{Term: term, Data: "new"}
			got, ok := impl.AppendWal(w, e)
			if term < 7 {
				wantNoWal(t, fmt.Sprint("term ", term, " behind ", w), got, ok)
				continue
			}
			want := impl.Wal{First: w.First, Before: w.Before, Entries: append(slices.Clone(w.Entries), e)}
			wantWal(t, fmt.Sprint("term ", term, " behind ", w), got, ok, want)
		}
	}
}

func TestAppendHasRoomForMaxLogged(t *testing.T) {
	e := impl.Entry{Term: 5, Data: "new"}
	for _, n := range []int{58, 59} {
		w := impl.Wal{First: 1, Entries: entriesOf(n, 5, 3)}
		got, ok := impl.AppendWal(w, e)
		wantWal(t, fmt.Sprint(n, " entries"), got, ok, impl.Wal{First: 1, Entries: append(entriesOf(n, 5, 3), e)})
	}
	got, ok := impl.AppendWal(impl.Wal{First: 1, Entries: entriesOf(60, 5, 3)}, e)
	wantNoWal(t, "60 entries", got, ok)
}

func TestWhatIsAppendedAndCutAgainLeavesTheLog(t *testing.T) {
	for name, w := range manyWals() {
		last, term, _ := impl.LastOf(w)
		for n := 1; n <= 60-len(w.Entries); n++ {
			grown := w
			for i := range n {
				next, ok := impl.AppendWal(grown, impl.Entry{Term: max(term, 1), Data: mixed(i, n)})
				if !ok {
					t.Fatalf("%s: entry %d of %d is refused", name, i, n)
				}
				grown = next
			}
			got, ok := impl.CutWal(grown, last+1)
			wantWal(t, fmt.Sprint(name, ": ", n, " put and cut"), got, ok, w)
		}
	}
}

func TestCutTakesAllFromAnIndexOn(t *testing.T) {
	for name, w := range manyWals() {
		next := w.First + len(w.Entries)
		for from := w.First; from <= next; from++ {
			got, ok := impl.CutWal(w, from)
			wantWal(t, fmt.Sprint(name, ": CutWal ", from), got, ok, cutBehind(w, from-w.First))
		}
		for _, from := range []int{w.First - 1, next + 1, w.First - 2, next + 2, 0, -1, math.MinInt, math.MaxInt} {
			got, ok := impl.CutWal(w, from)
			wantNoWal(t, fmt.Sprint(name, ": CutWal ", from), got, ok)
		}
	}
}

// termAt is the term of an index from First - 1 on.
func termAt(w impl.Wal, index int) int {
	if index < w.First {
		return w.Before
	}
	return w.Entries[index-w.First].Term
}

func TestDropTakesAllUpToAnIndex(t *testing.T) {
	for name, w := range manyWals() {
		last := w.First + len(w.Entries) - 1
		for upto := w.First - 1; upto <= last; upto++ {
			got, ok := impl.DropWal(w, upto)
			what := fmt.Sprint(name, ": DropWal ", upto)
			if upto >= 1000000 {
				wantNoWal(t, what, got, ok)
				continue
			}
			wantWal(t, what, got, ok, impl.Wal{First: upto + 1, Before: termAt(w, upto), Entries: w.Entries[upto+1-w.First:]})
			wantEntriesAt(t, what, got, w, upto+1, last)
		}
		for _, upto := range []int{w.First - 2, last + 1, w.First - 3, last + 2, -1, math.MinInt, math.MaxInt} {
			got, ok := impl.DropWal(w, upto)
			wantNoWal(t, fmt.Sprint(name, ": DropWal ", upto), got, ok)
		}
	}
}

// wantEntriesAt asks that got has the entries of w at their indexes from..last, and the same last one.
func wantEntriesAt(t *testing.T, what string, got impl.Wal, w impl.Wal, from int, last int) {
	t.Helper()
	for index := from; index <= last; index++ {
		want, _ := impl.EntryAt(w, index)
		if e, ok := impl.EntryAt(got, index); e != want || !ok {
			t.Errorf("%s: at %d: %.40v %v, want %.40v", what, index, e, ok, want)
		}
	}
	if index, term, ok := impl.LastOf(got); index != last || term != termAt(w, last) || !ok {
		t.Errorf("%s: LastOf: %d %d %v", what, index, term, ok)
	}
}

// A log that is dropped may begin at the greatest First, and not beyond it.
func TestDropUpToTheGreatestFirst(t *testing.T) {
	w := impl.Wal{First: 999998, Before: 1, Entries: []impl.Entry{{Term: 2}, {Term: 3}, {Term: 4}, {Term: 5}}}
	got, ok := impl.DropWal(w, 999999)
	wantWal(t, "DropWal 999999", got, ok, impl.Wal{First: 1000000, Before: 3, Entries: w.Entries[2:]})
	for _, upto := range []int{1000000, 1000001} {
		got, ok = impl.DropWal(w, upto)
		wantNoWal(t, fmt.Sprint("DropWal ", upto), got, ok)
	}
	start := impl.Wal{First: 1000000, Before: 1}
	got, ok = impl.DropWal(start, 999999)
	wantWal(t, "DropWal 999999 of no entries", got, ok, start)
	start.Entries = entriesOf(1, 1, 0)
	got, ok = impl.DropWal(start, 1000000)
	wantNoWal(t, "DropWal 1000000 of one entry", got, ok)
}

func TestDropAndCutInEitherOrder(t *testing.T) {
	w := longWal()
	for upto := w.First - 1; upto < w.First+len(w.Entries); upto++ {
		for from := upto + 1; from <= w.First+len(w.Entries); from++ {
			dropped, _ := impl.DropWal(w, upto)
			a, okA := impl.CutWal(dropped, from)
			cut, _ := impl.CutWal(w, from)
			b, okB := impl.DropWal(cut, upto)
			if !okA || !okB || !sameWal(a, b) {
				t.Errorf("dropped up to %d and cut from %d: %s %v, the other way %s %v", upto, from, shown(a), okA, shown(b), okB)
			}
		}
	}
}

func TestEntriesAtTheirIndexes(t *testing.T) {
	for name, w := range manyWals() {
		for i, want := range w.Entries {
			if e, ok := impl.EntryAt(w, w.First+i); e != want || !ok {
				t.Errorf("%s: EntryAt %d: %.40v %v", name, w.First+i, e, ok)
			}
		}
		next := w.First + len(w.Entries)
		for _, index := range []int{w.First - 1, next, w.First - 2, next + 1, 0, -1, math.MinInt, math.MaxInt} {
			if e, ok := impl.EntryAt(w, index); e != (impl.Entry{}) || ok {
				t.Errorf("%s: EntryAt %d: %.40v %v, want nothing", name, index, e, ok)
			}
		}
	}
}

func TestTheLastOfALog(t *testing.T) {
	cases := []struct {
		w           impl.Wal
		index, term int
	}{
		{impl.Wal{First: 1}, 0, 0},
		{impl.Wal{First: 1, Before: 7}, 0, 7},
		{impl.Wal{First: 2, Before: 7}, 1, 7},
		{impl.Wal{First: 1000000, Before: 1000000}, 999999, 1000000},
		{impl.Wal{First: 1, Entries: []impl.Entry{{Term: 3}}}, 1, 3},
		{fairWal(), 8, 4},
		{longWal(), 139, 140},
		{impl.Wal{First: 1000000, Before: 1, Entries: entriesOf(60, 9, 0)}, 1000059, 9},
	}
	for _, c := range cases {
		if index, term, ok := impl.LastOf(c.w); index != c.index || term != c.term || !ok {
			t.Errorf("LastOf %s: %d %d %v, want %d %d", shown(c.w), index, term, ok, c.index, c.term)
		}
	}
}
