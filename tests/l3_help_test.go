package tests

import (
	"fmt"
	"slices"
	"testing"

	"loop.example/g00224/impl"
)

// fairWal has terms that stay and that rise, an empty entry and one of all the bytes it may have.
func fairWal() impl.Wal {
	return impl.Wal{First: 5, Before: 2, Entries: []impl.Entry{{Term: 2, Data: "two"}, {Term: 2}, {Term: 4, Data: mixed(100, 1)}, {Term: 4, Data: "last"}}}
}

// longWal has several segments; its indexes and terms go from one byte to two on the way.
func longWal() impl.Wal {
	w := impl.Wal{First: 120, Before: 121}
	for i := range 20 {
		w.Entries = append(w.Entries, impl.Entry{Term: 122 + i - i%2, Data: mixed(i*i*3%101, i)})
	}
	return w
}

// entriesOf makes n entries of a term, of so many bytes each, no two alike where there is a byte.
func entriesOf(n int, term int, size int) []impl.Entry {
	var l []impl.Entry
	for i := range n {
		l = append(l, impl.Entry{Term: term, Data: mixed(size, i)})
	}
	return l
}

// manyWals are good logs of many kinds, the edges among them.
func manyWals() map[string]impl.Wal {
	return map[string]impl.Wal{
		"new":                   {First: 1},
		"new, not nil":          {First: 1, Entries: []impl.Entry{}},
		"first 1 with a before": {First: 1, Before: 7},
		"dropped":               {First: 2, Before: 1},
		"greatest start":        {First: 1000000, Before: 1000000},
		"greatest first":        {First: 1000000, Before: 1, Entries: entriesOf(60, 3, 60)},
		"greatest before":       {First: 9, Before: 1000000, Entries: entriesOf(3, 1000000, 100)},
		"greatest term":         {First: 1, Entries: entriesOf(60, 1000000, 0)},
		"least term":            {First: 1, Entries: entriesOf(60, 1, 20)},
		"one entry":             {First: 1, Entries: []impl.Entry{{Term: 1}}},
		"fair":                  fairWal(),
		"long":                  longWal(),
		"as many segments":      {First: 1, Entries: entriesOf(40, 1, 100)},
	}
}

func sameWal(a impl.Wal, b impl.Wal) bool {
	return a.First == b.First && a.Before == b.Before && slices.Equal(a.Entries, b.Entries)
}

func isZeroWal(w impl.Wal) bool {
	return sameWal(w, impl.Wal{})
}

// roomyWal copies a log into a list with something behind its length; its terms would do there.
func roomyWal(w impl.Wal) impl.Wal {
	return impl.Wal{First: w.First, Before: w.Before, Entries: roomy(w.Entries, impl.Entry{Term: 1000000, Data: "behind"})}
}

func untouchedWal(got impl.Wal, w impl.Wal) bool {
	return sameWal(got, w) && slices.Equal(whole(got.Entries), whole(roomyWal(w).Entries))
}

func shown(x any) string {
	return fmt.Sprintf("%.300s", fmt.Sprintf("%q", fmt.Sprint(x)))
}

// wantWal asks for a log as an answer: all of it, and good.
func wantWal(t *testing.T, what string, got impl.Wal, ok bool, want impl.Wal) {
	t.Helper()
	if !ok || !sameWal(got, want) {
		t.Errorf("%s: %s %v, want %s", what, shown(got), ok, shown(want))
	}
	if ok && !impl.GoodWal(got) {
		t.Errorf("%s: the log is not good", what)
	}
}

func wantNoWal(t *testing.T, what string, got impl.Wal, ok bool) {
	t.Helper()
	if ok || !isZeroWal(got) {
		t.Errorf("%s: %s %v, want nothing", what, shown(got), ok)
	}
}

func wantOpen(t *testing.T, what string, l []string, want impl.Wal, many int) {
	t.Helper()
	got, n, ok := impl.OpenWal(l)
	if n != many {
		t.Errorf("%s: OpenWal took of %d texts, want %d", what, n, many)
	}
	wantWal(t, what+": OpenWal", got, ok, want)
}

func wantNoOpen(t *testing.T, what string, l []string) {
	t.Helper()
	got, n, ok := impl.OpenWal(l)
	if n != 0 {
		t.Errorf("%s: OpenWal took of %d texts, want 0", what, n)
	}
	wantNoWal(t, what+": OpenWal", got, ok)
}

func wantEntry(t *testing.T, s string, index int, e impl.Entry) {
	t.Helper()
	if n, got, ok := impl.ReadEntry(s); n != index || got != e || !ok {
		t.Errorf("ReadEntry(%.40q): %d %.40v %v, want %d %.40v", s, n, got, ok, index, e)
	}
}

func wantNoEntry(t *testing.T, s string) {
	t.Helper()
	if n, got, ok := impl.ReadEntry(s); n != 0 || got != (impl.Entry{}) || ok {
		t.Errorf("ReadEntry(%.40q): %d %.40v %v, want nothing", s, n, got, ok)
	}
}

func numberBytes(t *testing.T, n int) string {
	t.Helper()
	s, ok := impl.VarBytes(n)
	if !ok {
		t.Fatalf("VarBytes(%d) is refused", n)
	}
	return s
}

// longer is a number's bytes in a form of one byte more.
func longer(s string) string {
	out := []byte(s)
	out[len(out)-1] |= 0x80
	return string(append(out, 0))
}

// beginningFrame and entryFrame make by the document's words what segments are made of, whether it is good or not.
func beginningFrame(t *testing.T, index int, before int) string {
	t.Helper()
	return framed(t, "seg"+numberBytes(t, index)+numberBytes(t, before))
}

func entryFrame(t *testing.T, index int, e impl.Entry) string {
	t.Helper()
	return framed(t, numberBytes(t, index)+numberBytes(t, e.Term)+e.Data)
}

func segmentText(t *testing.T, index int, before int, l ...impl.Entry) string {
	t.Helper()
	text := beginningFrame(t, index, before)
	for i, e := range l {
		text += entryFrame(t, index+i, e)
	}
	return text
}

func segmentsOf(t *testing.T, w impl.Wal) []string {
	t.Helper()
	l, ok := impl.SegmentsOf(w)
	if !ok {
		t.Fatalf("SegmentsOf %s is refused", shown(w))
	}
	return l
}

// cutBehind is a log with its first n entries.
func cutBehind(w impl.Wal, n int) impl.Wal {
	return impl.Wal{First: w.First, Before: w.Before, Entries: w.Entries[:n]}
}

// frameEnds tells where each frame of a text that is whole ends.
func frameEnds(t *testing.T, text string) []int {
	t.Helper()
	var ends []int
	at := 0
	for at < len(text) {
		_, n, ok := impl.TakeFrame(text[at:])
		if !ok {
			t.Fatalf("no frame at %d of %.80q", at, text)
		}
		at += n
		ends = append(ends, at)
	}
	return ends
}
