package tests

import (
	"fmt"
	"slices"
	"testing"

	"loop.example/g00224/impl"
)

func TestLimitsOfTables(t *testing.T) {
	if impl.MaxTable != 120 || impl.TableBlock != 8 || impl.TableHashes != 4 {
		t.Error(impl.MaxTable, impl.TableBlock, impl.TableHashes)
	}
}

// Bytes that were worked out by another program than these tests.
func TestTablesAsBytes(t *testing.T) {
	wantTableBytes(t, "one", []impl.Item{put("a", 1, "x")},
		"\x00\x01\x03\x01ax"+"\x00\x00\x01\x00\x31\x86\x7a\xb5"+
			"\x05\x14\xd5\x9c\xd5"+"\x01a\x01\x00\x0e"+
			"\x20\xb7\xe1\xcc\xaa"+"\x00\x00\x00\x00\x00\x00\x01\x00\x00\x00\x08\x00\x00\x00\x00\x00\x00\x00\x02\x00\x00\x00\x00\x00\x00\x00\x00\x00\x00\x00\x04\x00"+
			"\x0e\x00\x00\x00"+"\x53\x3a\x66\x7a")
	var nine []impl.Item
	for seq := 9; seq > 0; seq-- {
		nine = append(nine, put("k", seq, ""))
	}
	wantTableBytes(t, "two blocks of one key", nine,
		"\x00\x01\x13\x00k\x01\x00\x11\x00\x01\x00\x0f\x00\x01\x00\x0d\x00"+"\x00\x01\x0b\x00k\x01\x00\x09\x00\x01\x00\x07\x00\x01\x00\x05\x00"+"\x00\x00\x11\x00\x02\x00\x3d\xfd\xe3\x06"+
			"\x00\x01\x03\x00k"+"\x00\x00\x01\x00\x37\x9c\xd3\xf8"+
			"\x0a\x3c\xf9\x75\x11"+"\x01k\x02\x00\x2c"+"\x01k\x01\x2c\x0d"+
			"\x20\x26\x73\xa4\xef"+"\x00\x01\x08\x00\x00\x00\x00\x00\x00\x00\x00\x00\x02\x00\x00\x00\x00\x00\x00\x00\x00\x00\x00\x04\x00\x00\x00\x00\x00\x00\x00\x00"+
			"\x39\x00\x00\x00"+"\x2f\x27\x27\x5d")
}

func TestTablesAreAsTheRuleSays(t *testing.T) {
	for name, l := range tableRuns() {
		wantTableBytes(t, name, l, tableByHand(l))
	}
}

// Promise 7, its first half.
func TestRunsComeBackFromTheirTable(t *testing.T) {
	for name, l := range tableRuns() {
		s, ok := impl.TableBytes(l)
		if !ok {
			t.Errorf("%s: TableBytes is refused", name)
		}
		wantTable(t, name, s, l)
	}
}

func TestRunsOfAllLengthsComeBackFromTheirTable(t *testing.T) {
	for n := 1; n <= 120; n++ {
		for name, l := range map[string][]impl.Item{"some": someRun(n, 7*n), "close": closeRun(n, 7*n), "several Seqs": severalSeqs(n)} {
			wantTableBytes(t, fmt.Sprint(name, n), l, tableByHand(l))
			wantTable(t, fmt.Sprint(name, n), tableByHand(l), l)
		}
	}
}

func TestTablesHaveOneToMaxTableItems(t *testing.T) {
	wantNoTableBytes(t, "no items", nil)
	wantNoTableBytes(t, "no items, not nil", []impl.Item{})
	for name, run := range map[string]func(n int) []impl.Item{
		"some":    func(n int) []impl.Item { return someRun(n, 3) },
		"close":   func(n int) []impl.Item { return closeRun(n, 3) },
		"bytes":   byteRun,
		"full":    fullRun,
		"several": severalSeqs,
		"one key": func(n int) []impl.Item { return inOrder(oneKey(n)) },
	} {
		for _, n := range []int{1, 7, 8, 9, 119, 120} {
			what := fmt.Sprint(name, ", ", n, " items")
			wantTableBytes(t, what, run(n), tableByHand(run(n)))
			wantTable(t, what, tableByHand(run(n)), run(n))
		}
		for _, n := range []int{121, 122, 128, 129, 200, 201} {
			what := fmt.Sprint(name, ", ", n, " items")
			wantNoTableBytes(t, what, run(n))
			wantNoTable(t, what, tableByHand(run(n)))
		}
	}
}

func TestTablesOfRunsThatAreNotGood(t *testing.T) {
	for fault, l := range badRuns() {
		wantNoTableBytes(t, fault, l)
	}
}

// What is wrong lies at the end of a block, at the beginning of the next, or in the last one.
func TestTablesOfLongRunsThatAreNotGood(t *testing.T) {
	for _, n := range []int{9, 17, 120} {
		for _, at := range []int{0, 7, 8, n - 1} {
			for fault, x := range badItems() {
				l := byteRun(n)
				l[at] = x
				wantNoTableBytes(t, fmt.Sprint(fault, " at ", at, " of ", n), l)
			}
			if at == 0 {
				continue
			}
			twice, swapped := byteRun(n), byteRun(n)
			twice[at] = twice[at-1]
			swapped[at-1], swapped[at] = swapped[at], swapped[at-1]
			wantNoTableBytes(t, fmt.Sprint("twice at ", at, " of ", n), twice)
			wantNoTableBytes(t, fmt.Sprint("swapped at ", at, " of ", n), swapped)
		}
	}
}

func TestTablesOfItemsAtTheirEdges(t *testing.T) {
	for size := 1; size <= 16; size++ {
		for _, seq := range []int{0, 1, 127, 128, 16383, 16384, greatestSeq - 1, greatestSeq} {
			l := []impl.Item{gone(mixed(size, size), seq)}
			wantTableBytes(t, "deleted", l, tableByHand(l))
			wantTable(t, "deleted", tableByHand(l), l)
			checkGet(t, "deleted", tableByHand(l), l, l[0].Key, greatestSeq)
		}
	}
	for size := range 41 {
		l := []impl.Item{put("k", greatestSeq, mixed(size, size)), put("k", 0, mixed(40-size, size))}
		wantTableBytes(t, "put", l, tableByHand(l))
		wantTable(t, "put", tableByHand(l), l)
		checkGet(t, "put", tableByHand(l), l, "k", 1)
	}
}

func TestTheGreatestTable(t *testing.T) {
	l := fullRun(120)
	s, ok := impl.TableBytes(l)
	// A block has 8 items of 64 bytes, two places, their count and a sum; a place 1, 16, 5, 1 or 2, and 2 bytes.
	want := 15*(8*64+4+2+4) + 2 + 4 + 15*26 - 1 + 1 + 4 + 32 + 8
	if len(s) != want || !ok {
		t.Errorf("%d bytes %v, want %d", len(s), ok, want)
	}
	wantTable(t, "greatest", s, l)
	for i, x := range l {
		wantGet(t, fmt.Sprint("greatest, item ", i), s, x.Key, greatestSeq, x, 1)
	}
}

func TestIndexesByHand(t *testing.T) {
	key := func(i int) string { return string([]byte{byte(i)}) }
	for _, c := range []struct {
		many int
		want []impl.Place
	}{
		{1, []impl.Place{{Last: key(0), At: 0, Size: 13}}},
		{8, []impl.Place{{Last: key(7), At: 0, Size: 50}}},
		{9, []impl.Place{{Last: key(7), At: 0, Size: 50}, {Last: key(8), At: 50, Size: 13}}},
		{16, []impl.Place{{Last: key(7), At: 0, Size: 50}, {Last: key(15), At: 50, Size: 50}}},
		{17, []impl.Place{{Last: key(7), At: 0, Size: 50}, {Last: key(15), At: 50, Size: 50}, {Last: key(16), At: 100, Size: 13}}},
	} {
		s, _ := impl.TableBytes(byteRun(c.many))
		if l, ok := impl.IndexOf(s); !slices.Equal(l, c.want) || !ok {
			t.Errorf("%d items: %s %v, want %s", c.many, shown(l), ok, shown(c.want))
		}
	}
	s, _ := impl.TableBytes(byteRun(120))
	l, ok := impl.IndexOf(s)
	if len(l) != 15 || !ok {
		t.Fatalf("120 items: %d blocks %v", len(l), ok)
	}
	for i, p := range l {
		if want := (impl.Place{Last: key(8*i + 7), At: 50 * i, Size: 50}); p != want {
			t.Errorf("120 items: block %d: %s, want %s", i, shown(p), shown(want))
		}
	}
}

// The Seq of a place is that of the last item, where a key has several.
func TestIndexesTellTheLastItem(t *testing.T) {
	s, _ := impl.TableBytes(severalSeqs(18))
	l, ok := impl.IndexOf(s)
	if len(l) != 3 || !ok {
		t.Fatalf("%s %v", shown(l), ok)
	}
	for i, want := range []impl.Place{{Last: "b", Seq: 80}, {Last: "d", Seq: 100}, {Last: "d", Seq: 80}} {
		if l[i].Last != want.Last || l[i].Seq != want.Seq {
			t.Errorf("block %d: %s, want %s", i, shown(l[i]), shown(want))
		}
	}
}

// What a place tells of a block is the block: cut out by it, it reads.
func TestPlacesOfAnIndexCutOutBlocks(t *testing.T) {
	for name, l := range tableRuns() {
		s, _ := impl.TableBytes(l)
		index, ok := impl.IndexOf(s)
		if !ok || len(index) != (len(l)+7)/8 {
			t.Errorf("%s: %d items, %d blocks", name, len(l), len(index))
			continue
		}
		for i, p := range index {
			items, ok := impl.ReadBlock(s[p.At : p.At+p.Size])
			if want := l[8*i : min(8*i+8, len(l))]; !slices.Equal(items, want) || !ok {
				t.Errorf("%s: block %d: %s %v, want %s", name, i, shown(items), ok, shown(want))
			}
		}
	}
}

func TestFiltersOfTables(t *testing.T) {
	for name, want := range map[string]struct {
		l    []impl.Item
		many int
	}{
		"one":            {byteRun(1), 1},
		"all unlike":     {byteRun(120), 120},
		"one key":        {inOrder(oneKey(120)), 1},
		"five of a key":  {severalSeqs(120), 24},
		"five, the last": {severalSeqs(116), 24},
		"two":            {[]impl.Item{gone("a", 2), put("a", 1, ""), put("b", 0, "")}, 2},
	} {
		s, _ := impl.TableBytes(want.l)
		f, ok := impl.FilterIn(s)
		if f.Many != want.many || f.Hashes != 4 || !ok {
			t.Errorf("%s: %s %v, want %d keys", name, shown(f), ok, want.many)
		}
		for _, x := range want.l {
			wantHas(t, name, f, x.Key, true)
		}
		made, _ := impl.FilterOf(keysByHand(want.l), impl.TableHashes)
		wantFilter(t, name, f, ok, made)
	}
}

func TestRangesOfTables(t *testing.T) {
	for name, c := range map[string]struct {
		l     []impl.Item
		least string
		most  string
	}{
		"one":       {[]impl.Item{put("k", 1, "")}, "k", "k"},
		"one key":   {inOrder(oneKey(20)), "one", "one"},
		"two":       {[]impl.Item{gone("a", 1), gone("b", 1)}, "a", "b"},
		"nine":      {byteRun(9), "\x00", "\x08"},
		"120":       {byteRun(120), "\x00", "\x77"},
		"deleted":   {[]impl.Item{gone(repeated(0, 16), 0), put("m", 1, "v"), gone(repeated(0xff, 16), greatestSeq)}, repeated(0, 16), repeated(0xff, 16)},
		"beginning": {[]impl.Item{put("a", 1, ""), put("ab", 1, "")}, "a", "ab"},
	} {
		s, _ := impl.TableBytes(c.l)
		if a, b, ok := impl.RangeOf(s); a != c.least || b != c.most || !ok {
			t.Errorf("%s: %q %q %v, want %q %q", name, a, b, ok, c.least, c.most)
		}
	}
}

// Two runs that are unlike in one thing have unlike bytes.
func TestUnlikeRunsHaveUnlikeTables(t *testing.T) {
	for name, l := range tableRuns() {
		s, _ := impl.TableBytes(l)
		for i := range l {
			if again, ok := impl.TableBytes(changedAt(l, i)); !ok || again == s {
				t.Errorf("%s: item %d changed: %v, or the same bytes", name, i, ok)
			}
		}
	}
}
