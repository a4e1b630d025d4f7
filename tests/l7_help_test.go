package tests

import (
	"encoding/binary"
	"fmt"
	"slices"
	"strings"
	"testing"

	"loop.example/g00224/impl"
)

// A toldPlace is what a table's index tells of one block, its numbers as bytes, so that each may be told wrong.
type toldPlace struct {
	length string
	last   string
	seq    string
	at     string
	size   string
}

// A toldTable is what a table tells, each frame and the end with right sums whatever they hold.
type toldTable struct {
	blocks []string
	index  []toldPlace
	bits   string
	begins int
}

// longWordByLibrary is a number in four bytes, the lowest first.
func longWordByLibrary(n int) string {
	return string(binary.LittleEndian.AppendUint32(nil, uint32(n)))
}

func frameByLibrary(s string) string {
	return numberByLibrary(len(s)) + sealed(s)[len(s):] + s
}

func (p toldPlace) text() string {
	return p.length + p.last + p.seq + p.at + p.size
}

func (b toldTable) indexText() string {
	var out strings.Builder
	for _, p := range b.index {
		out.WriteString(p.text())
	}
	return out.String()
}

func (b toldTable) text() string {
	return strings.Join(b.blocks, "") + frameByLibrary(b.indexText()) + frameByLibrary(b.bits) + sealed(longWordByLibrary(b.begins))
}

// with is a table of its own memory whose place of a number is another.
func (b toldTable) with(i int, p toldPlace) toldTable {
	b.index = slices.Clone(b.index)
	b.index[i] = p
	return b
}

func toldAt(last impl.Item, at int, size int) toldPlace {
	return toldPlace{
		length: numberByLibrary(len(last.Key)),
		last:   last.Key,
		seq:    numberByLibrary(last.Seq),
		at:     numberByLibrary(at),
		size:   numberByLibrary(size),
	}
}

// keysByHand are the keys of items in order, each once.
func keysByHand(l []impl.Item) []string {
	var keys []string
	for _, x := range l {
		if !slices.Contains(keys, x.Key) {
			keys = append(keys, x.Key)
		}
	}
	return keys
}

// inBlocks makes a table of items that are cut into blocks already, whether the document would cut them so or not.
func inBlocks(blocks ...[]impl.Item) toldTable {
	var b toldTable
	for _, items := range blocks {
		var last impl.Item
		if len(items) > 0 {
			last = items[len(items)-1]
		}
		block := blockByHand(items)
		b.blocks = append(b.blocks, block)
		b.index = append(b.index, toldAt(last, b.begins, len(block)))
		b.begins += len(block)
	}
	b.bits = filterByHand(4, keysByHand(slices.Concat(blocks...))...).Bits
	return b
}

// cutBy cuts items into pieces of so many, the last of what is left.
func cutBy(l []impl.Item, many int) [][]impl.Item {
	var pieces [][]impl.Item
	for ; len(l) > many; l = l[many:] {
		pieces = append(pieces, l[:many])
	}
	return append(pieces, l)
}

// toldTableOf tells items by the document's rule, whether they are a run or not.
func toldTableOf(l []impl.Item) toldTable {
	return inBlocks(cutBy(l, 8)...)
}

func tableByHand(l []impl.Item) string {
	return toldTableOf(l).text()
}

func indexByHand(l []impl.Item) []impl.Place {
	var index []impl.Place
	at := 0
	for _, items := range cutBy(l, 8) {
		last, size := items[len(items)-1], len(blockByHand(items))
		index = append(index, impl.Place{Last: last.Key, Seq: last.Seq, At: at, Size: size})
		at += size
	}
	return index
}

// getByHand looks through a run from its front.
func getByHand(l []impl.Item, key string, seq int) (impl.Item, bool) {
	for _, x := range l {
		if x.Key == key && x.Seq <= seq {
			return x, true
		}
	}
	return impl.Item{}, false
}

func blocksReadByHand(l []impl.Item, key string, seq int) int {
	if !hasByHand(filterByHand(4, keysByHand(l)...), key) || lessByHand(l[len(l)-1], gone(key, seq)) {
		return 0
	}
	return 1
}

// byteRun is n items of keys of one byte that have nothing in common and no value: 5 bytes each.
func byteRun(n int) []impl.Item {
	var l []impl.Item
	for i := range n {
		l = append(l, put(string([]byte{byte(i)}), 0, ""))
	}
	return l
}

// fullRun is n items of as many bytes as an item may have, of which no two keys have anything in common.
func fullRun(n int) []impl.Item {
	var l []impl.Item
	for i := range n {
		l = append(l, put(string([]byte{byte(i)})+mixed(15, i), greatestSeq, mixed(40, i)))
	}
	return l
}

// severalSeqs is n items, several of each key, so that those of some keys lie in two blocks.
func severalSeqs(n int) []impl.Item {
	var l []impl.Item
	for i := range n {
		key, seq := string([]byte{'a' + byte(i/5)}), 100-10*(i%5)
		if i%7 == 3 {
			l = append(l, gone(key, seq))
		} else {
			l = append(l, put(key, seq, numbered(i)))
		}
	}
	return l
}

// tableRuns are runs that a table may have, of many kinds and lengths.
func tableRuns() map[string][]impl.Item {
	l := manyRuns()
	for name, run := range l {
		if len(run) == 0 {
			delete(l, name)
		}
	}
	for _, n := range []int{1, 7, 8, 9, 15, 16, 17, 24, 25, 64, 65, 119, 120} {
		l[fmt.Sprint("bytes ", n)] = byteRun(n)
		l[fmt.Sprint("full ", n)] = fullRun(n)
		l[fmt.Sprint("several Seqs ", n)] = severalSeqs(n)
	}
	for _, n := range []int{41, 47, 48, 49, 63, 80, 81, 112, 113, 119, 120} {
		l[fmt.Sprint("some ", n)] = someRun(n, n)
		l[fmt.Sprint("close ", n)] = closeRun(n, n)
	}
	l["one key 120"] = inOrder(oneKey(120))
	return l
}

// shortTables are those whose tables are told wrong in what follows: of one block, of a full one, of two and of three.
func shortTables() map[string][]impl.Item {
	return map[string][]impl.Item{
		"one":         {put("key", 7, "value")},
		"eight":       closeRun(8, 3),
		"nine":        severalSeqs(9),
		"sixteen":     byteRun(16),
		"seventeen":   inOrder(oneKey(17)),
		"some twenty": someRun(20, 4),
	}
}

func wantTableBytes(t *testing.T, what string, l []impl.Item, want string) {
	t.Helper()
	if s, ok := impl.TableBytes(l); s != want || !ok {
		t.Errorf("%s: TableBytes %s: %.300q %v, want %.300q", what, shown(l), s, ok, want)
	}
}

func wantNoTableBytes(t *testing.T, what string, l []impl.Item) {
	t.Helper()
	if s, ok := impl.TableBytes(l); s != "" || ok {
		t.Errorf("%s: TableBytes %s: %.300q %v, want nothing", what, shown(l), s, ok)
	}
}

// wantTable asks all that is read from a table, but what is got from it, for what its run tells.
func wantTable(t *testing.T, what string, s string, want []impl.Item) {
	t.Helper()
	if l, ok := impl.ReadTable(s); !slices.Equal(l, want) || !ok {
		t.Errorf("%s: ReadTable: %s %v, want %s", what, shown(l), ok, shown(want))
	}
	if l, ok := impl.IndexOf(s); !slices.Equal(l, indexByHand(want)) || !ok {
		t.Errorf("%s: IndexOf: %s %v, want %s", what, shown(l), ok, shown(indexByHand(want)))
	}
	f, ok := impl.FilterIn(s)
	wantFilter(t, what+": FilterIn", f, ok, filterByHand(4, keysByHand(want)...))
	least, most := want[0].Key, want[len(want)-1].Key
	if a, b, ok := impl.RangeOf(s); a != least || b != most || !ok {
		t.Errorf("%s: RangeOf: %q %q %v, want %q %q", what, a, b, ok, least, most)
	}
}

func wantGet(t *testing.T, what string, s string, key string, seq int, want impl.Item, blocks int) {
	t.Helper()
	if x, n, ok := impl.GetFrom(s, key, seq); x != want || n != blocks || !ok {
		t.Errorf("%s: GetFrom %q %d: %s %d %v, want %s %d", what, key, seq, shown(x), n, ok, shown(want), blocks)
	}
}

func wantNoGet(t *testing.T, what string, s string, key string, seq int, blocks int) {
	t.Helper()
	if x, n, ok := impl.GetFrom(s, key, seq); x != (impl.Item{}) || n != blocks || ok {
		t.Errorf("%s: GetFrom %.40q %d: %s %d %v, want nothing and %d", what, key, seq, shown(x), n, ok, blocks)
	}
}

// checkGet asks a table for what a plain look through its run finds.
func checkGet(t *testing.T, what string, s string, l []impl.Item, key string, seq int) {
	t.Helper()
	blocks := blocksReadByHand(l, key, seq)
	if x, ok := getByHand(l, key, seq); ok {
		wantGet(t, what, s, key, seq, x, blocks)
	} else {
		wantNoGet(t, what, s, key, seq, blocks)
	}
}

// wantNoTable asks every function for the answer that other bytes than a table's get.
func wantNoTable(t *testing.T, what string, s string) {
	t.Helper()
	if l, ok := impl.ReadTable(s); len(l) != 0 || ok {
		t.Errorf("%s: ReadTable %.80q: %s %v, want nothing", what, s, shown(l), ok)
	}
	if l, ok := impl.IndexOf(s); len(l) != 0 || ok {
		t.Errorf("%s: IndexOf %.80q: %s %v, want nothing", what, s, shown(l), ok)
	}
	f, ok := impl.FilterIn(s)
	wantNoFilter(t, what+": FilterIn", f, ok)
	if a, b, ok := impl.RangeOf(s); a != "" || b != "" || ok {
		t.Errorf("%s: RangeOf %.80q: %q %q %v, want nothing", what, s, a, b, ok)
	}
	for _, key := range []string{"a", "key"} {
		wantNoGet(t, what, s, key, greatestSeq, 0)
	}
}

// wantTableOrNone takes any text: where it is read at all it is the bytes of that very run.
func wantTableOrNone(t *testing.T, what string, s string) bool {
	t.Helper()
	l, ok := impl.ReadTable(s)
	if !ok {
		wantNoTable(t, what, s)
		return false
	}
	if len(l) < 1 || len(l) > 120 || !isRunByHand(l) || tableByHand(l) != s {
		t.Errorf("%s: ReadTable %.80q: %s, whose bytes these are not", what, s, shown(l))
		return true
	}
	wantTable(t, what, s, l)
	return true
}
