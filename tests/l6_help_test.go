package tests

import (
	"encoding/binary"
	"fmt"
	"slices"
	"strings"
	"testing"

	"loop.example/g00224/impl"
)

// A toldItem is what a block tells of one item, its numbers as bytes, so that each may be told wrong.
type toldItem struct {
	common string
	more   string
	mark   string
	size   string
	rest   string
	value  string
}

type toldBlock struct {
	items  []toldItem
	places []int
	count  int
}

func numberByLibrary(n int) string {
	return string(binary.AppendUvarint(nil, uint64(n)))
}

func wordByLibrary(n int) string {
	return string(binary.LittleEndian.AppendUint16(nil, uint16(n)))
}

// sealed puts a right sum behind a text, whatever it is.
func sealed(s string) string {
	return s + string(binary.LittleEndian.AppendUint32(nil, sumByLibrary(s)))
}

func (x toldItem) text() string {
	return x.common + x.more + x.mark + x.size + x.rest + x.value
}

func (b toldBlock) text() string {
	var out strings.Builder
	for _, x := range b.items {
		out.WriteString(x.text())
	}
	for _, place := range b.places {
		out.WriteString(wordByLibrary(place))
	}
	return sealed(out.String() + wordByLibrary(b.count))
}

// placed is a block with the places that its items ask for.
func (b toldBlock) placed() toldBlock {
	out := toldBlock{items: b.items}
	at := 0
	for i, x := range b.items {
		if i%4 == 0 {
			out.places = append(out.places, at)
		}
		at += len(x.text())
	}
	out.count = len(out.places)
	return out
}

// with is a block of its own memory whose item at a place is another.
func (b toldBlock) with(i int, x toldItem) toldBlock {
	items := slices.Clone(b.items)
	items[i] = x
	return toldBlock{items: items, places: slices.Clone(b.places), count: b.count}
}

func commonByHand(a string, b string) int {
	n := 0
	for n < len(a) && strings.HasPrefix(b, a[:n+1]) {
		n++
	}
	return n
}

func toldAs(x impl.Item, common int) toldItem {
	return toldItem{
		common: numberByLibrary(common),
		more:   numberByLibrary(len(x.Key) - common),
		mark:   numberByLibrary(x.Seq*2 + x.Kind),
		size:   numberByLibrary(len(x.Value)),
		rest:   x.Key[common:],
		value:  x.Value,
	}
}

// toldOf tells items by the document's rule, whether they are a run or not.
func toldOf(l []impl.Item) toldBlock {
	var b toldBlock
	for i, x := range l {
		common := 0
		if i%4 != 0 {
			common = commonByHand(l[i-1].Key, x.Key)
		}
		b.items = append(b.items, toldAs(x, common))
	}
	return b.placed()
}

func blockByHand(l []impl.Item) string {
	return toldOf(l).text()
}

// someRun is n items in order, of keys of all sizes.
func someRun(n int, seed int) []impl.Item {
	return inOrder(someItems(n, seed))
}

// closeRun is n items in order, of keys that have much in common.
func closeRun(n int, seed int) []impl.Item {
	var l []impl.Item
	for i := range n {
		key := []byte(mixed(1+(i*11+seed)%16, seed+i/2))
		for j := range key {
			key[j] = 'a' + key[j]%13/12
		}
		l = append(l, put(string(key), i*977+seed, mixed(i%5, i)))
	}
	return inOrder(l)
}

// nestedRun is n items of which each key is the beginning of the next.
func nestedRun(n int) []impl.Item {
	var l []impl.Item
	for i := range n {
		l = append(l, put(sized(1+i), i, sized(i)))
	}
	return l
}

// evenRun is n items of keys of one byte that have nothing in common, each of them of 5 bytes and its value.
func evenRun(n int, value string) []impl.Item {
	var l []impl.Item
	for i := range n {
		l = append(l, put(string(rune('0'+i)), 0, value))
	}
	return l
}

// greatRun is n items of as many bytes as an item may have.
func greatRun(n int) []impl.Item {
	var l []impl.Item
	for i := range n {
		l = append(l, put(numbered(i)+mixed(13, i), greatestSeq, mixed(40, i)))
	}
	return l
}

// manyRuns are runs that a block may have, of many kinds.
func manyRuns() map[string][]impl.Item {
	l := map[string][]impl.Item{
		"no items":          nil,
		"no items, not nil": {},
		"one put":           {put("a", 1, "x")},
		"one deleted":       {gone("a", 1)},
		"edges":             inOrder(edgeItems()),
		"every height":      inOrder(everyHeight()),
		"alike keys":        inOrder(alikeKeys()),
		"nested":            nestedRun(16),
		"even":              evenRun(40, ""),
		"even, great":       evenRun(40, sized(40)),
		"great":             greatRun(40),
		"one key":           inOrder(oneKey(40)),
		"one key, deleted":  {gone("k", 9), gone("k", 8), put("k", 7, ""), gone("k", 1), put("k", 0, "last")},
		"common at a fifth": {put("aa", 1, ""), put("ab", 1, ""), put("ac", 1, ""), put("ad", 1, ""), put("ada", 1, ""), put("adab", 1, "")},
		"sizes of one byte": {put("k", 64, ""), put("k", 63, ""), gone("k", 62)},
	}
	for n := range 41 {
		l[fmt.Sprint("some ", n)] = someRun(n, n)
		l[fmt.Sprint("close ", n)] = closeRun(n, n)
	}
	return l
}

// badRuns are no runs, by one thing each.
func badRuns() map[string][]impl.Item {
	l := map[string][]impl.Item{
		"twice":                {put("a", 1, "x"), put("a", 1, "x")},
		"twice, another kind":  {put("a", 1, "x"), gone("a", 1)},
		"twice, another value": {put("a", 1, "x"), put("a", 1, "y")},
		"Seqs that rise":       {put("a", 1, "x"), put("a", 2, "x")},
		"keys that fall":       {put("b", 1, "x"), put("a", 1, "x")},
		"a key ahead of its beginning": {
			put("ab", 1, "x"), put("a", 1, "x")},
		"keys that fall beyond 127": {put("\x80", 1, "x"), put("\x7f", 1, "x")},
	}
	for fault, x := range badItems() {
		l[fault] = []impl.Item{x}
		if x.Key > "a" && x.Key < "z" {
			l[fault+", between good ones"] = []impl.Item{put("a", 1, "x"), x, put("z", 1, "x")}
		}
	}
	for _, at := range []int{1, 3, 4, 5, 20, 39} {
		swapped := someRun(40, at)
		swapped[at-1], swapped[at] = swapped[at], swapped[at-1]
		l[fmt.Sprint("swapped at ", at)] = swapped
		again := someRun(40, at)
		again[at] = again[at-1]
		l[fmt.Sprint("the same again at ", at)] = again
		back := someRun(40, at)
		back[at] = back[0]
		l[fmt.Sprint("the first again at ", at)] = back
	}
	return l
}

func isRunByHand(l []impl.Item) bool {
	for i, x := range l {
		if !impl.GoodItem(x) || i > 0 && !lessByHand(l[i-1], x) {
			return false
		}
	}
	return true
}

func wantBytes(t *testing.T, what string, l []impl.Item, want string) {
	t.Helper()
	if s, ok := impl.BlockBytes(l); s != want || !ok {
		t.Errorf("%s: BlockBytes %s: %q %v, want %q", what, shown(l), s, ok, want)
	}
}

func wantNoBytes(t *testing.T, what string, l []impl.Item) {
	t.Helper()
	if s, ok := impl.BlockBytes(l); s != "" || ok {
		t.Errorf("%s: BlockBytes %s: %q %v, want nothing", what, shown(l), s, ok)
	}
}

// wantBlock asks all that is read from a block for what its run tells.
func wantBlock(t *testing.T, what string, s string, want []impl.Item) {
	t.Helper()
	if l, ok := impl.ReadBlock(s); !slices.Equal(l, want) || !ok {
		t.Errorf("%s: ReadBlock: %s %v, want %s", what, shown(l), ok, shown(want))
	}
	if l, ok := impl.RestartsOf(s); !slices.Equal(l, toldOf(want).places) || !ok {
		t.Errorf("%s: RestartsOf: %v %v, want %v", what, l, ok, toldOf(want).places)
	}
	first := ""
	if len(want) > 0 {
		first = want[0].Key
	}
	if key, ok := impl.FirstIn(s); key != first || ok != (len(want) > 0) {
		t.Errorf("%s: FirstIn: %q %v, want %q %v", what, key, ok, first, len(want) > 0)
	}
}

func wantNoBlock(t *testing.T, what string, s string) {
	t.Helper()
	if l, ok := impl.ReadBlock(s); len(l) != 0 || ok {
		t.Errorf("%s: ReadBlock %.80q: %s %v, want nothing", what, s, shown(l), ok)
	}
	if l, ok := impl.RestartsOf(s); len(l) != 0 || ok {
		t.Errorf("%s: RestartsOf %.80q: %v %v, want nothing", what, s, l, ok)
	}
	if key, ok := impl.FirstIn(s); key != "" || ok {
		t.Errorf("%s: FirstIn %.80q: %q %v, want nothing", what, s, key, ok)
	}
}

// wantBlockOrNone takes any text: where it is read at all it is the bytes of that very run.
func wantBlockOrNone(t *testing.T, what string, s string) bool {
	t.Helper()
	l, ok := impl.ReadBlock(s)
	if !ok {
		wantNoBlock(t, what, s)
		return false
	}
	if len(l) > 40 || !isRunByHand(l) || blockByHand(l) != s {
		t.Errorf("%s: ReadBlock %.80q: %s, whose bytes these are not", what, s, shown(l))
	}
	wantBlock(t, what, s, l)
	return true
}

func seekRunByHand(l []impl.Item, key string, seq int) int {
	for i, x := range l {
		if !lessByHand(x, gone(key, seq)) {
			return i
		}
	}
	return len(l)
}

func wantSeekRun(t *testing.T, what string, l []impl.Item, key string, seq int, want int) {
	t.Helper()
	if at, ok := impl.SeekRun(l, key, seq); at != want || !ok {
		t.Errorf("%s: SeekRun %q %d: %d %v, want %d", what, key, seq, at, ok, want)
	}
}

func wantNoSeekRun(t *testing.T, what string, l []impl.Item, key string, seq int) {
	t.Helper()
	if at, ok := impl.SeekRun(l, key, seq); at != 0 || ok {
		t.Errorf("%s: SeekRun %.40q %d: %d %v, want nothing", what, key, seq, at, ok)
	}
}

func wantCommon(t *testing.T, a string, b string, want int) {
	t.Helper()
	if n := impl.CommonOf(a, b); n != want {
		t.Errorf("CommonOf %.40q %.40q: %d, want %d", a, b, n, want)
	}
	if n := impl.CommonOf(b, a); n != want {
		t.Errorf("CommonOf %.40q %.40q: %d, want %d", b, a, n, want)
	}
}
