package tests

import (
	"fmt"
	"slices"
	"testing"

	"loop.example/g00224/impl"
)

// A keptFile is a table of an engine, told by its items.
type keptFile struct {
	number int
	level  int
	items  []impl.Item
}

// A kept is an engine told by its items: those in Mem in the order in which they came, the others in their files. What an engine does is done to it by the document's words, without the engine's functions.
type kept struct {
	seq   int
	next  int
	mem   []impl.Item
	files []keptFile
}

func newKept() kept {
	return kept{next: 1}
}

func held(number int, level int, items ...impl.Item) keptFile {
	return keptFile{number: number, level: level, items: inOrder(items)}
}

// keptIn is an engine with nothing in Mem.
func keptIn(seq int, next int, files ...keptFile) kept {
	return kept{seq: seq, next: next, files: files}
}

func (k kept) withMem(l ...impl.Item) kept {
	k.mem = l
	return k
}

// with has other files behind its own.
func (k kept) with(files ...keptFile) kept {
	k.files = append(slices.Clone(k.files), files...)
	return k
}

func (f keptFile) least() string {
	return f.items[0].Key
}

func (f keptFile) most() string {
	return f.items[len(f.items)-1].Key
}

func (f keptFile) meta() impl.Meta {
	return meta(f.number, f.level, f.least(), f.most())
}

func (k kept) metas() []impl.Meta {
	var l []impl.Meta
	for _, f := range k.files {
		l = append(l, f.meta())
	}
	return l
}

func (k kept) engine() impl.Engine {
	e := impl.Engine{Seq: k.seq, Mem: skipByHand(k.mem...), Version: version(k.next, k.seq, k.metas()...)}
	for _, f := range k.files {
		e.Tables = append(e.Tables, impl.Stored{Number: f.number, Data: tableByHand(f.items)})
	}
	return e
}

// all are the items of Mem and of all files, in order.
func (k kept) all() []impl.Item {
	l := slices.Clone(k.mem)
	for _, f := range k.files {
		l = append(l, f.items...)
	}
	return inOrder(l)
}

func isEngineByHand(e impl.Engine) bool {
	if e.Seq < 0 || e.Seq > 1000000000 || !impl.GoodSkip(e.Mem) || !isVersionByHand(e.Version) || e.Version.Seq != e.Seq {
		return false
	}
	if len(e.Tables) != len(e.Version.Metas) {
		return false
	}
	all := itemsIn(e.Mem)
	for i, m := range e.Version.Metas {
		l, ok := impl.ReadTable(e.Tables[i].Data)
		if !ok || e.Tables[i].Number != m.Number || l[0].Key != m.Least || l[len(l)-1].Key != m.Most {
			return false
		}
		all = append(all, l...)
	}
	return len(all) <= 400 && areUnlikeUpTo(all, e.Seq)
}

func areUnlikeUpTo(l []impl.Item, seq int) bool {
	for i, x := range l {
		same := func(y impl.Item) bool { return x.Key == y.Key && x.Seq == y.Seq }
		if x.Seq > seq || slices.ContainsFunc(l[:i], same) {
			return false
		}
	}
	return true
}

// ifGood is what is told where an engine may be so.
func (k kept) ifGood() (kept, bool) {
	if !isEngineByHand(k.engine()) {
		return kept{}, false
	}
	return k, true
}

func isWriteByHand(w impl.Write) bool {
	return isKeyByHand(w.Key) && len(w.Value) <= 40 && !(w.Delete && w.Value != "")
}

func (k kept) written(l ...impl.Write) (kept, bool) {
	if len(l) < 1 || len(l) > 20 {
		return kept{}, false
	}
	k.mem = slices.Clone(k.mem)
	for _, w := range l {
		if !isWriteByHand(w) {
			return kept{}, false
		}
		k.seq++
		if w.Delete {
			k.mem = append(k.mem, gone(w.Key, k.seq))
		} else {
			k.mem = append(k.mem, put(w.Key, k.seq, w.Value))
		}
	}
	return k.ifGood()
}

func (k kept) flushed() (kept, bool) {
	if len(k.mem) == 0 {
		return kept{}, false
	}
	k = k.with(held(k.next, 0, k.mem...)).withMem()
	k.next++
	return k.ifGood()
}

// inputs are the numbers of the files that are compacted from a level.
func (k kept) inputs(level int) []int {
	var numbers []int
	var least, most string
	for _, f := range k.files {
		if f.level != level || level > 0 && len(numbers) > 0 {
			continue
		}
		if len(numbers) == 0 || f.least() < least {
			least = f.least()
		}
		if len(numbers) == 0 || f.most() > most {
			most = f.most()
		}
		numbers = append(numbers, f.number)
	}
	if len(numbers) == 0 {
		return nil
	}
	for _, f := range k.files {
		if f.level == level+1 && !(f.most() < least) && !(most < f.least()) {
			numbers = append(numbers, f.number)
		}
	}
	return numbers
}

func (k kept) compacted(level int, seq int) (kept, bool) {
	inputs := k.inputs(level)
	if level < 0 || level > 2 || seq < 0 || seq > k.seq || len(inputs) == 0 {
		return kept{}, false
	}
	left := kept{seq: k.seq, next: k.next, mem: k.mem}
	var merged []impl.Item
	for _, f := range k.files {
		if slices.Contains(inputs, f.number) {
			merged = append(merged, f.items...)
		} else {
			left = left.with(f)
		}
	}
	var stay []impl.Item
	for _, x := range leftByHand(inOrder(merged), seq, false) {
		if x.Kind == impl.KindPut || x.Seq > seq || hasOlder(left.all(), x) {
			stay = append(stay, x)
		}
	}
	for _, l := range cutByHand(stay) {
		if len(l) > 120 {
			return kept{}, false
		}
		left = left.with(held(left.next, level+1, l...))
		left.next++
	}
	return left.ifGood()
}

func hasOlder(l []impl.Item, x impl.Item) bool {
	return slices.ContainsFunc(l, func(y impl.Item) bool { return y.Key == x.Key && y.Seq < x.Seq })
}

// cutByHand takes 24 items, and all that have the key of the last of them, as often as there are some.
func cutByHand(l []impl.Item) [][]impl.Item {
	var out [][]impl.Item
	for len(l) > 0 {
		n := min(24, len(l))
		for n < len(l) && l[n].Key == l[n-1].Key {
			n++
		}
		out = append(out, l[:n])
		l = l[n:]
	}
	return out
}

func (k kept) checkpoint() ([]string, bool) {
	e := k.engine()
	l := []string{editByHand(edit(k.next, k.seq, nil, k.metas()...))}
	for _, s := range e.Tables {
		l = append(l, s.Data)
	}
	if len(k.mem) > 0 || len(l[0]) > 1000 || !isEngineByHand(e) {
		return nil, false
	}
	return l, true
}

func setTo(key string, value string) impl.Write {
	return impl.Write{Key: key, Value: value}
}

func unset(key string) impl.Write {
	return impl.Write{Key: key, Delete: true}
}

// rowOfWrites are n writes of unlike keys.
func rowOfWrites(n int) []impl.Write {
	var l []impl.Write
	for i := range n {
		l = append(l, setTo(numbered(i), fmt.Sprint("v", i)))
	}
	return l
}

// rowOfItems are n items of unlike keys with one Seq.
func rowOfItems(n int, seq int) []impl.Item {
	var l []impl.Item
	for i := range n {
		l = append(l, put(fmt.Sprintf("r%03d", i), seq, fmt.Sprint("v", i)))
	}
	return l
}

// seqsOfKey are n items of one key with the Seqs from first on.
func seqsOfKey(key string, n int, first int) []impl.Item {
	var l []impl.Item
	for i := range n {
		l = append(l, put(key, first+i, fmt.Sprint("at ", first+i)))
	}
	return l
}

// rowOfFiles are n files of one item each on a level, side by side, of Seq 1.
func rowOfFiles(n int, first int, level int) []keptFile {
	var l []keptFile
	for i := range n {
		l = append(l, held(first+i, level, put(fmt.Sprintf("f%03d", i), 1, "x")))
	}
	return l
}

// dealtItem is one of few keys, so that most have several.
func (d *dealing) dealtItem(seq int) impl.Item {
	key := fmt.Sprintf("k%02d", d.below(12))
	if d.below(3) == 0 {
		return gone(key, seq)
	}
	return put(key, seq, mixed(d.below(41), seq))
}

// someKept has n items dealt out to Mem and to files of all levels, also older ones above newer ones.
func someKept(n int, seed int) kept {
	d := dealingOf(seed)
	k := kept{seq: 2*n + d.below(3), next: 1 + d.below(4)}
	var parts [4][3][]impl.Item
	for i := range n {
		x := d.dealtItem(2*i + d.below(2))
		level, part := max(d.below(7)-3, 0), d.below(3)
		if level > 0 {
			// Of a level from 1 on each file has four keys of its own.
			part = keyPart(x.Key)
		}
		if d.below(4) == 0 && len(k.mem) < 60 {
			k.mem = append(k.mem, x)
		} else {
			parts[level][part] = append(parts[level][part], x)
		}
	}
	files := d.numberedFiles(&k, parts)
	return k.with(files...)
}

// keyPart tells which four of the twelve keys of dealtItem a key is among.
func keyPart(key string) int {
	return (int(key[1]-'0')*10 + int(key[2]-'0')) / 4
}

// numberedFiles are the parts that have items, numbered in any order, from Next on and with gaps.
func (d *dealing) numberedFiles(k *kept, parts [4][3][]impl.Item) []keptFile {
	var unnumbered, files []keptFile
	for level, row := range parts {
		for _, l := range row {
			if len(l) > 0 {
				unnumbered = append(unnumbered, held(0, level, l...))
			}
		}
	}
	for len(unnumbered) > 0 {
		at := d.below(len(unnumbered))
		f := unnumbered[at]
		f.number = k.next
		k.next += 1 + d.below(3)
		files = append(files, f)
		unnumbered = slices.Delete(unnumbered, at, at+1)
	}
	return files
}

// chained is what so many writes, flushes and compactions leave, done by hand.
func chained(steps int, seed int) kept {
	d := dealingOf(seed + 500)
	k := newKept()
	for range steps {
		next, ok := k, false
		switch d.below(6) {
		case 0, 1, 2:
			next, ok = k.written(d.writes(1 + d.below(8))...)
		case 3:
			next, ok = k.flushed()
		default:
			next, ok = k.compacted(d.below(3), d.below(k.seq+1))
		}
		if ok {
			k = next
		}
	}
	return k
}

func (d *dealing) writes(n int) []impl.Write {
	var l []impl.Write
	for i := range n {
		x := d.dealtItem(i)
		l = append(l, impl.Write{Key: x.Key, Value: x.Value, Delete: x.Kind == impl.KindDelete})
	}
	return l
}

// manyKept are good engines of many kinds.
func manyKept() map[string]kept {
	one := put("k", 5, "v")
	l := map[string]kept{
		"new":                    newKept(),
		"nothing, later":         keptIn(9, 7),
		"nothing, the greatest":  keptIn(greatestSeq, greatestNext),
		"Mem alone":              keptIn(9, 1).withMem(put("b", 3, "x"), gone("a", 9), put("a", 1, "y"), put("b", 4, "")),
		"Mem of one":             keptIn(5, 1).withMem(one),
		"Mem of one, deleted":    keptIn(5, 1).withMem(gone("k", 0)),
		"Mem full":               keptIn(1000003, 1).withMem(someItems(60, 6)...),
		"Mem of one key":         keptIn(59*59, 4).withMem(oneKey(60)...),
		"edges in Mem":           keptIn(greatestSeq, greatestNext).withMem(edgeItems()...),
		"edges in a table":       keptIn(greatestSeq, greatestNext, held(greatestNumber, 0, edgeItems()...)),
		"a table of one":         keptIn(5, 2, held(1, 0, one)),
		"a table, deleted":       keptIn(5, 2, held(1, 0, gone("k", 5))),
		"a table on the last":    keptIn(5, 2, held(1, 3, one)),
		"a full table":           keptIn(200, 2, held(1, 1, rowOfItems(120, 7)...)),
		"a table of one key":     keptIn(200, 2, held(1, 0, seqsOfKey("k", 120, 30)...)),
		"one key everywhere":     keptIn(9, 9, held(1, 0, put("k", 4, "4")), held(2, 1, put("k", 3, "3")), held(3, 2, gone("k", 2)), held(4, 3, put("k", 1, "1"))).withMem(put("k", 5, "5")),
		"the newest on the last": keptIn(9, 9, held(1, 0, put("k", 2, "2")), held(2, 1, gone("k", 3)), held(3, 2, put("k", 4, "4")), held(4, 3, put("k", 5, "5"))).withMem(put("k", 1, "1")),
		"the newest is deleted":  keptIn(9, 9, held(1, 0, put("k", 4, "4")), held(4, 3, gone("k", 5))).withMem(put("k", 1, "1")),
		"level 0 on top":         keptIn(9, 9, held(2, 0, put("a", 1, "x"), put("z", 1, "x")), held(3, 0, put("b", 2, "x"), put("z", 3, "x")), held(7, 0, gone("a", 9))),
		"side by side":           keptIn(9, 9, held(2, 1, put("m", 1, "x"), put("p", 2, "x")), held(3, 1, put("a", 2, "x"), gone("b", 3)), held(7, 1, put("q", 4, "x"))),
		"30 tables":              keptIn(1, 31, rowOfFiles(30, 1, 0)...),
		"30 tables of level 1":   keptIn(1, greatestNext, rowOfFiles(30, greatestNumber-29, 1)...),
		"full, in tables":        keptIn(9, 9, held(1, 0, rowOfItems(120, 1)...), held(2, 0, rowOfItems(120, 2)...), held(3, 1, rowOfItems(120, 3)...), held(4, 2, rowOfItems(40, 4)...)),
		"full, with Mem":         keptIn(2000000, 9, held(1, 0, rowOfItems(120, 1)...), held(2, 0, rowOfItems(120, 2)...), held(3, 1, rowOfItems(100, 3)...)).withMem(someItems(60, 7)...),
		"long keys":              keptIn(greatestSeq, 2, held(1, 2, greatRun(60)...)),
		"deletions alone":        keptIn(9, 5, held(1, 0, gone("a", 1), gone("b", 9)), held(2, 0, gone("a", 3)), held(4, 1, gone("a", 2), gone("c", 0))),
	}
	for n := range 12 {
		l[fmt.Sprint("some ", n)] = someKept(6*n, n)
		l[fmt.Sprint("chained ", n)] = chained(5*n, n)
	}
	return l
}

func sameEngine(a impl.Engine, b impl.Engine) bool {
	return a.Seq == b.Seq && sameSkip(a.Mem, b.Mem) && sameVersion(a.Version, b.Version) && slices.Equal(a.Tables, b.Tables)
}

// briefly tells an engine without the texts of its tables.
func briefly(e impl.Engine) string {
	l, _ := impl.ListSkip(e.Mem, 0)
	return fmt.Sprintf("{Seq %d, Mem %s, Version %s, %d tables}", e.Seq, shown(l), shown(e.Version), len(e.Tables))
}

func wantEngine(t *testing.T, what string, got impl.Engine, ok bool, want kept) {
	t.Helper()
	if !ok || !sameEngine(got, want.engine()) {
		t.Errorf("%s: %s %v, want %s", what, briefly(got), ok, briefly(want.engine()))
	}
	if ok && !impl.GoodEngine(got) {
		t.Errorf("%s: the engine %s is not good", what, briefly(got))
	}
}

func wantNoEngine(t *testing.T, what string, got impl.Engine, ok bool) {
	t.Helper()
	if ok || !sameEngine(got, impl.Engine{}) {
		t.Errorf("%s: %s %v, want nothing", what, briefly(got), ok)
	}
}

func wantWritten(t *testing.T, what string, k kept, l []impl.Write, want kept) {
	t.Helper()
	got, ok := impl.WriteBatch(k.engine(), l)
	wantEngine(t, fmt.Sprintf("%s: WriteBatch of %d", what, len(l)), got, ok, want)
}

func wantNotWritten(t *testing.T, what string, k kept, l []impl.Write) {
	t.Helper()
	got, ok := impl.WriteBatch(k.engine(), l)
	wantNoEngine(t, fmt.Sprintf("%s: WriteBatch of %d", what, len(l)), got, ok)
}

// checkWritten asks for what the document's words give.
func checkWritten(t *testing.T, what string, k kept, l []impl.Write) bool {
	t.Helper()
	want, ok := k.written(l...)
	if ok {
		wantWritten(t, what, k, l, want)
	} else {
		wantNotWritten(t, what, k, l)
	}
	return ok
}

func wantFlushed(t *testing.T, what string, k kept, want kept) {
	t.Helper()
	got, ok := impl.FlushEngine(k.engine())
	wantEngine(t, what+": FlushEngine", got, ok, want)
}

func wantNotFlushed(t *testing.T, what string, k kept) {
	t.Helper()
	got, ok := impl.FlushEngine(k.engine())
	wantNoEngine(t, what+": FlushEngine", got, ok)
}

func wantCompacted(t *testing.T, what string, k kept, level int, seq int, want kept) {
	t.Helper()
	got, ok := impl.CompactEngine(k.engine(), level, seq)
	wantEngine(t, fmt.Sprintf("%s: CompactEngine %d %d", what, level, seq), got, ok, want)
}

func wantNotCompacted(t *testing.T, what string, k kept, level int, seq int) {
	t.Helper()
	got, ok := impl.CompactEngine(k.engine(), level, seq)
	wantNoEngine(t, fmt.Sprintf("%s: CompactEngine %d %d", what, level, seq), got, ok)
}

// checkCompacted asks for what the document's words give.
func checkCompacted(t *testing.T, what string, k kept, level int, seq int) bool {
	t.Helper()
	want, ok := k.compacted(level, seq)
	if ok {
		wantCompacted(t, what, k, level, seq, want)
	} else {
		wantNotCompacted(t, what, k, level, seq)
	}
	return ok
}

func wantItems(t *testing.T, what string, e impl.Engine, want []impl.Item) {
	t.Helper()
	if r, ok := impl.ItemsOf(e); !slices.Equal(r.Items, want) || !ok {
		t.Errorf("%s: ItemsOf: %s %v, want %s", what, shown(r), ok, shown(want))
	}
}

// wantGot asks GetKey for what a plain look through items finds.
func wantGot(t *testing.T, what string, e impl.Engine, l []impl.Item, key string, seq int) {
	t.Helper()
	x, found := seenByHand(l, key, seq)
	want := found && x.Kind == impl.KindPut
	if value, has, ok := impl.GetKey(e, key, seq); value != x.Value || has != want || !ok {
		t.Errorf("%s: GetKey %q %d: %q %v %v, want %q %v", what, key, seq, value, has, ok, x.Value, want)
	}
}

func wantNoGot(t *testing.T, what string, e impl.Engine, key string, seq int) {
	t.Helper()
	if value, has, ok := impl.GetKey(e, key, seq); value != "" || has || ok {
		t.Errorf("%s: GetKey %.40q %d: %q %v %v, want nothing", what, key, seq, value, has, ok)
	}
}

// wantScanned asks ScanEngine for what a plain look through items finds.
func wantScanned(t *testing.T, what string, e impl.Engine, l []impl.Item, from string, to string, seq int) {
	t.Helper()
	want := pairsByHand(l, from, to, seq)
	if got, ok := impl.ScanEngine(e, from, to, seq); !slices.Equal(got, want) || !ok {
		t.Errorf("%s: ScanEngine %q %q %d: %s %v, want %s", what, from, to, seq, shown(got), ok, shown(want))
	}
}

func wantNotScanned(t *testing.T, what string, e impl.Engine, from string, to string, seq int) {
	t.Helper()
	if got, ok := impl.ScanEngine(e, from, to, seq); len(got) != 0 || ok {
		t.Errorf("%s: ScanEngine %.40q %.40q %d: %s %v, want nothing", what, from, to, seq, shown(got), ok)
	}
}

func wantCheckpoint(t *testing.T, what string, e impl.Engine, want []string) {
	t.Helper()
	if l, ok := impl.CheckpointOf(e); !slices.Equal(l, want) || !ok {
		t.Errorf("%s: CheckpointOf: %.200q %v, want %.200q", what, l, ok, want)
	}
}

func wantNoCheckpoint(t *testing.T, what string, e impl.Engine) {
	t.Helper()
	if l, ok := impl.CheckpointOf(e); len(l) != 0 || ok {
		t.Errorf("%s: CheckpointOf: %.200q %v, want nothing", what, l, ok)
	}
}

func wantNotOpened(t *testing.T, what string, l []string) {
	t.Helper()
	got, ok := impl.OpenCheckpoint(l)
	wantNoEngine(t, what+": OpenCheckpoint", got, ok)
}

// wantGoodEngine asks the readers of an engine for what its items tell.
func wantGoodEngine(t *testing.T, what string, k kept) {
	t.Helper()
	e := k.engine()
	if !isEngineByHand(e) {
		t.Errorf("%s: %s is none", what, briefly(e))
	}
	if !impl.GoodEngine(e) {
		t.Errorf("%s: GoodEngine %s: false", what, briefly(e))
	}
	wantItems(t, what, e, k.all())
	wantScanned(t, what, e, k.all(), "", "", k.seq)
}

// wantBadEngine asks every function for the answer that what is no good engine gets.
func wantBadEngine(t *testing.T, what string, e impl.Engine) {
	t.Helper()
	if isEngineByHand(e) {
		t.Errorf("%s: %s is one", what, briefly(e))
	}
	if impl.GoodEngine(e) {
		t.Errorf("%s: GoodEngine %s: true", what, briefly(e))
	}
	got, ok := impl.WriteBatch(e, rowOfWrites(1))
	wantNoEngine(t, what+": WriteBatch", got, ok)
	got, ok = impl.FlushEngine(e)
	wantNoEngine(t, what+": FlushEngine", got, ok)
	for level := range 3 {
		for _, seq := range []int{0, e.Seq} {
			got, ok = impl.CompactEngine(e, level, seq)
			wantNoEngine(t, what+": CompactEngine", got, ok)
		}
	}
	for _, seq := range []int{0, e.Seq} {
		wantNoGot(t, what, e, "k", seq)
		wantNotScanned(t, what, e, "", "", seq)
	}
	if r, ok := impl.ItemsOf(e); len(r.Items) != 0 || ok {
		t.Errorf("%s: ItemsOf: %s %v, want nothing", what, shown(r), ok)
	}
	wantNoCheckpoint(t, what, e)
}
