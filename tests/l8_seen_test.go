package tests

import (
	"fmt"
	"slices"
	"testing"

	"loop.example/g00224/impl"
)

func pair(key string, value string) impl.Pair {
	return impl.Pair{Key: key, Value: value}
}

func seenRun() []impl.Item {
	return []impl.Item{
		put("a", 9, "a9"), gone("a", 7), put("a", 5, "a5"),
		gone("b", 8), put("b", 6, "b6"),
		put("c", 3, ""),
		put("ca", 4, "ca4"), put("ca", 2, "ca2"), gone("ca", 0),
		gone("d", 1),
	}
}

func TestVisibleByHand(t *testing.T) {
	l := seenRun()
	for seq, want := range [][]impl.Pair{
		nil,
		nil,
		{pair("ca", "ca2")},
		{pair("c", ""), pair("ca", "ca2")},
		{pair("c", ""), pair("ca", "ca4")},
		{pair("a", "a5"), pair("c", ""), pair("ca", "ca4")},
		{pair("a", "a5"), pair("b", "b6"), pair("c", ""), pair("ca", "ca4")},
		{pair("b", "b6"), pair("c", ""), pair("ca", "ca4")},
		{pair("c", ""), pair("ca", "ca4")},
		{pair("a", "a9"), pair("c", ""), pair("ca", "ca4")},
		{pair("a", "a9"), pair("c", ""), pair("ca", "ca4")},
	} {
		wantVisible(t, "by hand", l, seq, want...)
	}
	wantVisible(t, "above all", l, greatestSeq, pair("a", "a9"), pair("c", ""), pair("ca", "ca4"))
}

func TestScansByHand(t *testing.T) {
	l := seenRun()
	a, b, c, ca := pair("a", "a5"), pair("b", "b6"), pair("c", ""), pair("ca", "ca4")
	for _, x := range []struct {
		what     string
		from, to string
		want     []impl.Pair
	}{
		{"all", "", "", []impl.Pair{a, b, c, ca}},
		{"from a key on", "b", "", []impl.Pair{b, c, ca}},
		{"from behind a key on", "b\x00", "", []impl.Pair{c, ca}},
		{"up to a key", "", "c", []impl.Pair{a, b}},
		{"up to behind a key", "", "c\x00", []impl.Pair{a, b, c}},
		{"from a key to a key", "a", "c", []impl.Pair{a, b}},
		{"one key alone", "c", "c\x00", []impl.Pair{c}},
		{"from and to the same", "b", "b", nil},
		{"from above to", "c", "b", nil},
		{"between two keys", "bb", "bz", nil},
		{"a key's beginning", "c", "cz", []impl.Pair{c, ca}},
		{"up to the first", "", "a", nil},
		{"from behind the last on", "cb", "", nil},
		{"from what is deleted", "d", "", nil},
		{"from all to behind all", "\x00", "\xff", []impl.Pair{a, b, c, ca}},
		{"sixteen bytes", repeated(0, 16), repeated(0xff, 16), []impl.Pair{a, b, c, ca}},
	} {
		wantScan(t, x.what, l, x.from, x.to, 6, x.want...)
	}
}

func TestLooksByHand(t *testing.T) {
	l := seenRun()
	for _, x := range []struct {
		key   string
		seq   int
		value string
		kind  int
	}{
		{"a", 5, "a5", 1}, {"a", 6, "a5", 1}, {"a", 7, "", 0}, {"a", 8, "", 0}, {"a", 9, "a9", 1}, {"a", greatestSeq, "a9", 1},
		{"b", 6, "b6", 1}, {"b", 7, "b6", 1}, {"b", 8, "", 0}, {"b", greatestSeq, "", 0},
		{"c", 3, "", 1}, {"c", 4, "", 1}, {"ca", 0, "", 0}, {"ca", 1, "", 0}, {"ca", 2, "ca2", 1}, {"ca", 3, "ca2", 1}, {"ca", 4, "ca4", 1},
		{"d", 1, "", 0}, {"d", 2, "", 0},
	} {
		wantLook(t, "by hand", l, x.key, x.seq, x.value, x.kind)
	}
	for _, x := range []impl.Item{
		gone("a", 4), gone("a", 0), gone("b", 5), gone("c", 2), gone("d", 0), gone("e", 9), gone("cb", 9), gone("\x00", 9), gone("a\x00", 9), gone("A", 9), gone("c"+sized(15), 9),
	} {
		wantNoLook(t, "by hand", l, x.Key, x.Seq)
	}
}

// askedBounds are texts to scan from and up to.
func askedBounds(l []impl.Item) []string {
	out := []string{"", "\x00", "k", repeated(0, 16), repeated(0xff, 16), sized(16)}
	keys := keysByHand(l)
	for i := 0; i < len(keys); i += len(keys)/4 + 1 {
		out = append(out, keys[i], keys[i][:len(keys[i])-1])
		if len(keys[i]) < 16 {
			out = append(out, keys[i]+"\x00")
		}
	}
	return out
}

// Against a plain look through all items, below, at, between and above all Seqs.
func TestWhatIsSeenOfRuns(t *testing.T) {
	for name, l := range manySeen() {
		for _, seq := range askedSeqs(l) {
			wantVisible(t, name, l, seq, pairsByHand(l, "", "", seq)...)
		}
	}
}

func TestScansOfRuns(t *testing.T) {
	for name, l := range manySeen() {
		seqs := askedSeqs(l)
		for i := 0; i < len(seqs); i += len(seqs)/6 + 1 {
			for _, from := range askedBounds(l) {
				for _, to := range askedBounds(l) {
					wantScan(t, name, l, from, to, seqs[i], pairsByHand(l, from, to, seqs[i])...)
				}
			}
		}
	}
}

func TestLooksIntoRuns(t *testing.T) {
	for name, l := range manySeen() {
		seqs := askedSeqs(l)
		for _, key := range askedKeys(l) {
			for i := 0; i < len(seqs); i += len(seqs)/15 + 1 {
				checkLook(t, name, l, key, seqs[i])
			}
		}
		for _, x := range l {
			for _, seq := range []int{max(x.Seq-1, 0), x.Seq, min(x.Seq+1, greatestSeq)} {
				checkLook(t, name, l, x.Key, seq)
			}
		}
	}
}

// tellings are all ways to tell three Seqs of one key and one of the next: not there, put or deleted.
func tellings() [][]impl.Item {
	out := [][]impl.Item{nil}
	for _, x := range []impl.Item{put("a", 3, "a3"), put("a", 2, "a2"), put("a", 1, "a1"), put("b", 2, "b2")} {
		var longer [][]impl.Item
		for _, l := range out {
			longer = append(longer, l, append(slices.Clone(l), x), append(slices.Clone(l), gone(x.Key, x.Seq)))
		}
		out = longer
	}
	return out
}

func TestWhatIsSeenOfAllFewItems(t *testing.T) {
	for _, l := range tellings() {
		for seq := range 5 {
			wantVisible(t, "few", l, seq, pairsByHand(l, "", "", seq)...)
			for _, from := range []string{"", "a", "a\x00", "b", "c"} {
				for _, to := range []string{"", "a", "a\x00", "b", "c"} {
					wantScan(t, "few", l, from, to, seq, pairsByHand(l, from, to, seq)...)
				}
			}
			for _, key := range []string{"\x00", "a", "a\x00", "b", "c"} {
				checkLook(t, "few", l, key, seq)
			}
		}
	}
}

// Promise 8: what is seen of a key by LookIn is what VisibleAt and ScanAt have of it.
func TestLooksAndScansAgree(t *testing.T) {
	for name, l := range manySeen() {
		r := impl.Run{Items: l}
		seqs := askedSeqs(l)
		for i := 0; i < len(seqs); i += len(seqs)/10 + 1 {
			all, _ := impl.VisibleAt(r, seqs[i])
			for _, key := range askedKeys(l) {
				value, kind, ok := impl.LookIn(r, key, seqs[i])
				there := ok && kind == impl.KindPut
				if slices.Contains(all, pair(key, value)) != there {
					t.Errorf("%s: %q at %d: LookIn %q %d %v, VisibleAt %s", name, key, seqs[i], value, kind, ok, shown(all))
				}
				if len(key) == 16 {
					continue
				}
				alone, _ := impl.ScanAt(r, key, key+"\x00", seqs[i])
				if slices.Contains(alone, pair(key, value)) != there || len(alone) > 1 {
					t.Errorf("%s: %q at %d: LookIn %q %d %v, ScanAt %s", name, key, seqs[i], value, kind, ok, shown(alone))
				}
			}
		}
	}
}

// What is scanned up to a text and from it on is all that is visible.
func TestScansCutAtAKey(t *testing.T) {
	for name, l := range manySeen() {
		r := impl.Run{Items: l}
		for _, seq := range []int{0, 5, 7, 100, greatestSeq} {
			all, _ := impl.VisibleAt(r, seq)
			for _, key := range askedKeys(l) {
				ahead, _ := impl.ScanAt(r, "", key, seq)
				behind, _ := impl.ScanAt(r, key, "", seq)
				if !slices.Equal(slices.Concat(ahead, behind), all) {
					t.Errorf("%s: cut at %q: %s and %s, want %s", name, key, shown(ahead), shown(behind), shown(all))
				}
			}
		}
	}
}

func TestNewestOfRuns(t *testing.T) {
	wantNewest(t, "no items", nil, 0)
	wantNewest(t, "no items, not nil", []impl.Item{}, 0)
	wantNewest(t, "0 alone", []impl.Item{put("a", 0, "x")}, 0)
	wantNewest(t, "the greatest", []impl.Item{gone("a", greatestSeq)}, greatestSeq)
	wantNewest(t, "first", []impl.Item{put("a", 9, "x"), put("a", 8, "x"), put("b", 7, "x")}, 9)
	wantNewest(t, "last", []impl.Item{put("a", 2, "x"), put("b", 1, "x"), gone("c", 3)}, 3)
	wantNewest(t, "between", []impl.Item{put("a", 2, "x"), gone("b", 5), put("b", 1, "x"), put("c", 4, "x")}, 5)
	wantNewest(t, "of several", []impl.Item{put("a", 5, "x"), put("b", 5, "x"), put("c", 5, "x")}, 5)
	for name, l := range manySeen() {
		wantNewest(t, name, l, newestByHand(l))
	}
	for at := range 50 {
		l := byteRun(50)
		l[at] = gone(l[at].Key, 1000+at)
		wantNewest(t, fmt.Sprint("at ", at), l, 1000+at)
	}
}

func TestRunsOfAllLengthsAreLookedThrough(t *testing.T) {
	for _, n := range []int{399, 400} {
		l := someRun(n, n)
		what := fmt.Sprint(n, " items")
		wantNewest(t, what, l, newestByHand(l))
		for _, seq := range []int{0, 500000, greatestSeq} {
			wantVisible(t, what, l, seq, pairsByHand(l, "", "", seq)...)
			wantScan(t, what, l, "A", "z", seq, pairsByHand(l, "A", "z", seq)...)
			checkLook(t, what, l, l[n-1].Key, seq)
			wantLeft(t, what, l, seq, false, leftByHand(l, seq, false)...)
			wantLeft(t, what, l, seq, true, leftByHand(l, seq, true)...)
		}
	}
}

func TestSeqsToBeSeenAtAreSeqs(t *testing.T) {
	for name, l := range manySeen() {
		for _, seq := range badSeqs() {
			wantNoVisible(t, name, l, seq)
			wantNoScan(t, name, l, "", "", seq)
			wantNoScan(t, name, l, "a", "z", seq)
			wantNoLeft(t, name, l, seq, false)
			wantNoLeft(t, name, l, seq, true)
			for _, x := range l {
				wantNoLook(t, name, l, x.Key, seq)
			}
		}
	}
	ends := []impl.Item{put("k", greatestSeq, "w"), put("k", 0, "v")}
	wantVisible(t, "least", ends, 0, pair("k", "v"))
	wantVisible(t, "one less than the greatest", ends, greatestSeq-1, pair("k", "v"))
	wantVisible(t, "greatest", ends, greatestSeq, pair("k", "w"))
	wantLook(t, "least", ends, "k", 0, "v", impl.KindPut)
	wantLook(t, "greatest", ends, "k", greatestSeq, "w", impl.KindPut)
}

func TestKeysToLookForAreKeys(t *testing.T) {
	for name, l := range manySeen() {
		for _, key := range badKeys() {
			wantNoLook(t, name, l, key, 0)
			wantNoLook(t, name, l, key, greatestSeq)
		}
	}
	l := inOrder([]impl.Item{put("k", 1, "one byte"), put(sized(16), 1, "sixteen"), put(repeated(0xff, 16), 1, "the last")})
	wantLook(t, "one byte", l, "k", 1, "one byte", impl.KindPut)
	wantLook(t, "sixteen bytes", l, sized(16), 1, "sixteen", impl.KindPut)
	wantLook(t, "the last", l, repeated(0xff, 16), 1, "the last", impl.KindPut)
	wantNoLook(t, "seventeen bytes", l, sized(17), 1)
	wantNoLook(t, "seventeen bytes, the last", l, repeated(0xff, 17), 1)
	wantNoLook(t, "no bytes", l, "", 1)
}

func TestBoundsOfScansHaveTheirSize(t *testing.T) {
	l := inOrder([]impl.Item{put("a", 1, "a"), put(sized(16), 1, "x")})
	all := pairsByHand(l, "", "", 1)
	wantScan(t, "from of 16 bytes", l, sized(16), "", 1, pair(sized(16), "x"))
	wantScan(t, "to of 16 bytes", l, "", sized(16), 1, pair("a", "a"))
	wantScan(t, "both of 16 bytes", l, repeated(0, 16), repeated(0xff, 16), 1, all...)
	wantScan(t, "both empty", l, "", "", 1, all...)
	for _, long := range []string{sized(17), repeated(0, 17), repeated(0xff, 17), sized(40), sized(5000)} {
		wantNoScan(t, "from too long", l, long, "", 1)
		wantNoScan(t, "from too long, with to", l, long, "z", 1)
		wantNoScan(t, "to too long", l, "", long, 1)
		wantNoScan(t, "to too long, with from", l, "a", long, 1)
		wantNoScan(t, "both too long", l, long, long, 1)
		wantNoScan(t, "too long, no items", nil, long, "", 1)
	}
}
