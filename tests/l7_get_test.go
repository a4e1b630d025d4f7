package tests

import (
	"fmt"
	"math"
	"slices"
	"testing"

	"loop.example/g00224/impl"
)

// Promise 7, its second half: for every key and Seq of a run, and beside each.
func TestWhatIsGotIsWhatIsFoundInTheRun(t *testing.T) {
	for name, l := range tableRuns() {
		t.Run(name, func(t *testing.T) {
			t.Parallel()
			s := tableByHand(l)
			for _, x := range l {
				for _, seq := range []int{0, x.Seq - 1, x.Seq, x.Seq + 1, greatestSeq} {
					if seq < 0 || seq > greatestSeq {
						continue
					}
					checkGet(t, name, s, l, x.Key, seq)
				}
				for _, key := range []string{x.Key + "\x00", x.Key[:len(x.Key)-1], x.Key[1:]} {
					if len(key) >= 1 && len(key) <= 16 {
						checkGet(t, name, s, l, key, x.Seq)
					}
				}
			}
			for _, x := range edgeItems() {
				checkGet(t, name, s, l, x.Key, x.Seq)
			}
		})
	}
}

// Keys that are not there, of which the filter says of some that they may be.
func TestKeysThatAreNotInATable(t *testing.T) {
	for name, l := range map[string][]impl.Item{
		"full": fullRun(120), "bytes": byteRun(120), "some": someRun(60, 5), "several": severalSeqs(30), "one": {put("k", 3, "v")},
	} {
		s := tableByHand(l)
		for _, key := range append(someKeys(150, 3), edgeKeys()...) {
			for _, seq := range []int{0, greatestSeq} {
				checkGet(t, name, s, l, key, seq)
			}
		}
	}
}

// amongKeys is a key of two bytes that no item has, between two texts, of which the filter of the items says that it may be there, or not.
func amongKeys(t *testing.T, l []impl.Item, least string, most string, may bool) string {
	t.Helper()
	f := filterByHand(4, keysByHand(l)...)
	for n := range 65536 {
		key := string([]byte{byte(n >> 8), byte(n)})
		_, there := getByHand(l, key, greatestSeq)
		if key >= least && key < most && !there && hasByHand(f, key) == may {
			return key
		}
	}
	t.Fatalf("no key between %q and %q, of which the filter says %v", least, most, may)
	return ""
}

func TestHowManyBlocksAreRead(t *testing.T) {
	l := someRun(120, 9)
	s := tableByHand(l)
	least, most := l[0].Key, l[119].Key
	for _, seq := range []int{0, 5, greatestSeq} {
		wantNoGet(t, "between, the filter says no", s, amongKeys(t, l, least, most, false), seq, 0)
		wantNoGet(t, "between, the filter says it may", s, amongKeys(t, l, least, most, true), seq, 1)
		wantNoGet(t, "ahead, the filter says no", s, amongKeys(t, l, "", least, false), seq, 0)
		wantNoGet(t, "ahead, the filter says it may", s, amongKeys(t, l, "", least, true), seq, 1)
		wantNoGet(t, "behind, the filter says no", s, amongKeys(t, l, most, "\xff\xff\xff", false), seq, 0)
		wantNoGet(t, "behind, the filter says it may", s, amongKeys(t, l, most, "\xff\xff\xff", true), seq, 0)
	}
}

// A key that is there, and a Seq below all that it has.
func TestSeqsBelowAllOfAKey(t *testing.T) {
	var l []impl.Item
	for i := range 24 {
		l = append(l, put(string([]byte{'a' + byte(i)}), 10+i, "v"))
	}
	s := tableByHand(l)
	for i, x := range l {
		what := fmt.Sprint("item ", i)
		wantGet(t, what, s, x.Key, x.Seq, x, 1)
		wantGet(t, what, s, x.Key, x.Seq+1, x, 1)
		if i == 23 {
			wantNoGet(t, "the last", s, x.Key, x.Seq-1, 0)
			wantNoGet(t, "the last", s, x.Key, 0, 0)
			continue
		}
		wantNoGet(t, what, s, x.Key, x.Seq-1, 1)
		wantNoGet(t, what, s, x.Key, 0, 1)
	}
}

// Of one key several Seqs that lie in two blocks, side by side.
func TestOneKeyInTwoBlocks(t *testing.T) {
	l := append(byteRun(5),
		put("k", 90, "1"), gone("k", 80), put("k", 70, "3"),
		put("k", 60, "4"), put("k", 50, "5"), gone("k", 40), put("z", 5, "z"))
	s := tableByHand(l)
	for _, c := range []struct {
		seq int
		at  int
	}{
		{greatestSeq, 5}, {91, 5}, {90, 5}, {89, 6}, {81, 6}, {80, 6}, {79, 7}, {71, 7}, {70, 7},
		{69, 8}, {61, 8}, {60, 8}, {59, 9}, {50, 9}, {49, 10}, {41, 10}, {40, 10},
	} {
		wantGet(t, "in two blocks", s, "k", c.seq, l[c.at], 1)
	}
	for _, seq := range []int{39, 1, 0} {
		wantNoGet(t, "in two blocks, below all", s, "k", seq, 1)
	}
	ends := l[:11]
	for _, seq := range []int{39, 1, 0} {
		wantNoGet(t, "in two blocks, the last key, below all", tableByHand(ends), "k", seq, 0)
	}
	alone := l[:8]
	for _, seq := range []int{69, 60, 0} {
		wantNoGet(t, "in the last block, below all", tableByHand(alone), "k", seq, 0)
	}
	wantGet(t, "in the last block, the last", tableByHand(alone), "k", 70, l[7], 1)
}

// One key in all blocks, asked for at each Seq.
func TestOneKeyInAllBlocks(t *testing.T) {
	l := inOrder(oneKey(120))
	s := tableByHand(l)
	for i, x := range l {
		wantGet(t, fmt.Sprint("item ", i), s, "one", x.Seq, x, 1)
		if i > 0 {
			wantGet(t, fmt.Sprint("below item ", i-1), s, "one", l[i-1].Seq-1, x, 1)
		}
	}
	wantGet(t, "the greatest", s, "one", greatestSeq, l[0], 1)
}

func TestItemsThatAreDeletedAreGot(t *testing.T) {
	l := []impl.Item{gone("a", 5), put("a", 3, "old"), gone("b", 0)}
	s := tableByHand(l)
	wantGet(t, "newest", s, "a", 9, l[0], 1)
	wantGet(t, "at it", s, "a", 5, l[0], 1)
	wantGet(t, "below", s, "a", 4, l[1], 1)
	wantGet(t, "last, at 0", s, "b", 0, l[2], 1)
	wantNoGet(t, "below all", s, "a", 2, 1)
}

func TestGetFromTakesKeysAndSeqsAlone(t *testing.T) {
	for name, l := range shortTables() {
		s := tableByHand(l)
		for _, key := range badKeys() {
			wantNoGet(t, name, s, key, greatestSeq, 0)
			wantNoGet(t, name, s, key, 0, 0)
		}
		for _, seq := range []int{math.MinInt, -1, greatestSeq + 1, math.MaxInt} {
			for _, x := range l {
				wantNoGet(t, name, s, x.Key, seq, 0)
			}
			wantNoGet(t, name, s, "", seq, 0)
		}
	}
	edge := []impl.Item{put(sized(16), greatestSeq, "v"), put(sized(16), 0, "w")}
	wantGet(t, "greatest", tableByHand(edge), sized(16), greatestSeq, edge[0], 1)
	wantGet(t, "least", tableByHand(edge), sized(16), 0, edge[1], 1)
	wantNoGet(t, "one beyond", tableByHand(edge), sized(16), greatestSeq+1, 0)
	wantNoGet(t, "one below", tableByHand(edge), sized(16), -1, 0)
	wantNoGet(t, "a byte more", tableByHand(edge), sized(17), 0, 0)
}

// Where a block is read, it is the first whose last item is not less: any other has no such item.
func TestTheBlockThatIsRead(t *testing.T) {
	l := someRun(80, 6)
	s := tableByHand(l)
	index, _ := impl.IndexOf(s)
	for _, x := range l {
		got, _, ok := impl.GetFrom(s, x.Key, x.Seq)
		at := slices.IndexFunc(index, func(p impl.Place) bool { return !lessByHand(put(p.Last, p.Seq, ""), x) })
		items, _ := impl.ReadBlock(s[index[at].At : index[at].At+index[at].Size])
		if !ok || !slices.Contains(items, got) {
			t.Errorf("%s %v: not in block %d", shown(got), ok, at)
		}
	}
}
