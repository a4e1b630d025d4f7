package tests

import (
	"fmt"
	"slices"
	"testing"

	"loop.example/g00224/impl"
)

// seqsIn are those that are asked of an engine: all, where they are few.
func seqsIn(k kept) []int {
	var l []int
	if k.seq <= 60 {
		for seq := range k.seq + 1 {
			l = append(l, seq)
		}
		return l
	}
	for i, x := range k.all() {
		if i%(1+len(k.all())/12) == 0 {
			l = append(l, max(x.Seq-1, 0), x.Seq, min(x.Seq+1, k.seq))
		}
	}
	l = append(l, 0, 1, k.seq-1, k.seq)
	slices.Sort(l)
	return slices.Compact(l)
}

// fewKeys are at most so many of the keys of items, and some that none has.
func fewKeys(l []impl.Item, many int) []string {
	keys := []string{"\x00", "k", "nobody", repeated(0xff, 16)}
	own := keysByHand(l)
	for i, key := range own {
		if i%(1+len(own)/many) == 0 {
			keys = append(keys, key)
		}
	}
	return keys
}

func TestGetsByHand(t *testing.T) {
	k := keptIn(9, 9, held(1, 0, put("a", 4, "4"), put("b", 6, "6")), held(2, 1, gone("a", 3), put("c", 1, "")), held(3, 2, put("a", 1, "1"), gone("d", 2))).withMem(gone("b", 7), put("d", 9, "9"))
	e := k.engine()
	for _, c := range []struct {
		key   string
		seq   int
		value string
		has   bool
	}{
		{"a", 0, "", false}, {"a", 1, "1", true}, {"a", 2, "1", true}, {"a", 3, "", false}, {"a", 4, "4", true}, {"a", 9, "4", true},
		{"b", 5, "", false}, {"b", 6, "6", true}, {"b", 7, "", false}, {"b", 9, "", false},
		{"c", 0, "", false}, {"c", 1, "", true}, {"c", 9, "", true},
		{"d", 1, "", false}, {"d", 2, "", false}, {"d", 8, "", false}, {"d", 9, "9", true},
		{"e", 9, "", false}, {"aa", 9, "", false}, {"A", 9, "", false},
	} {
		if value, has, ok := impl.GetKey(e, c.key, c.seq); value != c.value || has != c.has || !ok {
			t.Errorf("GetKey %q %d: %q %v %v, want %q %v", c.key, c.seq, value, has, ok, c.value, c.has)
		}
		wantGot(t, "by hand", e, k.all(), c.key, c.seq)
	}
	if l, ok := impl.ScanEngine(e, "", "", 9); !ok || !slices.Equal(l, []impl.Pair{{Key: "a", Value: "4"}, {Key: "c"}, {Key: "d", Value: "9"}}) {
		t.Errorf("ScanEngine at 9: %s %v", shown(l), ok)
	}
	if l, ok := impl.ScanEngine(e, "a", "c", 6); !ok || !slices.Equal(l, []impl.Pair{{Key: "a", Value: "4"}, {Key: "b", Value: "6"}}) {
		t.Errorf("ScanEngine from a to c at 6: %s %v", shown(l), ok)
	}
	wantItems(t, "by hand", e, []impl.Item{put("a", 4, "4"), gone("a", 3), put("a", 1, "1"), gone("b", 7), put("b", 6, "6"), put("c", 1, ""), put("d", 9, "9"), gone("d", 2)})
}

// What is seen hangs on Seqs alone, not on where an item lies.
func TestTheGreatestSeqIsSeenWhereverItLies(t *testing.T) {
	places := [][]int{{0, 1, 2, 3, 4}, {4, 3, 2, 1, 0}, {2, 4, 0, 3, 1}, {1, 0, 4, 2, 3}, {3, 2, 4, 0, 1}}
	for _, order := range places {
		var k kept
		for place, seq := range order {
			x := put("k", seq, fmt.Sprint("v", seq))
			if seq == 2 {
				x = gone("k", seq)
			}
			if place == 4 {
				k = k.withMem(x)
			} else {
				k = k.with(held(place+1, place, x))
			}
		}
		k.seq, k.next = 7, 9
		for seq := range 8 {
			wantGot(t, shown(order), k.engine(), k.all(), "k", seq)
			wantScanned(t, shown(order), k.engine(), k.all(), "", "", seq)
		}
	}
}

func TestSeqsOfGets(t *testing.T) {
	for name, k := range manyKept() {
		e, all := k.engine(), k.all()
		for _, key := range fewKeys(all, 3) {
			for _, seq := range append(badSeqs(), k.seq+1, k.seq+2) {
				if seq < 0 || seq > k.seq {
					wantNoGot(t, name, e, key, seq)
				}
			}
		}
		for _, seq := range append(badSeqs(), k.seq+1, k.seq+2) {
			if seq < 0 || seq > k.seq {
				wantNotScanned(t, name, e, "", "", seq)
				wantNotScanned(t, name, e, "a", "z", seq)
			}
		}
		wantGot(t, name, e, all, "k", 0)
		wantGot(t, name, e, all, "k", k.seq)
		wantScanned(t, name, e, all, "", "", 0)
		wantScanned(t, name, e, all, "", "", k.seq)
	}
}

func TestGetsAtEachSeq(t *testing.T) {
	for name, k := range manyKept() {
		t.Run(name, func(t *testing.T) {
			t.Parallel()
			e, all := k.engine(), k.all()
			for _, seq := range seqsIn(k) {
				wantScanned(t, name, e, all, "", "", seq)
				for _, key := range fewKeys(all, 6) {
					wantGot(t, name, e, all, key, seq)
				}
			}
		})
	}
}

func TestKeysThatAreNoneAreNotGot(t *testing.T) {
	for name, k := range manyKept() {
		e := k.engine()
		for _, key := range append(badKeys(), "", sized(17), repeated(0, 17), sized(5000)) {
			wantNoGot(t, name, e, key, k.seq)
			wantNoGot(t, name, e, key, 0)
		}
	}
	for _, k := range []kept{newKept(), fairKept(), manyKept()["edges in a table"]} {
		e := k.engine()
		for _, key := range append(edgeKeys(), sized(1), sized(16), "\x00", repeated(0xff, 16)) {
			wantGot(t, "an edge", e, k.all(), key, k.seq)
		}
	}
}

// All keys of one engine, those right beside them too.
func TestGetsOfAllKeys(t *testing.T) {
	for _, name := range []string{"edges in a table", "edges in Mem", "some 8", "chained 9"} {
		k := manyKept()[name]
		e, all := k.engine(), k.all()
		for _, key := range askedKeys(all) {
			wantGot(t, name, e, all, key, k.seq)
			wantGot(t, name, e, all, key, k.seq/2)
		}
	}
}

func TestScansFromAndTo(t *testing.T) {
	for name, k := range manyKept() {
		if len(k.all()) > 100 {
			continue
		}
		e, all := k.engine(), k.all()
		bounds := append(fewKeys(all, 4), "", "k05", sized(16), repeated(0, 16))
		for _, from := range bounds {
			for _, to := range bounds {
				wantScanned(t, name, e, all, from, to, k.seq)
			}
		}
		for _, s := range []string{sized(17), repeated(0, 17), repeated(0xff, 17), sized(5000)} {
			wantNotScanned(t, name, e, s, "", k.seq)
			wantNotScanned(t, name, e, "", s, k.seq)
			wantNotScanned(t, name, e, s, s, k.seq)
			wantNotScanned(t, name, e, "a", s, 0)
		}
	}
}

func TestItemsOfManyEngines(t *testing.T) {
	for name, k := range manyKept() {
		wantItems(t, name, k.engine(), k.all())
		r, _ := impl.ItemsOf(k.engine())
		if !impl.GoodRun(r.Items) {
			t.Errorf("%s: ItemsOf: %s is no run", name, shown(r))
		}
	}
}
