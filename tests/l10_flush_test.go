package tests

import (
	"fmt"
	"testing"

	"loop.example/g00224/impl"
)

func TestFlushesByHand(t *testing.T) {
	k := keptIn(9, 7, held(3, 1, put("b", 1, "x"))).withMem(put("c", 9, "z"), gone("a", 2), put("c", 3, "y"), put("b", 5, ""))
	want := keptIn(9, 8, held(3, 1, put("b", 1, "x")), held(7, 0, gone("a", 2), put("b", 5, ""), put("c", 9, "z"), put("c", 3, "y")))
	wantFlushed(t, "by hand", k, want)
	e, _ := impl.FlushEngine(k.engine())
	if m := e.Version.Metas[1]; m != meta(7, 0, "a", "c") || len(e.Mem.Towers) != 0 || e.Seq != 9 || e.Version.Next != 8 {
		t.Errorf("by hand: %s", briefly(e))
	}
	wantFlushed(t, "one item", keptIn(5, 1).withMem(gone("k", 5)), keptIn(5, 2, held(1, 0, gone("k", 5))))
}

func TestNothingIsFlushedWithoutItems(t *testing.T) {
	wantNotFlushed(t, "new", newKept())
	for name, k := range manyKept() {
		wantNotFlushed(t, name+", without Mem", k.withMem())
	}
}

func TestManyFlushes(t *testing.T) {
	flushed := 0
	for name, k := range manyKept() {
		want, ok := k.flushed()
		if !ok {
			wantNotFlushed(t, name, k)
			continue
		}
		wantFlushed(t, name, k, want)
		flushed++
	}
	if flushed < 15 {
		t.Errorf("%d are flushed: too few", flushed)
	}
}

func TestNextOfAFlush(t *testing.T) {
	x := put("k", 1, "v")
	for _, next := range []int{1, 2, 99999, 100000} {
		wantFlushed(t, fmt.Sprint("Next ", next), keptIn(1, next).withMem(x), keptIn(1, next+1, held(next, 0, x)))
	}
	wantNotFlushed(t, "Next at its limit", keptIn(1, 100001).withMem(x))
	wantNotFlushed(t, "Next at its limit, with a table", keptIn(1, 100001, held(100000, 0, put("j", 1, "v"))).withMem(x))
}

func TestHowManyMetasAFlushMayFind(t *testing.T) {
	x := put("k", 1, "v")
	for level := range 4 {
		for _, n := range []int{0, 1, 28, 29, 30} {
			k := keptIn(1, n+1, rowOfFiles(n, 1, level)...).withMem(x)
			if n == 30 {
				wantNotFlushed(t, "30 metas", k)
			} else {
				wantFlushed(t, fmt.Sprint(n, " metas"), k, keptIn(1, n+2, rowOfFiles(n, 1, level)...).with(held(n+1, 0, x)))
			}
		}
	}
}

func TestTwoFlushes(t *testing.T) {
	once, ok := impl.FlushEngine(fairKept().engine())
	want, _ := fairKept().flushed()
	wantEngine(t, "once", once, ok, want)
	twice, ok := impl.FlushEngine(once)
	wantNoEngine(t, "twice, without a write", twice, ok)
	want, _ = want.written(setTo("b", "new"))
	want, _ = want.flushed()
	once, _ = impl.WriteBatch(once, []impl.Write{setTo("b", "new")})
	twice, ok = impl.FlushEngine(once)
	wantEngine(t, "twice, with a write", twice, ok, want)
	if l := twice.Version.Metas; len(l) != 4 || l[2].Number != 9 || l[3] != meta(10, 0, "b", "b") || twice.Version.Next != 11 {
		t.Errorf("twice: %s", briefly(twice))
	}
}

// A full Mem makes one table, of several blocks.
func TestAFullMemIsFlushed(t *testing.T) {
	for _, n := range []int{1, 7, 8, 9, 24, 25, 59, 60} {
		k := keptIn(2000000, 4).withMem(someItems(n, n)...)
		wantFlushed(t, fmt.Sprint(n, " items"), k, keptIn(2000000, 5, held(4, 0, someItems(n, n)...)))
	}
	one := keptIn(60*60, 4).withMem(oneKey(60)...)
	wantFlushed(t, "one key", one, keptIn(60*60, 5, held(4, 0, oneKey(60)...)))
}

func TestWhatIsFlushedChangesNothingThatIsSeen(t *testing.T) {
	for name, k := range manyKept() {
		t.Run(name, func(t *testing.T) {
			t.Parallel()
			before := k.engine()
			after, ok := impl.FlushEngine(before)
			if ok {
				wantSeenAlike(t, name, before, after, k.all(), seqsIn(k))
			}
		})
	}
}

// wantSeenAlike asks two engines for the same: what is told by items, at each of these Seqs.
func wantSeenAlike(t *testing.T, what string, before impl.Engine, after impl.Engine, l []impl.Item, seqs []int) {
	t.Helper()
	for _, seq := range seqs {
		wantScanned(t, what+", before", before, l, "", "", seq)
		wantScanned(t, what+", after", after, l, "", "", seq)
	}
	keys := fewKeys(l, 4)
	for i, seq := range seqs {
		if i%(1+len(seqs)/3) != 0 && i != len(seqs)-1 {
			continue
		}
		for _, key := range keys {
			wantGot(t, what+", before", before, l, key, seq)
			wantGot(t, what+", after", after, l, key, seq)
		}
	}
}
