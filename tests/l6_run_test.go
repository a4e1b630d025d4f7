package tests

import (
	"fmt"
	"math"
	"slices"
	"testing"

	"loop.example/g00224/impl"
)

func TestRunsThatAreGood(t *testing.T) {
	for name, l := range manyRuns() {
		if !impl.GoodRun(l) {
			t.Errorf("%s: %s is no run", name, shown(l))
		}
	}
}

// A run has no limit of its own: a block's is the block's.
func TestRunsMayBeLong(t *testing.T) {
	for _, n := range []int{41, 60, 121, 1000} {
		l := someRun(n, n)
		if !impl.GoodRun(l) {
			t.Errorf("%d items are no run", n)
		}
		l[n-1] = l[n-2]
		if impl.GoodRun(l) {
			t.Errorf("%d items, the last one twice, are a run", n)
		}
	}
}

func TestRunsThatAreNotGood(t *testing.T) {
	for fault, l := range badRuns() {
		if impl.GoodRun(l) {
			t.Errorf("%s: %s is a run", fault, shown(l))
		}
	}
}

// Three items in every order, two alike among them: they are a run just where each is less than the next.
func TestRunsOfAllThreeItems(t *testing.T) {
	l := []impl.Item{
		put("a", 3, "x"), gone("a", 3), put("a", 2, ""), put("aa", 9, ""), put("ab", 0, ""), gone("b", 1), put("b", 0, "z"), {}, put("b", -1, ""), put("a", 5, sized(41)),
	}
	good := 0
	for _, x := range l {
		for _, y := range l {
			for _, z := range l {
				run := []impl.Item{x, y, z}
				want := isRunByHand(run)
				if impl.GoodRun(run) != want {
					t.Errorf("%s: a run is %v", shown(run), !want)
				}
				if want {
					good++
				}
			}
		}
	}
	// Of six places in the order, one with two items: 20 of three places each, 10 of them with the one of two.
	if good != 30 {
		t.Errorf("%d runs, want 30", good)
	}
}

func TestLimitsOfBlocks(t *testing.T) {
	if impl.MaxBlock != 40 || impl.Restart != 4 {
		t.Error(impl.MaxBlock, impl.Restart)
	}
}

func TestCommonOfTexts(t *testing.T) {
	for _, c := range []struct {
		a, b string
		want int
	}{
		{"", "", 0}, {"", "a", 0}, {"", sized(5000), 0}, {"a", "b", 0}, {"a", "a", 1}, {"car", "cart", 3}, {"cart", "card", 3}, {"cart", "cart", 4},
		{"xcart", "cart", 0}, {"abc", "abd", 2}, {"abcx", "abdx", 2}, {"aab", "aba", 1}, {"\x00", "\x00\x00", 1}, {"\x00", "", 0}, {"\xff\x00", "\xff\x01", 1},
		{"\xc3\xa4", "\xc3\xb6", 1}, {"\x7f", "\xff", 0}, {sized(16), sized(17), 16}, {sized(100), sized(100), 100}, {sized(300), sized(299) + "y", 299},
		{sized(70000), sized(70000), 70000}, {sized(70000), sized(69999) + "\x00" + sized(9), 69999},
	} {
		wantCommon(t, c.a, c.b, c.want)
	}
}

func TestCommonOfAllShortTexts(t *testing.T) {
	texts := []string{""}
	for at := 0; len(texts) < 200; at++ {
		for _, c := range []string{"\x00", "a", "\xff"} {
			texts = append(texts, texts[at]+c)
		}
	}
	for _, a := range texts {
		for _, b := range texts {
			wantCommon(t, a, b, commonByHand(a, b))
		}
	}
}

// What is common is the same, and what is behind it is not: at any size.
func TestCommonOfTextsOfAllSizes(t *testing.T) {
	for size := range 300 {
		s := mixed(size, size)
		wantCommon(t, s, s, size)
		wantCommon(t, s, s+"tail", size)
		wantCommon(t, s+"a", s+"b", size)
		wantCommon(t, s+"ax", s+"bx", size)
		for at := range size {
			wantCommon(t, s, turned(s, at*8+at%8), at)
		}
	}
}

func TestSeekRunFindsEachItem(t *testing.T) {
	for name, l := range manyRuns() {
		for i, x := range l {
			wantSeekRun(t, name, l, x.Key, x.Seq, i)
		}
	}
}

// Keys and Seqs beside each item, and at the edges of what may be asked.
func TestSeekRunEverywhere(t *testing.T) {
	for name, l := range manyRuns() {
		asked := append(slices.Clone(l), edgeItems()...)
		for _, x := range asked {
			for _, seq := range []int{0, 1, x.Seq - 1, x.Seq + 1, greatestSeq - 1, greatestSeq} {
				if seq < 0 || seq > greatestSeq {
					continue
				}
				wantSeekRun(t, name, l, x.Key, seq, seekRunByHand(l, x.Key, seq))
				if len(x.Key) < 16 {
					wantSeekRun(t, name, l, x.Key+"\x00", seq, seekRunByHand(l, x.Key+"\x00", seq))
				}
				if len(x.Key) > 1 {
					cut := x.Key[:len(x.Key)-1]
					wantSeekRun(t, name, l, cut, seq, seekRunByHand(l, cut, seq))
				}
			}
		}
		wantSeekRun(t, name+", ahead of all", l, "\x00", greatestSeq, 0)
		if len(l) > 0 && l[len(l)-1].Key < repeated(0xff, 16) {
			wantSeekRun(t, name+", behind all", l, repeated(0xff, 16), 0, len(l))
		}
	}
}

func TestSeekRunByHandAndBySeq(t *testing.T) {
	l := []impl.Item{put("b", 9, "x"), gone("b", 5), put("b", 2, "y"), put("d", 0, "z")}
	for _, c := range []struct {
		key  string
		seq  int
		want int
	}{
		{"a", 0, 0}, {"b", greatestSeq, 0}, {"b", 10, 0}, {"b", 9, 0}, {"b", 8, 1}, {"b", 6, 1}, {"b", 5, 1}, {"b", 4, 2}, {"b", 3, 2}, {"b", 2, 2}, {"b", 1, 3}, {"b", 0, 3},
		{"ba", 9, 3}, {"c", 9, 3}, {"d", 1, 3}, {"d", 0, 3}, {"d\x00", greatestSeq, 4}, {"e", 0, 4}, {"e", greatestSeq, 4}, {sized(16), 3, 4},
	} {
		wantSeekRun(t, "by hand", l, c.key, c.seq, c.want)
	}
}

// A Seq of 0 of the last key may be met exactly, or be behind all.
func TestSeekRunAtTheEndsOfSeq(t *testing.T) {
	wantSeekRun(t, "last", []impl.Item{put("k", 0, "")}, "k", 0, 0)
	wantSeekRun(t, "beyond the last", []impl.Item{put("k", 1, "")}, "k", 0, 1)
	wantSeekRun(t, "greatest", []impl.Item{put("k", greatestSeq, "")}, "k", greatestSeq, 0)
	wantSeekRun(t, "beyond the greatest", []impl.Item{put("k", greatestSeq, "")}, "k", greatestSeq-1, 1)
	wantSeekRun(t, "no items", nil, "k", 0, 0)
	wantSeekRun(t, "no items, not nil", []impl.Item{}, sized(16), greatestSeq, 0)
}

func TestSeekRunInLongRuns(t *testing.T) {
	for _, n := range []int{41, 60, 121, 1000} {
		l := someRun(n, n)
		for i, x := range l {
			wantSeekRun(t, fmt.Sprint(n, " items"), l, x.Key, x.Seq, i)
			wantSeekRun(t, fmt.Sprint(n, " items"), l, x.Key, 0, seekRunByHand(l, x.Key, 0))
		}
		wantSeekRun(t, fmt.Sprint(n, " items"), l, repeated(0xff, 16), 0, n)
	}
}

func TestSeekRunTakesKeysAndSeqsAlone(t *testing.T) {
	for name, l := range manyRuns() {
		for _, key := range badKeys() {
			wantNoSeekRun(t, name, l, key, 1)
		}
		for _, seq := range []int{math.MinInt, -1, greatestSeq + 1, math.MaxInt} {
			wantNoSeekRun(t, name, l, "k", seq)
		}
		wantNoSeekRun(t, name, l, "", -1)
	}
}

func TestSeekRunTakesRunsAlone(t *testing.T) {
	for fault, l := range badRuns() {
		for _, key := range []string{"\x00", "a", "k", "z", sized(16)} {
			wantNoSeekRun(t, fault, l, key, 0)
			wantNoSeekRun(t, fault, l, key, 1)
			wantNoSeekRun(t, fault, l, key, greatestSeq)
		}
		for _, x := range l {
			wantNoSeekRun(t, fault, l, x.Key, x.Seq)
		}
	}
}
