package tests

import (
	"math"
	"testing"

	"loop.example/g00224/impl"
)

// lookedByHand counts by sets: what is looked at on a level are those between the last that the level above went to and the first that is not less.
func lookedByHand(l []impl.Item, what impl.Item) int {
	looked := 0
	from := 0
	for level := 4; level >= 0; level-- {
		less := 0
		on := onLevel(l, level)
		for _, x := range on {
			if lessByHand(x, what) {
				less++
			}
		}
		// What the level above went to stands on this level too.
		looked += less - from
		if less < len(on) {
			looked++
		}
		if level > 0 {
			from = countLess(onLevel(l, level-1), on, less)
		}
	}
	return looked
}

// countLess tells how many of a level are not behind the last of the first n of the level above.
func countLess(below []impl.Item, above []impl.Item, n int) int {
	many := 0
	for _, x := range below {
		if n > 0 && !lessByHand(above[n-1], x) {
			many++
		}
	}
	return many
}

func seekByHand(l []impl.Item, what impl.Item) (impl.Item, bool) {
	for _, x := range inOrder(l) {
		if !lessByHand(x, what) {
			return x, true
		}
	}
	return impl.Item{}, false
}

// checkSeek holds SeekSkip and FindSkip against the plain list.
func checkSeek(t *testing.T, name string, s impl.Skip, key string, seq int) {
	t.Helper()
	l := itemsIn(s)
	what := gone(key, seq)
	x, there := seekByHand(l, what)
	if !there {
		wantNoSeek(t, name, s, key, seq)
		wantNoFind(t, name, s, key, seq)
		return
	}
	wantSeek(t, name, s, key, seq, x, lookedByHand(l, what))
	if x.Key == key {
		wantFind(t, name, s, key, seq, x)
	} else {
		wantNoFind(t, name, s, key, seq)
	}
}

// fiveTowers are a (3 high), c (1), e (5), g (2) and i (3), put in another order, and what they have as Seqs.
func fiveTowers() (impl.Skip, map[string]impl.Item) {
	named := map[string]impl.Item{"a": towerItem("a", 3, 1), "c": towerItem("c", 1, 1), "e": towerItem("e", 5, 1), "g": towerItem("g", 2, 1), "i": towerItem("i", 3, 1)}
	return skipByHand(named["g"], named["a"], named["i"], named["e"], named["c"]), named
}

// The counts are those of the document's words, gone through on paper: levels 4 and 3 have e; level 2 a, e, i; level 1 a, e, g, i; level 0 all.
func TestHowManyAreLookedAt(t *testing.T) {
	s, named := fiveTowers()
	for _, c := range []struct {
		key    string
		found  string
		looked int
	}{
		{"A", "a", 5},  // e; e; a; a; a
		{"b", "c", 6},  // e; e; a, e; e; c
		{"c", "c", 6},  // e; e; a, e; e; c
		{"d", "e", 7},  // e; e; a, e; e; c, e
		{"f", "g", 4},  // e; -; i; g; g
		{"g", "g", 4},  // e; -; i; g; g
		{"h", "i", 5},  // e; -; i; g, i; i
		{"i", "i", 5},  // e; -; i; g, i; i
		{"a", "a", 5},  // e; e; a; a; a
		{"e", "e", 7},  // e; e; a, e; e; c, e
		{"gg", "i", 5}, // e; -; i; g, i; i
	} {
		seq := named[c.found].Seq
		wantSeek(t, "five towers", s, c.key, seq, named[c.found], c.looked)
		if got := lookedByHand(itemsIn(s), gone(c.key, seq)); got != c.looked {
			t.Errorf("the count of %q by sets is %d, want %d", c.key, got, c.looked)
		}
	}
	wantNoSeek(t, "five towers", s, "j", 0)
	wantNoSeek(t, "five towers", s, "i", named["i"].Seq-1)
}

func TestSeekAndFindEverywhere(t *testing.T) {
	for name, s := range manySkips() {
		for _, x := range itemsIn(s) {
			checkSeek(t, name, s, x.Key, x.Seq)
			checkSeek(t, name, s, x.Key, 0)
			checkSeek(t, name, s, x.Key, greatestSeq)
			if x.Seq > 0 {
				checkSeek(t, name, s, x.Key, x.Seq-1)
			}
			if x.Seq < greatestSeq {
				checkSeek(t, name, s, x.Key, x.Seq+1)
			}
			if len(x.Key) < 16 {
				checkSeek(t, name, s, x.Key+"\x00", x.Seq)
				checkSeek(t, name, s, x.Key+"\x00", greatestSeq)
			}
			if len(x.Key) > 1 {
				checkSeek(t, name, s, x.Key[:len(x.Key)-1], x.Seq)
			}
		}
		for b := range 256 {
			checkSeek(t, name, s, string([]byte{byte(b)}), b)
		}
	}
}

func TestSeekInListsThatWereInserted(t *testing.T) {
	s := impl.NewSkip()
	for i, x := range someItems(60, 17) {
		s, _ = impl.InsertSkip(s, x)
		checkSeek(t, "growing", s, x.Key, x.Seq)
		checkSeek(t, "growing", s, mixed(1+i%16, i*3), x.Seq)
		checkSeek(t, "growing", s, "\x00", greatestSeq)
		checkSeek(t, "growing", s, repeated(0xff, 16), 0)
	}
}

// A tall list costs less than going through all of it.
func TestTowersAreJumpedOver(t *testing.T) {
	l := inOrder(someItems(60, 6))
	s := skipByHand(l...)
	least := 60
	for i, x := range l {
		_, looked, _ := impl.SeekSkip(s, x.Key, x.Seq)
		if i >= 50 {
			least = min(least, looked)
		}
	}
	if least > 30 {
		t.Errorf("of the last ten none is found with fewer than %d looked at", least)
	}
}

func TestOfSeveralOfAKeyTheGreatestSeqThatIsAtMostThatIsFound(t *testing.T) {
	l := []impl.Item{put("b", 5, "five"), put("b", 9, "nine"), gone("b", 7), put("a", 6, "a"), put("c", 6, "c"), put("bb", 1, "bb"), put("b", 20, "twenty")}
	s := skipByHand(l...)
	for seq, want := range map[int]impl.Item{5: l[0], 6: l[0], 7: l[2], 8: l[2], 9: l[1], 10: l[1], 19: l[1], 20: l[6], 21: l[6], greatestSeq: l[6]} {
		wantFind(t, "several", s, "b", seq, want)
	}
	for seq := range 5 {
		wantNoFind(t, "all are greater", s, "b", seq)
		wantSeek(t, "all are greater", s, "b", seq, l[5], lookedByHand(l, gone("b", seq)))
	}
	for _, key := range []string{"aa", "ab", "b\x00", "ba", "d", "B", "\xff"} {
		wantNoFind(t, "not there", s, key, greatestSeq)
		wantNoFind(t, "not there", s, key, 6)
	}
	wantFind(t, "the least Seq", skipByHand(put("k", 0, "v")), "k", 0, put("k", 0, "v"))
	wantFind(t, "the greatest Seq", skipByHand(put("k", greatestSeq, "v")), "k", greatestSeq, put("k", greatestSeq, "v"))
	wantNoFind(t, "the greatest Seq", skipByHand(put("k", greatestSeq, "v")), "k", greatestSeq-1)
}

func TestSeekInAListOfNoItems(t *testing.T) {
	for _, seq := range []int{0, 1, greatestSeq} {
		wantNoSeek(t, "new", impl.NewSkip(), "a", seq)
		wantNoFind(t, "new", impl.NewSkip(), "a", seq)
	}
}

func TestSeekTakesKeysAndSeqsAlone(t *testing.T) {
	for name, s := range manySkips() {
		for _, key := range []string{"", sized(17), repeated(0, 17), sized(5000)} {
			for _, seq := range []int{-1, 0, 1, greatestSeq, greatestSeq + 1} {
				wantNoSeek(t, name, s, key, seq)
				wantNoFind(t, name, s, key, seq)
			}
		}
		for _, seq := range []int{math.MinInt, -1, greatestSeq + 1, math.MaxInt} {
			wantNoSeek(t, name, s, "\x00", seq)
			wantNoFind(t, name, s, "\x00", seq)
			for _, x := range itemsIn(s) {
				wantNoSeek(t, name, s, x.Key, seq)
				wantNoFind(t, name, s, x.Key, seq)
			}
		}
	}
}
