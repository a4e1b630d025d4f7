package tests

import (
	"fmt"
	"math"
	"slices"
	"testing"

	"loop.example/g00224/impl"
)

// wantBoth asks the document's words, as they are followed by hand, for the same as was worked out here.
func wantBoth(t *testing.T, what string, k kept, level int, seq int, want kept) {
	t.Helper()
	hand, ok := k.compacted(level, seq)
	if !ok || !sameEngine(hand.engine(), want.engine()) {
		t.Errorf("%s: by hand %s %v, want %s", what, briefly(hand.engine()), ok, briefly(want.engine()))
	}
	wantCompacted(t, what, k, level, seq, want)
}

func wantNeither(t *testing.T, what string, k kept, level int, seq int) {
	t.Helper()
	if _, ok := k.compacted(level, seq); ok {
		t.Errorf("%s: by hand something", what)
	}
	if !isEngineByHand(k.engine()) {
		t.Errorf("%s: the engine is none", what)
	}
	wantNotCompacted(t, what, k, level, seq)
}

// onEachLevel has one table on each level, no two of which have a key in common.
func onEachLevel() kept {
	return keptIn(9, 7, held(1, 0, put("a", 4, "4")), held(2, 1, put("b", 3, "3")), held(4, 2, put("c", 2, "2")), held(6, 3, put("d", 1, "1"))).withMem(put("e", 5, "5"))
}

func TestLevelsThatAreCompacted(t *testing.T) {
	k := onEachLevel()
	f := k.files
	mem := k.mem
	wantBoth(t, "level 0", k, 0, 9, keptIn(9, 8, f[1], f[2], f[3], held(7, 1, put("a", 4, "4"))).withMem(mem...))
	wantBoth(t, "level 1", k, 1, 9, keptIn(9, 8, f[0], f[2], f[3], held(7, 2, put("b", 3, "3"))).withMem(mem...))
	wantBoth(t, "level 2", k, 2, 9, keptIn(9, 8, f[0], f[1], f[3], held(7, 3, put("c", 2, "2"))).withMem(mem...))
	for _, level := range []int{math.MinInt, -2, -1, 3, 4, 5, math.MaxInt} {
		for _, seq := range []int{-1, 0, 5, 9, 10} {
			wantNeither(t, "no such level", k, level, seq)
		}
	}
}

func TestSeqsThatAreCompactedAt(t *testing.T) {
	k := onEachLevel()
	for level := range 3 {
		for _, seq := range []int{math.MinInt, -2, -1, 10, 11, greatestSeq, greatestSeq + 1, math.MaxInt} {
			wantNeither(t, "no such Seq", k, level, seq)
		}
		want, _ := k.compacted(level, 9)
		for seq := range 10 {
			wantBoth(t, "each Seq", k, level, seq, want)
		}
	}
}

func TestLevelsWithoutTables(t *testing.T) {
	for level := range 3 {
		wantNeither(t, "new", newKept(), level, 0)
		wantNeither(t, "Mem alone", keptIn(9, 1).withMem(put("k", 1, "v")), level, 9)
		for other := range 4 {
			if other != level {
				wantNeither(t, fmt.Sprint("only level ", other), keptIn(9, 4, held(1, other, put("k", 1, "v")), held(2, other, put("m", 1, "v"))), level, 9)
			}
		}
	}
}

func TestAllOfLevelZeroGoes(t *testing.T) {
	first := held(2, 0, put("a", 1, "a1"), put("m", 2, "m2"))
	second := held(3, 0, put("b", 4, "b4"), put("m", 5, "m5"))
	third := held(7, 0, gone("a", 6), put("z", 7, "z7"))
	k := keptIn(9, 8, first, second, third)
	wantBoth(t, "on top of each other", k, 0, 9, keptIn(9, 9, held(8, 1, put("b", 4, "b4"), put("m", 5, "m5"), put("z", 7, "z7"))))
	wantBoth(t, "on top of each other, at 5", k, 0, 5, keptIn(9, 9, held(8, 1, gone("a", 6), put("a", 1, "a1"), put("b", 4, "b4"), put("m", 5, "m5"), put("z", 7, "z7"))))
	wantBoth(t, "on top of each other, at 0", k, 0, 0, keptIn(9, 9, held(8, 1, gone("a", 6), put("a", 1, "a1"), put("b", 4, "b4"), put("m", 5, "m5"), put("m", 2, "m2"), put("z", 7, "z7"))))
	apart := keptIn(9, 8, held(2, 0, put("x", 1, "x")), held(3, 0, put("b", 2, "b")))
	wantBoth(t, "apart", apart, 0, 9, keptIn(9, 9, held(8, 1, put("b", 2, "b"), put("x", 1, "x"))))
	alike := keptIn(9, 8, held(2, 0, put("k", 1, "1")), held(3, 0, put("k", 3, "3")), held(4, 0, put("k", 2, "2")))
	wantBoth(t, "one key", alike, 0, 9, keptIn(9, 9, held(8, 1, put("k", 3, "3"))))
	wantBoth(t, "one key, at 2", alike, 0, 2, keptIn(9, 9, held(8, 1, put("k", 3, "3"), put("k", 2, "2"))))
}

func TestOnlyTheFirstOfAnotherLevelGoes(t *testing.T) {
	for level := 1; level <= 2; level++ {
		first := held(2, level, put("m", 1, "m1"), put("p", 2, "p2"))
		second := held(3, level, put("a", 3, "a3"), put("c", 4, "c4"))
		third := held(5, level, put("x", 5, "x5"))
		k := keptIn(9, 6, first, second, third)
		wantBoth(t, "the first by number", k, level, 9, keptIn(9, 7, second, third, held(6, level+1, first.items...)))
		k, _ = k.compacted(level, 9)
		wantBoth(t, "then the second", k, level, 9, keptIn(9, 8, third, held(6, level+1, first.items...), held(7, level+1, second.items...)))
		k, _ = k.compacted(level, 9)
		wantBoth(t, "then the third", k, level, 9, keptIn(9, 9, held(6, level+1, first.items...), held(7, level+1, second.items...), held(8, level+1, third.items...)))
		k, _ = k.compacted(level, 9)
		wantNeither(t, "then none", k, level, 9)
	}
}

func TestTablesOfTheNextLevelThatGo(t *testing.T) {
	for level := range 3 {
		own := held(5, level, put("g", 6, "g6"), put("m", 7, "m7"))
		below := func(number int, keys ...string) keptFile {
			var l []impl.Item
			for i, key := range keys {
				l = append(l, put(key, 1+i, key))
			}
			return held(number, level+1, l...)
		}
		merged := func(l ...keptFile) keptFile {
			var items []impl.Item
			for _, f := range append(l, own) {
				items = append(items, f.items...)
			}
			return held(9, level+1, items...)
		}
		for what, c := range map[string]struct{ taken, stay []keptFile }{
			"none":                      {},
			"side by side":              {nil, []keptFile{below(1, "a", "f"), below(6, "n", "z")}},
			"side by side, by a nought": {nil, []keptFile{below(1, "a", "f\xff"), below(6, "m\x00")}},
			"between":                   {[]keptFile{below(6, "h", "i")}, []keptFile{below(1, "a", "b"), below(8, "z")}},
			"two between":               {[]keptFile{below(1, "k"), below(6, "h", "i")}, []keptFile{below(2, "a")}},
			"around":                    {[]keptFile{below(6, "a", "z")}, nil},
			"across both ends":          {[]keptFile{below(6, "a", "h"), below(8, "l", "z")}, nil},
		} {
			k := keptIn(9, 9).with(slices.Concat(c.taken, c.stay)...).with(own)
			slices.SortFunc(k.files, func(a keptFile, b keptFile) int { return a.number - b.number })
			want := keptIn(9, 10).with(c.stay...)
			slices.SortFunc(want.files, func(a keptFile, b keptFile) int { return a.number - b.number })
			wantBoth(t, fmt.Sprint(what, ", level ", level), k, level, 9, want.with(merged(c.taken...)))
			if !slices.Equal(k.inputs(level)[1:], numbersOfFiles(c.taken)) {
				t.Errorf("%s: the inputs by hand are %v", what, k.inputs(level))
			}
		}
	}
}

func numbersOfFiles(l []keptFile) []int {
	var out []int
	for _, f := range l {
		out = append(out, f.number)
	}
	slices.Sort(out)
	return out
}

func TestTablesThatHaveOneKeyInCommonGo(t *testing.T) {
	for level := range 3 {
		own := held(5, level, put("g", 6, "g6"), put("m", 7, "m7"))
		atLeast := held(2, level+1, put("c", 1, "c1"), put("g", 1, "g1"))
		atMost := held(3, level+1, put("m", 1, "m1"), put("q", 1, "q1"))
		beyond := held(4, level+1, put("r", 1, "r1"))
		k := keptIn(9, 9, atLeast, atMost, beyond, own)
		wantBoth(t, "at the ends", k, level, 9, keptIn(9, 10, beyond, held(9, level+1, put("c", 1, "c1"), put("g", 6, "g6"), put("m", 7, "m7"), put("q", 1, "q1"))))
		wantBoth(t, "at the ends, at 3", k, level, 3, keptIn(9, 10, beyond, held(9, level+1, put("c", 1, "c1"), put("g", 6, "g6"), put("g", 1, "g1"), put("m", 7, "m7"), put("m", 1, "m1"), put("q", 1, "q1"))))
	}
}

// The range of level 0 is one, from the least of all its tables to the greatest: what lies in its gaps goes too.
func TestTheGapsOfLevelZero(t *testing.T) {
	gap := held(1, 1, put("k", 1, "k"))
	out := held(2, 1, put("z", 1, "z"))
	k := keptIn(9, 9, gap, out, held(4, 0, put("x", 2, "x"), put("y", 2, "y")), held(6, 0, put("b", 3, "b")))
	wantBoth(t, "a gap", k, 0, 9, keptIn(9, 10, out, held(9, 1, put("b", 3, "b"), put("k", 1, "k"), put("x", 2, "x"), put("y", 2, "y"))))
}

// Tables of other levels than the two stay, whatever keys they have.
func TestOtherLevelsStay(t *testing.T) {
	files := []keptFile{held(1, 0, put("a", 8, "x"), put("z", 8, "x")), held(2, 1, put("a", 6, "x"), put("z", 6, "x")), held(3, 2, put("a", 4, "x"), put("z", 4, "x")), held(4, 3, put("a", 2, "x"), put("z", 2, "x"))}
	k := keptIn(9, 5, files...).withMem(put("m", 9, "x"))
	wantBoth(t, "level 0", k, 0, 9, keptIn(9, 6, files[2], files[3], held(5, 1, files[0].items...)).withMem(k.mem...))
	wantBoth(t, "level 1", k, 1, 9, keptIn(9, 6, files[0], files[3], held(5, 2, files[1].items...)).withMem(k.mem...))
	wantBoth(t, "level 2", k, 2, 9, keptIn(9, 6, files[0], files[1], held(5, 3, files[2].items...)).withMem(k.mem...))
}

func TestDeletionsThatGo(t *testing.T) {
	kept9 := func(files ...keptFile) kept { return keptIn(9, 7, files...) }
	for level := range 3 {
		del := held(5, level, gone("k", 6))
		wantBoth(t, "alone", kept9(del), level, 6, keptIn(9, 7))
		wantBoth(t, "alone, at a later Seq", kept9(del), level, 9, keptIn(9, 7))
		wantBoth(t, "what is older goes with it", kept9(held(4, level+1, put("k", 3, "x")), del), level, 6, keptIn(9, 7))
		wantBoth(t, "what is older is in its table", kept9(held(5, level, gone("k", 6), put("k", 3, "x"), gone("k", 1))), level, 8, keptIn(9, 7))
		wantBoth(t, "in the next level's table", kept9(held(4, level+1, gone("a", 3), put("k", 2, "x")), held(5, level, put("k", 6, "y"))), level, 9, keptIn(9, 8, held(7, level+1, put("k", 6, "y"))))
		wantBoth(t, "what is newer stays", kept9(held(5, level, put("k", 8, "y"), gone("k", 6), put("k", 3, "x"))), level, 7, keptIn(9, 8, held(7, level+1, put("k", 8, "y"))))
		wantBoth(t, "what is newer is in Mem", kept9(del).withMem(put("k", 7, "y")), level, 9, keptIn(9, 7).withMem(put("k", 7, "y")))
		wantBoth(t, "what is older has another key", kept9(del).withMem(put("kk", 1, "y"), put("j", 1, "y"), put("K", 1, "y")), level, 9, keptIn(9, 7).withMem(put("kk", 1, "y"), put("j", 1, "y"), put("K", 1, "y")))
		wantBoth(t, "of Seq 0", kept9(held(5, level, gone("k", 0), put("m", 2, "x"))).withMem(put("k", 1, "y")), level, 0, keptIn(9, 8, held(7, level+1, put("m", 2, "x"))).withMem(put("k", 1, "y")))
		for other := range 4 {
			if other != level && other != level+1 {
				newer := held(6, other, put("k", 7, "y"))
				wantBoth(t, fmt.Sprint("what is newer is on level ", other), kept9(del, newer), level, 9, keptIn(9, 7, newer))
			}
		}
	}
	same := kept9(held(4, 0, put("k", 3, "x")), held(5, 0, gone("k", 6)))
	wantBoth(t, "what is older is in another table of level 0", same, 0, 6, keptIn(9, 7))
	wantBoth(t, "also turned", kept9(held(4, 0, gone("k", 6)), held(5, 0, put("k", 3, "x"))), 0, 6, keptIn(9, 7))
}

func TestDeletionsThatStay(t *testing.T) {
	for level := range 3 {
		del := held(5, level, gone("k", 6))
		after := held(7, level+1, gone("k", 6))
		k := keptIn(9, 7, del)
		for _, older := range []impl.Item{put("k", 5, "x"), put("k", 0, "x"), gone("k", 3)} {
			wantBoth(t, "what is older is in Mem", k.withMem(put("a", 1, "a"), older), level, 6, keptIn(9, 8, after).withMem(put("a", 1, "a"), older))
			wantBoth(t, "what is older and what is newer is in Mem", k.withMem(put("k", 8, "y"), older), level, 6, keptIn(9, 8, after).withMem(put("k", 8, "y"), older))
			for other := range 4 {
				if other == level || other == level+1 {
					continue
				}
				alone := held(4, other, older)
				wantBoth(t, fmt.Sprint("what is older is on level ", other), keptIn(9, 7, alone, del), level, 6, keptIn(9, 8, alone, after))
				among := held(4, other, put("a", 1, "a"), put("k", 8, "y"), older, put("z", 1, "z"))
				wantBoth(t, fmt.Sprint("what is older is among others on level ", other), keptIn(9, 7, among, del), level, 9, keptIn(9, 8, among, after))
			}
		}
		wantBoth(t, "its Seq is above", k, level, 5, keptIn(9, 8, after))
		wantBoth(t, "its Seq is above, at 0", k, level, 0, keptIn(9, 8, after))
		both := keptIn(9, 7, held(5, level, gone("k", 6), put("k", 3, "x")))
		wantBoth(t, "its Seq is above, with what is older", both, level, 5, keptIn(9, 8, held(7, level+1, gone("k", 6), put("k", 3, "x"))))
		two := keptIn(9, 7, held(5, level, gone("k", 6), gone("k", 4), put("k", 3, "x")))
		wantBoth(t, "the one goes, the other stays", two, level, 5, keptIn(9, 8, held(7, level+1, gone("k", 6))))
		wantBoth(t, "both go", two, level, 6, keptIn(9, 7))
		wantBoth(t, "neither goes", two.withMem(put("k", 2, "w")), level, 5, keptIn(9, 8, held(7, level+1, gone("k", 6), gone("k", 4))).withMem(put("k", 2, "w")))
	}
}

// A table of the next level that is no input has no key of one that is, so what is older lies in an input there, or elsewhere.
func TestDeletionsBesideOtherTablesOfTheirLevels(t *testing.T) {
	for level := 1; level <= 2; level++ {
		own := held(1, level, gone("k", 6), put("l", 6, "l"))
		beside := held(2, level, put("j", 1, "x"))
		below := held(3, level+1, put("m", 1, "x"))
		k := keptIn(9, 7, own, beside, below)
		wantBoth(t, "beside", k, level, 9, keptIn(9, 8, beside, below, held(7, level+1, put("l", 6, "l"))))
		wantBoth(t, "beside, with what is older", k.withMem(put("k", 5, "x")), level, 9, keptIn(9, 8, beside, below, held(7, level+1, own.items...)).withMem(put("k", 5, "x")))
	}
}

func TestNothingIsLeft(t *testing.T) {
	k := keptIn(9, greatestNext, held(4, 0, gone("a", 1), gone("b", 2)), held(6, 0, gone("a", 3)), held(7, 1, put("b", 1, "x")))
	wantBoth(t, "all go", k, 0, 9, keptIn(9, greatestNext))
	wantBoth(t, "all go, Mem stays", k.withMem(put("c", 9, "c")), 0, 9, keptIn(9, greatestNext).withMem(put("c", 9, "c")))
	wantNeither(t, "then none", keptIn(9, greatestNext), 0, 9)
}

// sizesOf are how many items each table has that a compaction leaves.
func sizesOf(t *testing.T, k kept, level int, seq int) []int {
	t.Helper()
	e, ok := impl.CompactEngine(k.engine(), level, seq)
	if !ok {
		return nil
	}
	var out []int
	for i, s := range e.Tables {
		l, _ := impl.ReadTable(s.Data)
		if e.Version.Metas[i].Level == level+1 {
			out = append(out, len(l))
		}
	}
	return out
}

func TestCutsOfUnlikeKeys(t *testing.T) {
	for n, want := range map[int][]int{1: {1}, 23: {23}, 24: {24}, 25: {24, 1}, 47: {24, 23}, 48: {24, 24}, 49: {24, 24, 1}, 72: {24, 24, 24}, 119: {24, 24, 24, 24, 23}, 120: {24, 24, 24, 24, 24}} {
		for level := range 3 {
			k := keptIn(9, 4, held(2, level, rowOfItems(n, 5)...))
			if got := sizesOf(t, k, level, 9); !slices.Equal(got, want) {
				t.Errorf("%d items: tables of %v, want %v", n, got, want)
			}
			checkCompacted(t, "unlike keys", k, level, 9)
		}
	}
	two := keptIn(9, 4, held(2, 1, rowOfItems(120, 5)...), held(3, 2, rowOfItems(120, 4)...))
	if got := sizesOf(t, two, 1, 4); !slices.Equal(got, slices.Repeat([]int{24}, 10)) {
		t.Errorf("120 keys of two items each: tables of %v", got)
	}
	if got := sizesOf(t, two, 1, 5); !slices.Equal(got, slices.Repeat([]int{24}, 5)) {
		t.Errorf("120 keys of two items each, one of which goes: tables of %v", got)
	}
}

func TestTheNumbersOfCuts(t *testing.T) {
	k := keptIn(9, 40, held(2, 0, rowOfItems(60, 5)...), held(3, 3, put("a", 1, "x")), held(7, 0, put("r000", 1, "x")))
	l := rowOfItems(60, 5)
	wantBoth(t, "from Next on", k, 0, 9, keptIn(9, 43, held(3, 3, put("a", 1, "x")), held(40, 1, l[:24]...), held(41, 1, l[24:48]...), held(42, 1, l[48:]...)))
}

// Where many items have one key a table has more than MaxOut.
func TestCutsOfItemsOfOneKey(t *testing.T) {
	row := func(parts ...any) []impl.Item {
		var l []impl.Item
		for i := 0; i < len(parts); i += 2 {
			l = append(l, seqsOfKey(parts[i].(string), parts[i+1].(int), 1)...)
		}
		return l
	}
	single := func(n int) []impl.Item { return rowOfItems(n, 1) }
	for what, c := range map[string]struct {
		items []impl.Item
		want  []int
	}{
		"24 of one":                  {row("k", 24), []int{24}},
		"25 of one":                  {row("k", 25), []int{25}},
		"60 of one":                  {row("k", 60), []int{60}},
		"120 of one":                 {row("k", 120), []int{120}},
		"24 of one, 1 behind":        {row("k", 24, "z", 1), []int{24, 1}},
		"23 of one, 1 behind":        {row("k", 23, "z", 1), []int{24}},
		"23 of one, 2 behind":        {row("k", 23, "z", 2), []int{25}},
		"23 of one, 30 behind":       {row("k", 23, "z", 30), []int{53}},
		"24 of one, 30 behind":       {row("k", 24, "z", 30), []int{24, 30}},
		"25 of one, 30 behind":       {row("k", 25, "z", 30), []int{25, 30}},
		"23 of one, 30, 1":           {row("k", 23, "m", 30, "z", 1), []int{53, 1}},
		"40, 40, 40":                 {row("k", 40, "m", 40, "z", 40), []int{40, 40, 40}},
		"twos":                       {row("a", 2, "b", 2, "c", 2, "d", 2, "e", 2, "f", 2, "g", 2, "h", 2, "i", 2, "j", 2, "k", 2, "l", 2, "m", 2, "n", 2), []int{24, 4}},
		"23 unlike, 2 of one":        {append(single(23), row("z", 2)...), []int{25}},
		"23 unlike, 2 of one, 1":     {append(single(23), row("y", 2, "z", 1)...), []int{25, 1}},
		"24 unlike, 2 of one":        {append(single(24), row("z", 2)...), []int{24, 2}},
		"23 unlike, 97 of one":       {append(single(23), row("z", 97)...), []int{120}},
		"47 unlike, 73 of one":       {append(single(47), row("z", 73)...), []int{24, 96}},
		"2 of one, 24 unlike behind": {append(row("a", 2), single(24)...), []int{24, 2}},
	} {
		for level := range 3 {
			k := keptIn(200, 4, held(2, level, c.items...))
			if got := sizesOf(t, k, level, 0); !slices.Equal(got, c.want) {
				t.Errorf("%s: tables of %v, want %v", what, got, c.want)
			}
			checkCompacted(t, what, k, level, 0)
			checkCompacted(t, what, k, level, 10)
			checkCompacted(t, what, k, level, 200)
		}
	}
}

func TestNoTableHasMoreThanMaxTableItems(t *testing.T) {
	for level := range 3 {
		for _, n := range []int{1, 2, 60, 120} {
			k := keptIn(300, 4, held(2, level, seqsOfKey("k", 120, 1)...), held(3, level+1, seqsOfKey("k", n, 121)...))
			wantNeither(t, fmt.Sprint("120 and ", n, " of one key"), k, level, 0)
			wantNeither(t, fmt.Sprint("120 and ", n, " of one key, none goes"), k, level, 1)
			wantBoth(t, "just so many are left", k, level, n+1, keptIn(300, 5, held(4, level+1, seqsOfKey("k", 120, n+1)...)))
			wantBoth(t, "one is left", k, level, 300, keptIn(300, 5, held(4, level+1, seqsOfKey("k", 1, 120+n)...)))
		}
		wantBoth(t, "119 and 1", keptIn(300, 4, held(2, level, seqsOfKey("k", 119, 1)...), held(3, level+1, seqsOfKey("k", 1, 120)...)), level, 0, keptIn(300, 5, held(4, level+1, seqsOfKey("k", 120, 1)...)))
		k := keptIn(300, 4, held(2, level, append(rowOfItems(23, 1), seqsOfKey("z", 97, 1)...)...), held(3, level+1, put("z", 200, "x")))
		wantNeither(t, "23 of others and 98", k, level, 0)
		k = keptIn(300, 4, held(2, level, append(rowOfItems(24, 1), seqsOfKey("z", 96, 1)...)...), held(3, level+1, seqsOfKey("z", 24, 101)...))
		wantBoth(t, "24 of others and 120", k, level, 0, keptIn(300, 6, held(4, level+1, rowOfItems(24, 1)...), held(5, level+1, append(seqsOfKey("z", 96, 1), seqsOfKey("z", 24, 101)...)...)))
	}
}

func TestNextOfACompaction(t *testing.T) {
	for level := range 3 {
		one := held(2, level, rowOfItems(24, 1)...)
		two := held(2, level, rowOfItems(25, 1)...)
		l := rowOfItems(25, 1)
		wantBoth(t, "one number is left", keptIn(9, 100000, one), level, 9, keptIn(9, 100001, held(100000, level+1, l[:24]...)))
		wantNeither(t, "none is left", keptIn(9, 100001, one), level, 9)
		wantBoth(t, "two are left", keptIn(9, 99999, two), level, 9, keptIn(9, 100001, held(99999, level+1, l[:24]...), held(100000, level+1, l[24])))
		wantNeither(t, "one is left for two", keptIn(9, 100000, two), level, 9)
		wantNeither(t, "none is left for two", keptIn(9, 100001, two), level, 9)
		wantBoth(t, "none is left and none is needed", keptIn(9, 100001, held(2, level, gone("k", 1))), level, 9, keptIn(9, 100001))
	}
}

func TestHowManyMetasACompactionMayLeave(t *testing.T) {
	for level := range 3 {
		for others := 26; others <= 29; others++ {
			for _, n := range []int{1, 24, 25, 48, 49, 72, 73} {
				files := rowOfFiles(others, 2, 3-level%2)
				own := held(1, level, rowOfItems(n, 1)...)
				k := keptIn(9, 60, own).with(files...)
				made := (n + 23) / 24
				if !isEngineByHand(k.engine()) {
					continue
				}
				if checkCompacted(t, "many metas", k, level, 9) != (others+made <= 30) {
					t.Errorf("%d metas and %d new ones: by hand %v", others, made, others+made > 30)
				}
			}
		}
	}
	full := keptIn(9, 60, append(rowOfFiles(29, 2, 3), held(40, 0, rowOfItems(25, 1)...))...)
	wantNeither(t, "31 metas", full, 0, 9)
	wantBoth(t, "30 metas", keptIn(9, 60, append(rowOfFiles(29, 2, 3), held(40, 0, rowOfItems(24, 1)...))...), 0, 9, keptIn(9, 61, append(rowOfFiles(29, 2, 3), held(60, 1, rowOfItems(24, 1)...))...))
}

// More inputs than MergeRuns takes are merged too.
func TestManyInputs(t *testing.T) {
	for _, n := range []int{11, 12, 13, 14, 29, 30} {
		var files []keptFile
		var last []impl.Item
		for i := range n {
			files = append(files, held(i+1, 0, rowOfItems(13, i)...))
			last = rowOfItems(13, i)
		}
		k := keptIn(50, n+1, files...)
		wantBoth(t, fmt.Sprint(n, " inputs"), k, 0, 50, keptIn(50, n+2, held(n+1, 1, last...)))
		checkCompacted(t, "many inputs, at 0", k, 0, 0)
		checkCompacted(t, "many inputs, at 5", k, 0, 5)
		side := keptIn(50, n+1, rowOfFiles(n, 1, 0)...)
		checkCompacted(t, "many inputs, apart", side, 0, 50)
		below := keptIn(50, 40, rowOfFiles(n-1, 1, 2)...).with(held(35, 1, put("a", 3, "x"), put("z", 4, "x")))
		checkCompacted(t, "many inputs of the next level", below, 1, 50)
	}
}

func TestManyCompactions(t *testing.T) {
	counts := make(chan bool, 100000)
	t.Run("all", func(t *testing.T) {
		for name, k := range manyKept() {
			t.Run(name, func(t *testing.T) {
				t.Parallel()
				for level := -1; level <= 3; level++ {
					for _, seq := range append(seqsIn(k), -1, k.seq+1) {
						counts <- checkCompacted(t, name, k, level, seq)
					}
				}
			})
		}
	})
	close(counts)
	done := 0
	for ok := range counts {
		if ok {
			done++
		}
	}
	if done < 300 {
		t.Errorf("%d are compacted: too few", done)
	}
}

func TestWhatIsCompactedChangesNothingThatIsSeenFromThereOn(t *testing.T) {
	for seed := range 40 {
		t.Run(fmt.Sprint(seed), func(t *testing.T) {
			t.Parallel()
			k := someKept(8+seed%20, seed)
			before := k.engine()
			for level := range 3 {
				for seq := seed % 3; seq <= k.seq; seq += 1 + k.seq/12 {
					after, ok := impl.CompactEngine(before, level, seq)
					if !ok {
						continue
					}
					var seqs []int
					for later := seq; later <= k.seq; later += 1 + (k.seq-seq)/8 {
						seqs = append(seqs, later)
					}
					wantSeenAlike(t, fmt.Sprintf("level %d at %d", level, seq), before, after, k.all(), append(seqs, k.seq))
				}
			}
		})
	}
}
