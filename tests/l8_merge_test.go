package tests

import (
	"fmt"
	"slices"
	"testing"

	"loop.example/g00224/impl"
)

func TestLimitsOfMerging(t *testing.T) {
	if impl.MaxRuns != 12 || impl.MaxMerged != 400 {
		t.Error(impl.MaxRuns, impl.MaxMerged)
	}
}

func TestMergedByHand(t *testing.T) {
	newer := []impl.Item{put("a", 5, "new"), put("a", 1, "old"), gone("c", 7)}
	older := []impl.Item{gone("a", 3), put("b", 2, "x"), put("c", 7, "hidden"), put("c", 6, "y")}
	wantMerged(t, "newer first", runsOf(newer, older), []impl.Item{
		put("a", 5, "new"), gone("a", 3), put("a", 1, "old"), put("b", 2, "x"), gone("c", 7), put("c", 6, "y")})
	wantMerged(t, "older first", runsOf(older, newer), []impl.Item{
		put("a", 5, "new"), gone("a", 3), put("a", 1, "old"), put("b", 2, "x"), put("c", 7, "hidden"), put("c", 6, "y")})
	wantMerged(t, "the third has one more", runsOf(newer, older, []impl.Item{put("a", 5, "?"), put("a", 4, "z")}), []impl.Item{
		put("a", 5, "new"), put("a", 4, "z"), gone("a", 3), put("a", 1, "old"), put("b", 2, "x"), gone("c", 7), put("c", 6, "y")})
}

// Promise 8: all items of all runs and no others, of several that are the same the first run's.
func TestMergedRunsHaveAllItems(t *testing.T) {
	for name, l := range manyMerges() {
		wantMerged(t, name, l, mergedByHand(l))
	}
}

// subsets are all runs of some of these items, each told by a number.
func subsets(l []impl.Item) [][]impl.Item {
	var out [][]impl.Item
	for n := range 1 << len(l) {
		var some []impl.Item
		for i, x := range l {
			if n>>i&1 == 1 {
				some = append(some, x)
			}
		}
		out = append(out, some)
	}
	return out
}

// threeTold are the same four keys and Seqs, told in three ways.
func threeTold() [3][]impl.Item {
	return [3][]impl.Item{
		{put("a", 2, "1"), gone("a", 1), put("b", 2, "1"), put("b", 1, "")},
		{gone("a", 2), put("a", 1, "2"), put("b", 2, "2"), gone("b", 1)},
		{put("a", 2, "3"), put("a", 1, "3"), gone("b", 2), put("b", 1, "3")},
	}
}

func TestMergedRunsOfAllFewItems(t *testing.T) {
	told := threeTold()
	for _, a := range subsets(told[0]) {
		for _, b := range subsets(told[1]) {
			for _, c := range subsets(told[2]) {
				l := runsOf(a, b, c)
				wantMerged(t, "few", l, mergedByHand(l))
			}
		}
	}
}

// merge asks for a merging that has to be made.
func merge(t *testing.T, what string, l ...impl.Run) impl.Run {
	t.Helper()
	r, ok := impl.MergeRuns(l)
	if !ok {
		t.Fatalf("%s: MergeRuns refuses %d runs", what, len(l))
	}
	return r
}

// Promise 8: two by two, the first two first, and in other ways that keep their order.
func TestRunsAreMergedTwoByTwoAsAllAtOnce(t *testing.T) {
	for name, l := range manyMerges() {
		once := merge(t, name, l...)
		fromFirst, fromLast := impl.Run{}, impl.Run{}
		for i := range l {
			fromFirst = merge(t, name, fromFirst, l[i])
			fromLast = merge(t, name, l[len(l)-1-i], fromLast)
		}
		if len(l) > 1 {
			begun := merge(t, name, l[0], l[1])
			for _, r := range l[2:] {
				begun = merge(t, name, begun, r)
			}
			if !sameRun(begun, once) {
				t.Errorf("%s: the first two first: %s, all at once %s", name, shown(begun), shown(once))
			}
		}
		if !sameRun(fromFirst, once) || !sameRun(fromLast, once) {
			t.Errorf("%s: two by two: %s and %s, all at once %s", name, shown(fromFirst), shown(fromLast), shown(once))
		}
		for cut := range l {
			halves := merge(t, name, merge(t, name, l[:cut]...), merge(t, name, l[cut:]...))
			if !sameRun(halves, once) {
				t.Errorf("%s: cut at %d: %s, all at once %s", name, cut, shown(halves), shown(once))
			}
		}
	}
}

func TestARunIsMergedWithItself(t *testing.T) {
	for name, l := range manySeen() {
		wantMerged(t, name, runsOf(l), l)
		wantMerged(t, name+", and none", runsOf(nil, l, nil), l)
		wantMerged(t, name+", three times", runsOf(l, l, l), l)
	}
}

// Keys that fall to none of the runs' ends: the order is by key ahead of Seq.
func TestMergedInTheOrderOfBytes(t *testing.T) {
	wantMerged(t, "bytes", runsOf(
		[]impl.Item{put("\x00", 1, ""), put("a\x00", 9, ""), put("\x7f", 1, "")},
		[]impl.Item{put("a", 0, ""), put("aa", 8, ""), put("\x80", 2, "")},
		[]impl.Item{put("A", 5, ""), put("\xff", 0, "")},
	), []impl.Item{
		put("\x00", 1, ""), put("A", 5, ""), put("a", 0, ""), put("a\x00", 9, ""), put("aa", 8, ""), put("\x7f", 1, ""), put("\x80", 2, ""), put("\xff", 0, "")})
}

func TestHowManyRunsMayBeMerged(t *testing.T) {
	for _, n := range []int{0, 1, 2, 11, 12} {
		what := fmt.Sprint(n, " runs")
		wantMerged(t, what+", empty", make([]impl.Run, n), nil)
		wantMerged(t, what+", alike", alikeRuns(n, 3), mergedByHand(alikeRuns(n, 3)))
		if n > 0 {
			wantMerged(t, what, dealt(someItems(100, n), n, n), someRun(100, n))
		}
	}
	for _, n := range []int{13, 14, 24, 400, 1000} {
		what := fmt.Sprint(n, " runs")
		wantNoMerged(t, what+", empty", make([]impl.Run, n))
		wantNoMerged(t, what+", alike", alikeRuns(n, 1))
		wantNoMerged(t, what, dealt(someItems(100, n), n, n))
	}
}

func TestHowManyItemsMayBeMerged(t *testing.T) {
	for many := 1; many <= 12; many++ {
		what := fmt.Sprint(many, " runs")
		for _, n := range []int{399, 400} {
			wantMerged(t, what, dealt(someItems(n, many), many, many), someRun(n, many))
		}
		for _, n := range []int{401, 402, 800} {
			wantNoMerged(t, what, dealt(someItems(n, many), many, many))
		}
	}
	wantMerged(t, "all but one in the first", runsOf(someRun(400, 1)[:399], someRun(400, 1)[399:]), someRun(400, 1))
	wantMerged(t, "all in the last", runsOf(nil, nil, someRun(400, 1)), someRun(400, 1))
	wantNoMerged(t, "one more in the last", runsOf(someRun(401, 1)[:400], someRun(401, 1)[400:]))
	wantNoMerged(t, "one more in the first", runsOf(someRun(401, 1)[:1], someRun(401, 1)[1:]))
	wantNoMerged(t, "one more, all in the last", runsOf(nil, nil, someRun(401, 1)))
}

// What counts is what comes in, not what is left of it.
func TestItemsThatAreTheSameCountTogether(t *testing.T) {
	wantMerged(t, "200 twice", runsOf(someRun(200, 1), someRun(200, 1)), someRun(200, 1))
	wantNoMerged(t, "200 and 201", runsOf(someRun(201, 1)[:200], someRun(201, 1)))
	wantNoMerged(t, "400 and one of these", runsOf(someRun(400, 1), someRun(400, 1)[7:8]))
	wantNoMerged(t, "400 twice", runsOf(someRun(400, 1), someRun(400, 1)))
	wantNoMerged(t, "400 twelve times", slices.Repeat(runsOf(someRun(400, 1)), 12))
	wantMerged(t, "40 ten times", alikeRuns(10, 40), alikeRuns(1, 40)[0].Items)
	wantNoMerged(t, "40 ten times, and one", append(alikeRuns(10, 40), impl.Run{Items: alikeRuns(1, 40)[0].Items[:1]}))
}

func TestRunsThatAreNotGoodAreNotMerged(t *testing.T) {
	for fault, l := range badRuns() {
		wantNoRun(t, fault, l)
	}
}

// A run by itself may have no more than all together.
func TestRunsThatAreTooLong(t *testing.T) {
	wantNoRun(t, "one more", someRun(401, 1))
	wantNoRun(t, "one more, all of one key", inOrder(oneKey(401)))
	wantNoRun(t, "many more", someRun(2000, 1))
}

// Two lists that would be a run together are two runs, and one that is none stays none.
func TestMergingMendsNoRun(t *testing.T) {
	l := someRun(10, 3)
	broken := slices.Concat(l[5:], l[:5])
	wantNoMerged(t, "broken", runsOf(broken))
	wantNoMerged(t, "broken, and whole", runsOf(l, broken))
	wantNoMerged(t, "broken, behind twelve", append(make([]impl.Run, 11), impl.Run{Items: broken}))
	wantMerged(t, "in two", runsOf(l[5:], l[:5]), l)
}
