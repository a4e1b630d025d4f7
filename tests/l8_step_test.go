package tests

import (
	"fmt"
	"math"
	"slices"
	"testing"

	"loop.example/g00224/impl"
)

func endsOf(l []impl.Run) []int {
	var out []int
	for _, r := range l {
		out = append(out, len(r.Items))
	}
	return out
}

func TestStepsByHand(t *testing.T) {
	l := runsOf(
		[]impl.Item{put("b", 3, ""), put("d", 1, "")},
		[]impl.Item{put("a", 1, ""), put("b", 4, ""), put("b", 3, "")},
		nil,
		[]impl.Item{gone("a", 1), gone("b", 3)},
	)
	for _, c := range []struct {
		at   []int
		want int
	}{
		{[]int{0, 0, 0, 0}, 1}, {[]int{0, 1, 0, 0}, 3}, {[]int{0, 1, 0, 1}, 1}, {[]int{0, 2, 0, 1}, 0}, {[]int{1, 2, 0, 1}, 1}, {[]int{1, 3, 0, 1}, 3},
		{[]int{1, 3, 0, 2}, 0}, {[]int{2, 3, 0, 1}, 3}, {[]int{2, 2, 0, 2}, 1}, {[]int{2, 0, 0, 0}, 1}, {[]int{2, 3, 0, 0}, 3}, {[]int{0, 3, 0, 2}, 0},
	} {
		wantStepTo(t, "by hand", l, c.at, c.want)
	}
	wantNoStepTo(t, "all read", l, []int{2, 3, 0, 2})
}

// Step by step to the end of all runs: each item comes, in order.
func TestStepsThroughAllRuns(t *testing.T) {
	for name, l := range manyMerges() {
		at := make([]int, len(l))
		var got []impl.Item
		for range 400 {
			n, ok := impl.MergeStep(l, at)
			checkMergeStep(t, name, l, at)
			if !ok {
				break
			}
			got = append(got, l[n].Items[at[n]])
			at[n]++
		}
		var all []impl.Item
		for _, r := range l {
			all = append(all, r.Items...)
		}
		// A stable sort leaves those that are the same in the order of their runs.
		if !slices.Equal(got, inOrder(all)) {
			t.Errorf("%s: steps through %s, want %s", name, shown(got), shown(inOrder(all)))
		}
		wantNoStepTo(t, name+", read to the end", l, endsOf(l))
	}
}

// Numbers that no merging comes by: each run is read to wherever.
func TestStepsFromAnywhere(t *testing.T) {
	for name, l := range manyMerges() {
		for seed := range 60 {
			var at []int
			for i, r := range l {
				at = append(at, (seed*(i+3)+i*i+seed/7)%(len(r.Items)+1))
			}
			checkMergeStep(t, name, l, at)
		}
	}
}

func TestStepsOfAllFewItems(t *testing.T) {
	told := threeTold()
	for _, a := range subsets(told[0]) {
		for _, b := range subsets(told[1]) {
			l := runsOf(a, b)
			for i := range len(a) + 1 {
				for j := range len(b) + 1 {
					checkMergeStep(t, "few", l, []int{i, j})
				}
			}
		}
	}
}

func TestTheFirstOfSeveralLeastSteps(t *testing.T) {
	l := alikeRuns(12, 5)
	for i := range l[0].Items {
		at := slices.Repeat([]int{i}, 12)
		wantStepTo(t, "all alike", l, at, 0)
		for first := range 11 {
			at[first] = 5
			wantStepTo(t, fmt.Sprint("read to the end up to ", first), l, at, first+1)
		}
		at[11] = 5
		wantNoStepTo(t, "all read", l, at)
	}
}

func TestStepsOfNoRuns(t *testing.T) {
	wantNoStepTo(t, "no runs", nil, nil)
	wantNoStepTo(t, "no runs, not nil", []impl.Run{}, []int{})
	wantNoStepTo(t, "no runs, a number", nil, []int{0})
	wantNoStepTo(t, "empty runs", make([]impl.Run, 3), []int{0, 0, 0})
	wantNoStepTo(t, "an empty run, beyond it", make([]impl.Run, 1), []int{1})
	wantNoStepTo(t, "an empty run, ahead of it", make([]impl.Run, 1), []int{-1})
}

func TestNumbersOfStepsAreWithinTheirRuns(t *testing.T) {
	for _, many := range []int{1, 2, 5, 12} {
		l := dealt(someItems(60, many), many, many)
		for i, r := range l {
			for _, start := range [][]int{make([]int, many), endsOf(l)} {
				for _, n := range []int{0, 1, len(r.Items) - 1, len(r.Items)} {
					at := slices.Clone(start)
					at[i] = n
					checkMergeStep(t, fmt.Sprint(many, " runs"), l, at)
				}
				for _, n := range []int{math.MinInt, -2, -1, len(r.Items) + 1, len(r.Items) + 2, 400, 401, math.MaxInt} {
					at := slices.Clone(start)
					at[i] = n
					wantNoStepTo(t, fmt.Sprint(many, " runs, number ", i), l, at)
				}
			}
		}
	}
}

func TestAsManyNumbersAsRuns(t *testing.T) {
	for name, l := range manyMerges() {
		at := make([]int, len(l))
		wantNoStepTo(t, name+", one number more", l, append(slices.Clone(at), 0))
		wantNoStepTo(t, name+", twice as many", l, make([]int, 2*len(l)+1))
		if len(l) > 0 {
			wantNoStepTo(t, name+", one number fewer", l, at[1:])
			wantNoStepTo(t, name+", no numbers", l, nil)
		}
	}
}

// A step has neither MergeRuns' limit of runs nor its limit of items together: each run has its own.
func TestStepsOfMoreRunsThanAreMerged(t *testing.T) {
	for _, n := range []int{11, 12, 13, 50} {
		l := dealt(someItems(300, n), n, n)
		checkMergeStep(t, fmt.Sprint(n, " runs"), l, make([]int, n))
		wantNoStepTo(t, fmt.Sprint(n, " runs, all read"), l, endsOf(l))
	}
	l := slices.Repeat(runsOf(someRun(400, 1)), 13)
	at := slices.Repeat([]int{400}, 13)
	at[11], at[12] = 399, 7
	wantStepTo(t, "thirteen full runs", l, at, 12)
	at[11] = 7
	wantStepTo(t, "thirteen full runs, the same", l, at, 11)
	l[0] = impl.Run{Items: someRun(401, 1)}
	wantNoStepTo(t, "one of them too long", l, at)
}
