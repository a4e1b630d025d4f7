package tests

import (
	"fmt"
	"slices"
	"sort"
	"testing"

	"loop.example/g00224/impl"
)

func runsOf(lists ...[]impl.Item) []impl.Run {
	var out []impl.Run
	for _, l := range lists {
		out = append(out, impl.Run{Items: l})
	}
	return out
}

func sameRun(a impl.Run, b impl.Run) bool {
	return slices.Equal(a.Items, b.Items)
}

// mergedByHand are the items of all runs, of several of one key and Seq the one that comes first.
func mergedByHand(l []impl.Run) []impl.Item {
	var out []impl.Item
	for _, r := range l {
		for _, x := range r.Items {
			there := slices.ContainsFunc(out, func(y impl.Item) bool { return x.Key == y.Key && x.Seq == y.Seq })
			if !there {
				out = append(out, x)
			}
		}
	}
	return inOrder(out)
}

func stepByHand(l []impl.Run, at []int) (int, bool) {
	best, found := 0, false
	for i, r := range l {
		if at[i] == len(r.Items) {
			continue
		}
		if !found || lessByHand(r.Items[at[i]], l[best].Items[at[best]]) {
			best, found = i, true
		}
	}
	return best, found
}

// seenByHand looks through all items, in whatever order they are.
func seenByHand(l []impl.Item, key string, seq int) (impl.Item, bool) {
	var best impl.Item
	found := false
	for _, x := range l {
		if x.Key == key && x.Seq <= seq && (!found || x.Seq > best.Seq) {
			best, found = x, true
		}
	}
	return best, found
}

func pairsByHand(l []impl.Item, from string, to string, seq int) []impl.Pair {
	keys := keysByHand(l)
	sort.Strings(keys)
	var out []impl.Pair
	for _, key := range keys {
		x, found := seenByHand(l, key, seq)
		beyond := to != "" && key >= to
		if found && x.Kind == impl.KindPut && key >= from && !beyond {
			out = append(out, impl.Pair{Key: key, Value: x.Value})
		}
	}
	return out
}

func leftByHand(l []impl.Item, seq int, bottom bool) []impl.Item {
	var out []impl.Item
	for _, x := range l {
		seen, found := seenByHand(l, x.Key, seq)
		stays := found && seen == x
		if bottom && x.Kind == impl.KindDelete {
			stays = false
		}
		if x.Seq > seq || stays {
			out = append(out, x)
		}
	}
	return out
}

func newestByHand(l []impl.Item) int {
	if len(l) == 0 {
		return 0
	}
	return slices.MaxFunc(l, func(a impl.Item, b impl.Item) int { return a.Seq - b.Seq }).Seq
}

// dealt are items dealt out to so many runs.
func dealt(l []impl.Item, many int, seed int) []impl.Run {
	out := make([]impl.Run, many)
	for i, x := range l {
		to := (i*7 + i/many + seed) % many
		out[to].Items = append(out[to].Items, x)
	}
	for i, r := range out {
		out[i].Items = inOrder(r.Items)
	}
	return out
}

// overlaid are so many runs of which some have items of one key and Seq; what is told there is each run's own.
func overlaid(many int, each int, seed int) []impl.Run {
	var out []impl.Run
	for n := range many {
		var l []impl.Item
		for i := range each {
			key, seq := mixed(1+i%3, i%(each/2+1)), (i*3+(n+seed)%3)*10
			if (i+n)%3 == 0 {
				l = append(l, gone(key, seq))
			} else {
				l = append(l, put(key, seq, fmt.Sprint("run ", n)))
			}
		}
		out = append(out, impl.Run{Items: inOrder(l)})
	}
	return out
}

// alikeRuns are so many runs of the same keys and Seqs; the values are each run's own.
func alikeRuns(many int, each int) []impl.Run {
	var out []impl.Run
	for n := range many {
		l := someRun(each, 1)
		for i, x := range l {
			l[i] = put(x.Key, x.Seq, fmt.Sprint("run ", n))
			if (i+n)%2 == 0 {
				l[i] = gone(x.Key, x.Seq)
			}
		}
		out = append(out, impl.Run{Items: l})
	}
	return out
}

// manyMerges are lists of runs that may be merged, of many kinds.
func manyMerges() map[string][]impl.Run {
	l := map[string][]impl.Run{
		"no runs":                nil,
		"no runs, not nil":       {},
		"one empty":              {{}},
		"one empty, not nil":     {{Items: []impl.Item{}}},
		"twelve empty":           make([]impl.Run, 12),
		"one item":               runsOf([]impl.Item{put("a", 1, "x")}),
		"one deleted":            runsOf([]impl.Item{gone("a", 1)}),
		"first empty":            runsOf(nil, evenRun(5, "x")),
		"last empty":             runsOf(evenRun(5, "x"), nil),
		"one behind the other":   runsOf(someRun(40, 1)[:20], someRun(40, 1)[20:]),
		"one ahead of the other": runsOf(someRun(40, 1)[20:], someRun(40, 1)[:20]),
		"edges":                  dealt(edgeItems(), 3, 1),
		"one key":                dealt(oneKey(60), 5, 2),
		"the same twice":         runsOf(someRun(30, 3), someRun(30, 3)),
		"told unlike":            runsOf([]impl.Item{gone("a", 1)}, []impl.Item{put("a", 1, "x")}, []impl.Item{put("a", 1, "y")}),
		"told unlike, turned":    runsOf([]impl.Item{put("a", 1, "y")}, []impl.Item{put("a", 1, "x")}, []impl.Item{gone("a", 1)}),
		"all alike":              alikeRuns(12, 33),
		"full, in one":           runsOf(someRun(400, 4)),
		"full, in two":           runsOf(someRun(399, 4), someRun(1, 4)),
		"full, in twelve":        dealt(someItems(400, 5), 12, 5),
		"full, the same twice":   runsOf(someRun(200, 6), someRun(200, 6)),
	}
	for n := range 12 {
		l[fmt.Sprint("dealt to ", n+1)] = dealt(someItems(20*n+7, n), n+1, n)
		l[fmt.Sprint("overlaid ", n+1)] = overlaid(n+1, 3*n, n)
	}
	return l
}

// manySeen are runs to be looked through, of many kinds.
func manySeen() map[string][]impl.Item {
	l := map[string][]impl.Item{
		"no items":           nil,
		"no items, not nil":  {},
		"one put":            {put("k", 5, "v")},
		"one deleted":        {gone("k", 5)},
		"deleted above":      {gone("k", 7), put("k", 5, "v")},
		"put above":          {put("k", 7, "w"), gone("k", 5)},
		"deleted between":    {put("k", 9, "w"), gone("k", 7), put("k", 5, "v")},
		"put between":        {gone("k", 9), put("k", 7, "w"), gone("k", 5)},
		"put above put":      {put("k", 9, "w"), put("k", 7, "v"), put("k", 0, "u")},
		"all deleted":        {gone("a", 3), gone("b", 5), gone("b", 4), gone("c", 0)},
		"keys beside":        {put("a", 9, "1"), put("aa", 3, "2"), gone("aa", 2), put("ab", 5, "3"), put("b", 1, "4")},
		"edges":              inOrder(edgeItems()),
		"alike keys":         inOrder(alikeKeys()),
		"nested":             nestedRun(16),
		"several Seqs":       severalSeqs(30),
		"bytes":              byteRun(30),
		"the ends of Seq":    {put("k", greatestSeq, "w"), gone("k", greatestSeq-1), put("k", 1, "v"), put("k", 0, "")},
		"the ends, deleted":  {gone("k", greatestSeq), put("k", greatestSeq-1, "w"), gone("k", 1), gone("k", 0)},
		"one key, many Seqs": inOrder(oneKey(50)),
	}
	for n := range 12 {
		l[fmt.Sprint("some ", 5*n)] = someRun(5*n, n)
		l[fmt.Sprint("merged ", n)] = mergedByHand(overlaid(n+1, 2*n+1, n))
	}
	return l
}

// askedSeqs are those below, at, between and above the items' own.
func askedSeqs(l []impl.Item) []int {
	out := []int{0, 1, greatestSeq - 1, greatestSeq}
	for _, x := range l {
		out = append(out, max(x.Seq-1, 0), x.Seq, min(x.Seq+1, greatestSeq))
	}
	slices.Sort(out)
	return slices.Compact(out)
}

// askedKeys are the items' own, and texts right beside them.
func askedKeys(l []impl.Item) []string {
	out := edgeKeys()
	for _, key := range keysByHand(l) {
		for _, s := range []string{key, key + "\x00", key[1:], key[:len(key)-1]} {
			if len(s) >= 1 && len(s) <= 16 {
				out = append(out, s)
			}
		}
	}
	slices.Sort(out)
	return slices.Compact(out)
}

func badSeqs() []int {
	return []int{-1 << 63, -greatestSeq, -2, -1, greatestSeq + 1, greatestSeq + 2, 1<<63 - 1}
}

func wantMerged(t *testing.T, what string, l []impl.Run, want []impl.Item) {
	t.Helper()
	r, ok := impl.MergeRuns(l)
	if !slices.Equal(r.Items, want) || !ok {
		t.Errorf("%s: MergeRuns %s: %s %v, want %s", what, shown(l), shown(r), ok, shown(want))
	}
	if !impl.GoodRun(r.Items) {
		t.Errorf("%s: MergeRuns: %s is no run", what, shown(r))
	}
}

func wantNoMerged(t *testing.T, what string, l []impl.Run) {
	t.Helper()
	if r, ok := impl.MergeRuns(l); len(r.Items) != 0 || ok {
		t.Errorf("%s: MergeRuns: %s %v, want nothing", what, shown(r), ok)
	}
}

func wantStepTo(t *testing.T, what string, l []impl.Run, at []int, want int) {
	t.Helper()
	if n, ok := impl.MergeStep(l, at); n != want || !ok {
		t.Errorf("%s: MergeStep %s %v: %d %v, want %d", what, shown(l), at, n, ok, want)
	}
}

func wantNoStepTo(t *testing.T, what string, l []impl.Run, at []int) {
	t.Helper()
	if n, ok := impl.MergeStep(l, at); n != 0 || ok {
		t.Errorf("%s: MergeStep %s %v: %d %v, want nothing", what, shown(l), at, n, ok)
	}
}

// checkMergeStep asks for what a plain look over all runs finds.
func checkMergeStep(t *testing.T, what string, l []impl.Run, at []int) {
	t.Helper()
	if want, found := stepByHand(l, at); found {
		wantStepTo(t, what, l, at, want)
	} else {
		wantNoStepTo(t, what, l, at)
	}
}

func wantVisible(t *testing.T, what string, l []impl.Item, seq int, want ...impl.Pair) {
	t.Helper()
	if got, ok := impl.VisibleAt(impl.Run{Items: l}, seq); !slices.Equal(got, want) || !ok {
		t.Errorf("%s: VisibleAt %s %d: %s %v, want %s", what, shown(l), seq, shown(got), ok, shown(want))
	}
}

func wantNoVisible(t *testing.T, what string, l []impl.Item, seq int) {
	t.Helper()
	if got, ok := impl.VisibleAt(impl.Run{Items: l}, seq); len(got) != 0 || ok {
		t.Errorf("%s: VisibleAt %d: %s %v, want nothing", what, seq, shown(got), ok)
	}
}

func wantScan(t *testing.T, what string, l []impl.Item, from string, to string, seq int, want ...impl.Pair) {
	t.Helper()
	if got, ok := impl.ScanAt(impl.Run{Items: l}, from, to, seq); !slices.Equal(got, want) || !ok {
		t.Errorf("%s: ScanAt %s %q %q %d: %s %v, want %s", what, shown(l), from, to, seq, shown(got), ok, shown(want))
	}
}

func wantNoScan(t *testing.T, what string, l []impl.Item, from string, to string, seq int) {
	t.Helper()
	if got, ok := impl.ScanAt(impl.Run{Items: l}, from, to, seq); len(got) != 0 || ok {
		t.Errorf("%s: ScanAt %q %q %d: %s %v, want nothing", what, from, to, seq, shown(got), ok)
	}
}

func wantLook(t *testing.T, what string, l []impl.Item, key string, seq int, value string, kind int) {
	t.Helper()
	if v, k, ok := impl.LookIn(impl.Run{Items: l}, key, seq); v != value || k != kind || !ok {
		t.Errorf("%s: LookIn %s %q %d: %q %d %v, want %q %d", what, shown(l), key, seq, v, k, ok, value, kind)
	}
}

func wantNoLook(t *testing.T, what string, l []impl.Item, key string, seq int) {
	t.Helper()
	if v, k, ok := impl.LookIn(impl.Run{Items: l}, key, seq); v != "" || k != 0 || ok {
		t.Errorf("%s: LookIn %.40q %d: %q %d %v, want nothing", what, key, seq, v, k, ok)
	}
}

// checkLook asks for what a plain look through all items finds.
func checkLook(t *testing.T, what string, l []impl.Item, key string, seq int) {
	t.Helper()
	if x, found := seenByHand(l, key, seq); found {
		wantLook(t, what, l, key, seq, x.Value, x.Kind)
	} else {
		wantNoLook(t, what, l, key, seq)
	}
}

func wantLeft(t *testing.T, what string, l []impl.Item, seq int, bottom bool, want ...impl.Item) {
	t.Helper()
	if r, ok := impl.DropShadowed(impl.Run{Items: l}, seq, bottom); !slices.Equal(r.Items, want) || !ok {
		t.Errorf("%s: DropShadowed %s %d %v: %s %v, want %s", what, shown(l), seq, bottom, shown(r), ok, shown(want))
	}
}

func wantNoLeft(t *testing.T, what string, l []impl.Item, seq int, bottom bool) {
	t.Helper()
	if r, ok := impl.DropShadowed(impl.Run{Items: l}, seq, bottom); len(r.Items) != 0 || ok {
		t.Errorf("%s: DropShadowed %d %v: %s %v, want nothing", what, seq, bottom, shown(r), ok)
	}
}

func wantNewest(t *testing.T, what string, l []impl.Item, want int) {
	t.Helper()
	if n, ok := impl.NewestOf(impl.Run{Items: l}); n != want || !ok {
		t.Errorf("%s: NewestOf %s: %d %v, want %d", what, shown(l), n, ok, want)
	}
}

func wantNoNewest(t *testing.T, what string, l []impl.Item) {
	t.Helper()
	if n, ok := impl.NewestOf(impl.Run{Items: l}); n != 0 || ok {
		t.Errorf("%s: NewestOf: %d %v, want nothing", what, n, ok)
	}
}

// wantNoRun asks every function for the answer that what is no run to be merged gets, alone and among others.
func wantNoRun(t *testing.T, what string, l []impl.Item) {
	t.Helper()
	good := evenRun(3, "x")
	wantNoMerged(t, what, runsOf(l))
	wantNoMerged(t, what+", first", runsOf(l, good, nil))
	wantNoMerged(t, what+", between", runsOf(good, l, nil))
	wantNoMerged(t, what+", last", runsOf(good, nil, l))
	for _, at := range []int{0, len(l)} {
		wantNoStepTo(t, what, runsOf(l), []int{at})
		wantNoStepTo(t, what+", first", runsOf(l, good), []int{at, 1})
		wantNoStepTo(t, what+", last", runsOf(good, l), []int{1, at})
	}
	wantNoNewest(t, what, l)
	for _, seq := range []int{0, 1, greatestSeq} {
		wantNoVisible(t, what, l, seq)
		wantNoScan(t, what, l, "", "", seq)
		wantNoScan(t, what, l, "a", "b", seq)
		wantNoLeft(t, what, l, seq, false)
		wantNoLeft(t, what, l, seq, true)
		wantNoLook(t, what, l, "a", seq)
		for _, x := range l {
			wantNoLook(t, what, l, x.Key, seq)
		}
	}
}
