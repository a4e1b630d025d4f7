package tests

import (
	"fmt"
	"math"
	"slices"
	"testing"

	"loop.example/g00224/impl"
)

func TestBuildingOfNothing(t *testing.T) {
	wantBuilt(t, "none", nil, nil, newKept())
	wantBuilt(t, "none, not nil", []impl.Command{}, []int{}, newKept())
	for plan := -1; plan <= 4; plan++ {
		l := []impl.Command{getting(1, 1, "k"), deleting(1, 2, "k"), {}}
		wantBuilt(t, "no change", l, allPlanned(l, plan), newKept())
	}
}

func TestHowManyCommandsAreBuilt(t *testing.T) {
	for _, many := range []int{1, 99, 100} {
		l := putsOf(many, 40)
		for _, plan := range []int{impl.PlanNone, impl.PlanFlush, impl.PlanCompact} {
			checkBuild(t, fmt.Sprint(many), l, allPlanned(l, plan))
		}
		wantMap(t, fmt.Sprint(many), l, allPlanned(l, impl.PlanNone))
	}
	for _, l := range [][]impl.Command{putsOf(101, 40), slices.Repeat([]impl.Command{getting(1, 1, "k")}, 101), make([]impl.Command, 101), putsOf(2000, 40)} {
		wantNotBuilt(t, fmt.Sprint(len(l)), l, allPlanned(l, impl.PlanNone))
		wantNotBuilt(t, fmt.Sprint(len(l), " with 100 plan numbers"), l, make([]int, 100))
	}
}

func TestAsManyPlanNumbersAsCommands(t *testing.T) {
	for many := range 4 {
		for plans := range 5 {
			l := putsOf(many, 40)
			if plans == many {
				wantMap(t, "as many", l, make([]int, plans))
			} else {
				wantNotBuilt(t, fmt.Sprintf("%d for %d", plans, many), l, make([]int, plans))
			}
		}
	}
	for _, plans := range []int{0, 99, 101, 1000} {
		wantNotBuilt(t, fmt.Sprintf("%d for 100", plans), putsOf(100, 40), make([]int, plans))
	}
}

// Of each change just the key and its new value are written, or that it is deleted; with Seqs from 1 on.
func TestAChangeAloneIsWritten(t *testing.T) {
	l := []impl.Command{
		putting(1, 1, "a", "x"), getting(1, 2, "a"), putting(2, 1, "b", ""), putting(2, 1, "b", "again"), swapping(1, 3, "a", "no", "y"), swapping(1, 4, "a", "x", "y"),
		deleting(2, 2, "none"), deleting(2, 3, "b"), putting(1, 5, "a", "y"), putting(1, 1, "a", "late"), {}, putting(1, 6, "b", "z"), deleting(1, 7, "a"),
	}
	want := keptIn(6, 1).withMem(put("a", 1, "x"), put("b", 2, ""), put("a", 3, "y"), gone("b", 4), put("b", 5, "z"), gone("a", 6))
	wantBuilt(t, "changes", l, allPlanned(l, impl.PlanNone), want)
}

// Each plan number where a command changes something.
func TestEachPlanNumber(t *testing.T) {
	l := []impl.Command{putting(1, 1, "a", "x"), putting(1, 2, "b", "y"), putting(1, 3, "a", "z")}
	ax, by, az := put("a", 1, "x"), put("b", 2, "y"), put("a", 3, "z")
	for _, x := range []struct {
		plan []int
		want kept
	}{
		{[]int{0, 0, 0}, keptIn(3, 1).withMem(ax, by, az)},
		{[]int{1, 0, 0}, keptIn(3, 2, held(1, 0, ax)).withMem(by, az)},
		{[]int{0, 1, 0}, keptIn(3, 2, held(1, 0, ax, by)).withMem(az)},
		{[]int{0, 0, 1}, keptIn(3, 2, held(1, 0, ax, by, az))},
		{[]int{1, 1, 1}, keptIn(3, 4, held(1, 0, ax), held(2, 0, by), held(3, 0, az))},
		{[]int{2, 2, 2}, keptIn(3, 1).withMem(ax, by, az)},
		{[]int{3, 3, 3}, keptIn(3, 1).withMem(ax, by, az)},
		{[]int{1, 2, 0}, keptIn(3, 3, held(2, 1, ax)).withMem(by, az)},
		{[]int{1, 0, 2}, keptIn(3, 3, held(2, 1, ax)).withMem(by, az)},
		{[]int{1, 1, 2}, keptIn(3, 4, held(3, 1, ax, by)).withMem(az)},
		{[]int{1, 3, 0}, keptIn(3, 2, held(1, 0, ax)).withMem(by, az)},
		{[]int{1, 2, 1}, keptIn(3, 4, held(2, 1, ax), held(3, 0, by, az))},
		{[]int{1, 2, 2}, keptIn(3, 3, held(2, 1, ax)).withMem(by, az)},
		{[]int{1, 2, 3}, keptIn(3, 4, held(3, 2, ax)).withMem(by, az)},
	} {
		wantBuilt(t, fmt.Sprint(x.plan), l, x.plan, x.want)
	}
}

// planned is behind a row of changes with each plan number: a table on each of the levels 0 and 1, and items in Mem.
func plannedRow() ([]impl.Command, []int) {
	return []impl.Command{putting(1, 1, "a", "1"), putting(1, 2, "b", "2"), putting(1, 3, "c", "3"), putting(1, 4, "d", "4")}, []int{1, 2, 1, 0}
}

// At a command that changes nothing nothing is done, whatever its plan number is.
func TestPlanNumbersOfCommandsThatChangeNothing(t *testing.T) {
	l, plan := plannedRow()
	want := keptIn(4, 4, held(2, 1, put("a", 1, "1")), held(3, 0, put("b", 2, "2"), put("c", 3, "3"))).withMem(put("d", 4, "4"))
	wantBuilt(t, "changes alone", l, plan, want)
	for _, x := range []impl.Command{getting(1, 9, "a"), putting(1, 1, "a", "0"), putting(2, 1, "a", "1"), deleting(2, 1, "z"), swapping(2, 1, "d", "3", "4"), {}} {
		for _, number := range []int{-1, 0, 1, 2, 3, 4} {
			wantBuilt(t, fmt.Sprint("behind, ", number), append(slices.Clone(l), x), append(slices.Clone(plan), number), want)
		}
	}
	for at := range len(l) + 1 {
		for number := range 4 {
			wantBuilt(t, fmt.Sprintf("at %d, %d", at, number), slices.Insert(slices.Clone(l), at, getting(3, 1, "a")), slices.Insert(slices.Clone(plan), at, number), want)
		}
	}
}

// Each plan number behind what plannedRow leaves, at a change.
func TestEachPlanNumberBehindOthers(t *testing.T) {
	l, plan := plannedRow()
	l = append(l, deleting(1, 5, "a"))
	a, b, c, d, left := put("a", 1, "1"), put("b", 2, "2"), put("c", 3, "3"), put("d", 4, "4"), gone("a", 5)
	asItIs := keptIn(5, 4, held(2, 1, a), held(3, 0, b, c)).withMem(d, left)
	for number, want := range map[int]kept{
		impl.PlanNone:    asItIs,
		impl.PlanFlush:   keptIn(5, 5, held(2, 1, a), held(3, 0, b, c), held(4, 0, d, left)),
		impl.PlanCompact: keptIn(5, 5, held(2, 1, a), held(4, 1, b, c)).withMem(d, left),
		impl.PlanDeeper:  keptIn(5, 5, held(3, 0, b, c), held(4, 2, a)).withMem(d, left),
		-1:               asItIs,
		4:                asItIs,
	} {
		wantBuilt(t, fmt.Sprint("plan number ", number), l, append(slices.Clone(plan), number), want)
	}
}

// A number that is none of a plan is as PlanNone.
func TestPlanNumbersThatAreNone(t *testing.T) {
	for seed := range 20 {
		d := dealingOf(seed)
		l, plan := d.aClient(30, 3), d.plans(30)
		want, _ := buildByHand(l, plan)
		for _, none := range []int{math.MinInt, -3, -2, -1, 4, 5, 7, 258, math.MaxInt} {
			odd := slices.Clone(plan)
			for i := range odd {
				if plan[i] == impl.PlanNone {
					odd[i] = none
				}
			}
			wantBuilt(t, fmt.Sprint("plan number ", none), l, odd, want)
		}
	}
}

// Deletions: in Mem, flushed, and dropped where nothing older of the key is left.
func TestChangesThatAreDeletions(t *testing.T) {
	l := []impl.Command{putting(1, 1, "a", "x"), putting(1, 2, "b", "y"), deleting(1, 3, "a")}
	ax, by, left := put("a", 1, "x"), put("b", 2, "y"), gone("a", 3)
	for _, x := range []struct {
		plan []int
		want kept
	}{
		{[]int{0, 0, 0}, keptIn(3, 1).withMem(ax, by, left)},
		{[]int{0, 1, 0}, keptIn(3, 2, held(1, 0, ax, by)).withMem(left)},
		{[]int{0, 1, 1}, keptIn(3, 3, held(1, 0, ax, by), held(2, 0, left))},
		{[]int{0, 1, 2}, keptIn(3, 3, held(2, 1, ax, by)).withMem(left)},
		{[]int{1, 2, 1}, keptIn(3, 4, held(2, 1, ax), held(3, 0, by, left))},
	} {
		wantBuilt(t, fmt.Sprint(x.plan), l, x.plan, x.want)
	}
	l = append(l, putting(1, 4, "c", "z"))
	wantBuilt(t, "dropped", l, []int{0, 1, 1, 2}, keptIn(4, 4, held(3, 1, by)).withMem(put("c", 4, "z")))
	wantBuilt(t, "all deleted", append(slices.Clone(l), deleting(1, 5, "b"), deleting(1, 6, "c")), []int{0, 0, 0, 0, 0, 1}, keptIn(6, 2, held(1, 0, ax, by, left, put("c", 4, "z"), gone("b", 5), gone("c", 6))))
	gets := []impl.Command{putting(1, 1, "a", "x"), deleting(1, 2, "a"), putting(2, 1, "b", "y"), deleting(2, 2, "b"), putting(2, 3, "c", "z")}
	wantBuilt(t, "nothing left", gets, []int{1, 1, 2, 1, 2}, keptIn(5, 4).withMem(put("c", 5, "z")))
}

// When Mem is full what is in it is flushed, and the change is written then.
func TestChangesThatGoBehindAFlush(t *testing.T) {
	for _, many := range []int{59, 60, 61, 62, 100} {
		l := putsOf(many, 40)
		var items []impl.Item
		for i, c := range l {
			items = append(items, put(c.Key, i+1, c.Value))
		}
		want := keptIn(many, 1).withMem(items...)
		if many > 60 {
			want = keptIn(many, 2, held(1, 0, items[:60]...)).withMem(items[60:]...)
		}
		wantBuilt(t, fmt.Sprint(many, " changes"), l, allPlanned(l, impl.PlanNone), want)
		// What is planned comes behind that.
		plan := allPlanned(l, impl.PlanNone)
		plan[many-1] = impl.PlanFlush
		if many > 60 {
			want = keptIn(many, 3, held(1, 0, items[:60]...), held(2, 0, items[60:]...))
		} else {
			want = keptIn(many, 2, held(1, 0, items...))
		}
		wantBuilt(t, fmt.Sprint(many, " changes, the last flushed"), l, plan, want)
	}
}

// flushedFirst flushes each of the first changes, so that there are so many tables.
func flushedFirst(l []impl.Command, many int) []int {
	plan := allPlanned(l, impl.PlanNone)
	for i := range many {
		plan[i] = impl.PlanFlush
	}
	return plan
}

// With as many tables as there may be nothing can be flushed any more: what is planned does nothing, and of a full Mem the next change can not be written.
func TestChangesThatCanNotBeWritten(t *testing.T) {
	for _, many := range []int{30, 31, 89, 90} {
		l := putsOf(many, 40)
		wantMap(t, fmt.Sprint(many, " changes"), l, flushedFirst(l, 30))
		wantMap(t, fmt.Sprint(many, " changes, all flushed"), l, allPlanned(l, impl.PlanFlush))
		e, _ := impl.BuildEngine(l, allPlanned(l, impl.PlanFlush))
		if len(e.Tables) != 30 || len(e.Mem.Towers) != many-30 {
			t.Errorf("%d changes: %d tables and %d in Mem", many, len(e.Tables), len(e.Mem.Towers))
		}
		checkBuild(t, fmt.Sprint(many, " changes"), l, allPlanned(l, impl.PlanFlush))
	}
	for _, many := range []int{91, 92, 100} {
		l := putsOf(many, 40)
		wantNotBuilt(t, fmt.Sprint(many, " changes"), l, flushedFirst(l, 30))
		wantNotBuilt(t, fmt.Sprint(many, " changes, all flushed"), l, allPlanned(l, impl.PlanFlush))
		wantMap(t, fmt.Sprint(many, " changes, fewer flushed"), l, flushedFirst(l, 29))
	}
	// One that changes nothing has not to be written.
	l := append(putsOf(90, 40), getting(1, 91, "k"), putting(2, 1, numbered(9), "v89"), putting(1, 1, "k", "late"))
	wantMap(t, "90 changes and others", l, flushedFirst(l, 30))
	checkBuild(t, "90 changes and others", l, flushedFirst(l, 30))
	wantNotBuilt(t, "a deletion more", append(l, deleting(2, 2, numbered(9))), append(flushedFirst(l, 30), 0))
}

// Where the tables are compacted in between there is room again.
func TestCompactingMakesRoomForChanges(t *testing.T) {
	l := putsOf(100, 40)
	for _, at := range []int{30, 50, 89} {
		plan := flushedFirst(l, 30)
		plan[at] = impl.PlanCompact
		wantMap(t, fmt.Sprint("compacted at ", at), l, plan)
		checkBuild(t, fmt.Sprint("compacted at ", at), l, plan)
	}
	for _, number := range []int{impl.PlanDeeper, impl.PlanNone, impl.PlanFlush} {
		plan := flushedFirst(l, 30)
		plan[50] = number
		wantNotBuilt(t, fmt.Sprint("plan number ", number), l, plan)
	}
	plan := flushedFirst(l, 30)
	plan[90] = impl.PlanCompact
	wantNotBuilt(t, "too late", l, plan)
}

func TestCellsOf(t *testing.T) {
	wantCellsOf(t, "new", impl.NewEngine())
	wantCellsOf(t, "nothing, later", keptIn(9, 7).engine())
	wantCellsOf(t, "in Mem", keptIn(9, 1).withMem(put("b", 3, "x"), gone("a", 9), put("a", 1, "y"), put("b", 4, "")).engine(), pair("b", ""))
	wantCellsOf(t, "in files", keptIn(9, 5, held(1, 0, put("k", 1, "old"), put("j", 2, "j")), held(2, 1, put("k", 3, "new")), held(4, 3, gone("i", 4))).engine(), pair("j", "j"), pair("k", "new"))
	wantCellsOf(t, "in both", keptIn(9, 5, held(1, 0, put("a", 1, "1"), put("b", 2, "2"), put("c", 3, "3"))).withMem(gone("b", 4), put("d", 5, "5"), put("a", 9, "9")).engine(), pair("a", "9"), pair("c", "3"), pair("d", "5"))
	wantCellsOf(t, "the newest below", manyKept()["the newest on the last"].engine(), pair("k", "5"))
	wantCellsOf(t, "the newest below is deleted", manyKept()["the newest is deleted"].engine())
	wantCellsOf(t, "the greatest Seq", keptIn(greatestSeq, 1).withMem(put("k", greatestSeq, "last")).engine(), pair("k", "last"))
	wantCellsOf(t, "all keys", keptIn(9, 1).withMem(put("\x00", 1, "first"), put(repeated(0xff, 16), 2, "last")).engine(), pair("\x00", "first"), pair(repeated(0xff, 16), "last"))
	for name, e := range badEngines() {
		wantNoCellsOf(t, name, e)
	}
	for name, k := range manyKept() {
		wantCellsOf(t, name, k.engine(), pairsByHand(k.all(), "", "", k.seq)...)
	}
}

// There may be more cells than MaxCells in an engine: it is none that commands made.
func TestCellsOfAnEngineThatIsFull(t *testing.T) {
	k := keptIn(9, 9, held(1, 0, rowOfItems(120, 1)...), held(2, 0, seqsOfKey("k", 9, 1)...))
	if got, ok := impl.CellsOf(k.engine()); !ok || len(got) != 121 {
		t.Errorf("%d cells %v, want 121", len(got), ok)
	}
}
