package tests

import (
	"math"
	"slices"
	"testing"

	"loop.example/g00224/impl"
)

// roomyRuns copies runs into lists with something behind their lengths.
func roomyRuns(l []impl.Run, behind impl.Item) []impl.Run {
	var out []impl.Run
	for _, r := range l {
		out = append(out, impl.Run{Items: roomy(r.Items, behind)})
	}
	return roomy(out, impl.Run{Items: []impl.Item{behind}})
}

func untouchedRuns(got []impl.Run, l []impl.Run, behind impl.Item) bool {
	wholeRun := func(a impl.Run, b impl.Run) bool { return slices.Equal(whole(a.Items), whole(b.Items)) }
	return slices.EqualFunc(got, l, sameRun) && slices.EqualFunc(whole(got), whole(roomyRuns(l, behind)), wholeRun)
}

// allMerges are lists of runs, good and not, and greater ones than may be merged.
func allMerges() map[string][]impl.Run {
	l := manyMerges()
	for fault, run := range badRuns() {
		l["bad: "+fault] = runsOf(evenRun(3, "x"), run, someRun(5, 1))
	}
	l["too many runs"] = alikeRuns(13, 4)
	l["too many items"] = runsOf(someRun(300, 1), someRun(300, 2))
	l["too long"] = runsOf(someRun(401, 1))
	return l
}

// allSeen are runs to be looked through, good and not, and longer ones than may be.
func allSeen() map[string][]impl.Item {
	l := manySeen()
	for fault, run := range badRuns() {
		l["bad: "+fault] = run
	}
	l["too long"] = someRun(401, 1)
	return l
}

func anySeqs() []int {
	return append(badSeqs(), 0, 1, 7, 1000, greatestSeq)
}

func anyTexts() []string {
	return []string{"", "\x00", "a", "k", "one", sized(16), sized(17), repeated(0xff, 16), repeated(0xff, 17), sized(5000)}
}

func TestNoRunsAreWrittenInto(t *testing.T) {
	behind := put("behind", 7, "behind")
	for name, l := range allMerges() {
		arg := roomyRuns(l, behind)
		impl.MergeRuns(arg)
		for _, numbers := range [][]int{nil, make([]int, len(l)), endsOf(l), slices.Repeat([]int{-1}, len(l)), make([]int, len(l)+1), slices.Repeat([]int{math.MaxInt}, len(l))} {
			at := roomy(numbers, 7)
			impl.MergeStep(arg, at)
			if !slices.Equal(at, numbers) || !slices.Equal(whole(at), whole(roomy(numbers, 7))) {
				t.Errorf("%s: the numbers are written into", name)
			}
		}
		if !untouchedRuns(arg, l, behind) {
			t.Errorf("%s: the runs are written into", name)
		}
	}
}

func TestNoRunThatIsLookedThroughIsWrittenInto(t *testing.T) {
	behind := put("behind", 7, "behind")
	for name, l := range allSeen() {
		arg := impl.Run{Items: roomy(l, behind)}
		impl.NewestOf(arg)
		for _, seq := range anySeqs() {
			impl.VisibleAt(arg, seq)
			impl.DropShadowed(arg, seq, false)
			impl.DropShadowed(arg, seq, true)
			for _, s := range anyTexts() {
				impl.LookIn(arg, s, seq)
				impl.ScanAt(arg, s, "", seq)
				impl.ScanAt(arg, "", s, seq)
				impl.ScanAt(arg, s, s, seq)
			}
		}
		if !slices.Equal(arg.Items, l) || !slices.Equal(whole(arg.Items), whole(roomy(l, behind))) {
			t.Errorf("%s: the run is written into", name)
		}
	}
}

// What lies behind a list is no item of the run, whether it would do there or not.
func TestNothingBehindRunsIsRead(t *testing.T) {
	for _, behind := range []impl.Item{{}, put(repeated(0xff, 16), 0, "last"), put(repeated(0xff, 16), greatestSeq, "last"), put(sized(17), -1, "")} {
		for name, l := range manyMerges() {
			arg := roomyRuns(l, behind)
			wantMerged(t, name+", something behind", arg, mergedByHand(l))
			checkMergeStep(t, name+", something behind", arg, roomy(make([]int, len(l)), 1))
			wantNoStepTo(t, name+", something behind, read to the end", arg, roomy(endsOf(l), -1))
		}
		for name, l := range manySeen() {
			arg := roomy(l, behind)
			wantNewest(t, name+", something behind", arg, newestByHand(l))
			wantVisible(t, name+", something behind", arg, greatestSeq, pairsByHand(l, "", "", greatestSeq)...)
			wantScan(t, name+", something behind", arg, "k", "", 7, pairsByHand(l, "k", "", 7)...)
			wantLeft(t, name+", something behind", arg, 7, true, leftByHand(l, 7, true)...)
			checkLook(t, name+", something behind", arg, repeated(0xff, 16), greatestSeq)
		}
	}
}

func TestWhatIsMergedMayBeWrittenInto(t *testing.T) {
	for name, l := range manyMerges() {
		for range 2 {
			wantMerged(t, name, l, mergedByHand(l))
			r, _ := impl.MergeRuns(l)
			wantNothingBehind(t, name, r.Items)
			fill(whole(r.Items), put("scribble", 99, "scribble"))
		}
		if !slices.EqualFunc(l, manyMerges()[name], sameRun) {
			t.Errorf("%s: the runs are changed with what was made of them", name)
		}
	}
}

func TestWhatIsSeenMayBeWrittenInto(t *testing.T) {
	for name, l := range manySeen() {
		r := impl.Run{Items: l}
		for range 2 {
			for _, seq := range []int{0, 7, greatestSeq} {
				wantVisible(t, name, l, seq, pairsByHand(l, "", "", seq)...)
				wantScan(t, name, l, "a", "z", seq, pairsByHand(l, "a", "z", seq)...)
				wantLeft(t, name, l, seq, false, leftByHand(l, seq, false)...)
				wantLeft(t, name, l, seq, true, leftByHand(l, seq, true)...)
				for _, bottom := range []bool{false, true} {
					left, _ := impl.DropShadowed(r, seq, bottom)
					wantNothingBehind(t, name+", what is left", left.Items)
					fill(whole(left.Items), put("scribble", 99, "scribble"))
				}
				all, _ := impl.VisibleAt(r, seq)
				wantNothingBehind(t, name+", what is seen", all)
				fill(whole(all), pair("scribble", "scribble"))
				some, _ := impl.ScanAt(r, "a", "z", seq)
				wantNothingBehind(t, name+", what is scanned", some)
				fill(whole(some), pair("scribble", "scribble"))
			}
		}
		if !slices.Equal(l, manySeen()[name]) {
			t.Errorf("%s: the run is changed with what was made of it", name)
		}
	}
}

// The runs may be written over once they are merged, and so may the run that was looked through.
func TestWhatIsAnsweredKeepsNothingOfItsRuns(t *testing.T) {
	scribble := put("scribble", 99, "scribble")
	for name, l := range manyMerges() {
		arg := roomyRuns(l, scribble)
		r, _ := impl.MergeRuns(arg)
		for _, run := range arg {
			fill(whole(run.Items), scribble)
		}
		fill(whole(arg), impl.Run{Items: []impl.Item{scribble}})
		if !slices.Equal(r.Items, mergedByHand(l)) {
			t.Errorf("%s: what is merged changes with the runs", name)
		}
	}
	for name, l := range manySeen() {
		arg := impl.Run{Items: roomy(l, scribble)}
		all, _ := impl.VisibleAt(arg, 7)
		some, _ := impl.ScanAt(arg, "a", "z", 7)
		left, _ := impl.DropShadowed(arg, 7, false)
		bottom, _ := impl.DropShadowed(arg, 7, true)
		fill(whole(arg.Items), scribble)
		if !slices.Equal(all, pairsByHand(l, "", "", 7)) || !slices.Equal(some, pairsByHand(l, "a", "z", 7)) {
			t.Errorf("%s: what is seen changes with the run", name)
		}
		if !slices.Equal(left.Items, leftByHand(l, 7, false)) || !slices.Equal(bottom.Items, leftByHand(l, 7, true)) {
			t.Errorf("%s: what is left changes with the run", name)
		}
	}
}

// What was answered ahead stays as it was, whatever is merged or seen later.
func TestWhatWasMergedStays(t *testing.T) {
	runs := overlaid(5, 20, 1)
	first := mergedByHand(runs)
	r, _ := impl.MergeRuns(runs)
	all, _ := impl.VisibleAt(r, 100)
	some, _ := impl.ScanAt(r, "\x20", "\xc0", 100)
	left, _ := impl.DropShadowed(r, 100, true)
	for seed := range 20 {
		other, _ := impl.MergeRuns(overlaid(5, 20, seed+2))
		impl.MergeStep(overlaid(5, 20, seed), make([]int, 5))
		impl.VisibleAt(other, 200)
		impl.ScanAt(other, "", "\x80", 200)
		impl.DropShadowed(other, 200, false)
		impl.LookIn(other, "k", 200)
		impl.NewestOf(other)
	}
	if !slices.Equal(r.Items, first) || !slices.Equal(left.Items, leftByHand(first, 100, true)) {
		t.Error("what was merged is changed by a later call")
	}
	if !slices.Equal(all, pairsByHand(first, "", "", 100)) || !slices.Equal(some, pairsByHand(first, "\x20", "\xc0", 100)) {
		t.Error("what was seen is changed by a later call")
	}
}

// Runs may share memory with each other: each is read as its own.
func TestRunsThatLieInEachOther(t *testing.T) {
	l := someRun(40, 2)
	for i := range 40 {
		wantMerged(t, "lying in each other", runsOf(l[:i], l[i/2:], l[i:]), l)
	}
	wantMerged(t, "the same memory", runsOf(l, l[:20], l[20:]), l)
}

// Each wrong beside all else right or wrong: no call fails to answer.
func TestMergingAtAnyArguments(t *testing.T) {
	for name, l := range allSeen() {
		r := impl.Run{Items: l}
		good := len(l) <= 400 && isRunByHand(l)
		for _, seq := range anySeqs() {
			seqGood := seq >= 0 && seq <= greatestSeq
			for _, from := range anyTexts() {
				if _, _, ok := impl.LookIn(r, from, seq); ok && !(good && seqGood && len(from) >= 1 && len(from) <= 16) {
					t.Errorf("%s: LookIn %.20q %d tells true", name, from, seq)
				}
				for _, to := range anyTexts() {
					want := good && seqGood && len(from) <= 16 && len(to) <= 16
					if got, ok := impl.ScanAt(r, from, to, seq); ok != want || !want && len(got) != 0 {
						t.Errorf("%s: ScanAt %.20q %.20q %d: %s %v, want %v", name, from, to, seq, shown(got), ok, want)
					}
				}
			}
		}
	}
}

func TestMergingAnswersAlikeEachTime(t *testing.T) {
	runs := overlaid(7, 30, 3)
	l := mergedByHand(runs)
	for range 3 {
		wantMerged(t, "again", runs, l)
		checkMergeStep(t, "again", runs, make([]int, 7))
		wantNoMerged(t, "again", make([]impl.Run, 13))
		wantNoStepTo(t, "again", runs, endsOf(runs))
		wantVisible(t, "again", l, 100, pairsByHand(l, "", "", 100)...)
		wantLeft(t, "again", l, 100, true, leftByHand(l, 100, true)...)
		wantNewest(t, "again", l, newestByHand(l))
	}
}
