package tests

import (
	"fmt"
	"math"
	"slices"
	"testing"

	"loop.example/g00224/impl"
)

func roomyVersion(v impl.Version, behind impl.Meta) impl.Version {
	return version(v.Next, v.Seq, roomy(v.Metas, behind)...)
}

func untouchedVersion(got impl.Version, v impl.Version, behind impl.Meta) bool {
	return sameVersion(got, v) && slices.Equal(whole(got.Metas), whole(roomy(v.Metas, behind)))
}

func roomyEdit(e impl.Edit, behind impl.Meta) impl.Edit {
	return edit(e.Next, e.Seq, roomy(e.Drop, behind.Number), roomy(e.Add, behind)...)
}

func untouchedEdit(got impl.Edit, e impl.Edit, behind impl.Meta) bool {
	return sameEdit(got, e) && slices.Equal(whole(got.Drop), whole(roomy(e.Drop, behind.Number))) && slices.Equal(whole(got.Add), whole(roomy(e.Add, behind)))
}

// allVersions are versions, good and not.
func allVersions() map[string]impl.Version {
	l := manyVersions()
	for fault, v := range badVersions() {
		l["bad: "+fault] = v
	}
	return l
}

func allEdits() map[string]impl.Edit {
	l := manyEdits()
	for fault, e := range badEdits() {
		l["bad: "+fault] = e
	}
	return l
}

func scribbleMeta() impl.Meta {
	return meta(99, 2, "scribble", "scribble")
}

func scribbleVersion(v impl.Version) {
	fill(whole(v.Metas), scribbleMeta())
}

func scribbleEdit(e impl.Edit) {
	fill(whole(e.Drop), 99)
	fill(whole(e.Add), scribbleMeta())
}

func anyLevels() []int {
	return []int{math.MinInt, -1, 0, 1, 2, 3, 4, math.MaxInt}
}

func TestNoVersionIsWrittenInto(t *testing.T) {
	behind := meta(greatestNumber, 3, "behind", "behind")
	e := edit(greatestNext, greatestSeq, nil, meta(greatestNumber, 0, "a", "b"))
	for name, v := range allVersions() {
		arg, other := roomyVersion(v, behind), roomyVersion(v, behind)
		impl.GoodVersion(arg)
		impl.ApplyEdit(arg, e)
		impl.ApplyEdit(arg, edit(greatestNext, greatestSeq, numbersOf(v.Metas)))
		impl.EditBetween(arg, other)
		impl.EditBetween(arg, version(greatestNext, greatestSeq))
		impl.EditBetween(impl.NewVersion(), arg)
		impl.EditBetween(arg, arg)
		impl.PickLevel(arg)
		for _, level := range anyLevels() {
			for _, s := range anyTexts() {
				impl.OverlapsIn(arg, level, s, s)
				impl.OverlapsIn(arg, level, "\x00", s)
			}
		}
		if !untouchedVersion(arg, v, behind) || !untouchedVersion(other, v, behind) {
			t.Errorf("%s: the version is written into", name)
		}
	}
}

func TestNoEditIsWrittenInto(t *testing.T) {
	behind := meta(greatestNumber, 3, "behind", "behind")
	versions := manyVersions()
	for name, e := range allEdits() {
		arg := roomyEdit(e, behind)
		impl.EditBytes(arg)
		for _, v := range versions {
			impl.ApplyEdit(v, arg)
		}
		if !untouchedEdit(arg, e, behind) {
			t.Errorf("%s: the edit is written into", name)
		}
	}
	for name, v := range manyVersions() {
		if !sameVersion(v, versions[name]) {
			t.Errorf("%s: the version is written into", name)
		}
	}
}

// What lies behind a list is none of its metas, whether it would do there or not.
func TestNothingBehindMetasIsRead(t *testing.T) {
	for _, behind := range []impl.Meta{{}, meta(greatestNumber, 0, "a", "z"), meta(1, 1, "a", "z"), meta(-1, 9, "", sized(17))} {
		for name, v := range manyVersions() {
			what := name + ", something behind"
			arg := roomyVersion(v, behind)
			wantGoodVersion(t, what, arg)
			wantBetween(t, what, impl.NewVersion(), arg, edit(v.Next, v.Seq, nil, v.Metas...))
			wantBetween(t, what, arg, version(v.Next, v.Seq), edit(v.Next, v.Seq, numbersOf(v.Metas)))
			for level := range 4 {
				wantOverlaps(t, what, arg, level, "a", "z", overlapsByHand(v, level, "a", "z")...)
			}
			if level, found := pickByHand(v); found {
				wantPick(t, what, arg, level)
			} else {
				wantNoPick(t, what, arg)
			}
		}
		for name, e := range manyEdits() {
			what := name + ", something behind"
			if s := editByHand(e); len(s) <= 1000 {
				wantEditBytes(t, what, roomyEdit(e, behind), s)
			}
			for _, v := range []impl.Version{version(1, 0), fairVersion(), on(2, 2, 2, 2)} {
				if want, ok := appliedByHand(v, e); ok {
					wantApplied(t, what, roomyVersion(v, behind), roomyEdit(e, behind), want)
				} else {
					wantNotApplied(t, what, roomyVersion(v, behind), roomyEdit(e, behind))
				}
			}
		}
	}
}

func TestWhatIsAppliedMayBeWrittenInto(t *testing.T) {
	for name, v := range manyVersions() {
		later := laterThan(v, 7)
		e, ok := betweenByHand(v, later)
		if !ok || !isVersionByHand(later) {
			continue
		}
		for range 2 {
			got, ok := impl.ApplyEdit(v, e)
			wantVersion(t, name, got, ok, later)
			wantNothingBehind(t, name, got.Metas)
			scribbleVersion(got)
			same, ok := impl.ApplyEdit(v, edit(v.Next, v.Seq, nil))
			wantVersion(t, name+", nothing done", same, ok, v)
			scribbleVersion(same)
		}
		if !sameVersion(v, manyVersions()[name]) {
			t.Errorf("%s: the version is changed with what was made of it", name)
		}
		if again, _ := betweenByHand(v, later); !sameEdit(e, again) {
			t.Errorf("%s: the edit is changed with what was made of it", name)
		}
	}
}

func TestEditsThatAreAnsweredMayBeWrittenInto(t *testing.T) {
	for name, v := range manyVersions() {
		later := laterThan(v, 8)
		want, ok := betweenByHand(v, later)
		if !ok {
			continue
		}
		s := editByHand(want)
		for range 2 {
			wantBetween(t, name, v, later, want)
			e, _ := impl.EditBetween(v, later)
			wantNothingBehind(t, name, e.Drop)
			wantNothingBehind(t, name, e.Add)
			scribbleEdit(e)
			all, _ := impl.EditBetween(impl.NewVersion(), v)
			scribbleEdit(all)
			back, ok := impl.ReadEdit(s)
			wantEdit(t, name+", read", back, ok, want)
			wantNothingBehind(t, name, back.Drop)
			wantNothingBehind(t, name, back.Add)
			scribbleEdit(back)
		}
		if !sameVersion(v, manyVersions()[name]) || !sameVersion(later, laterThan(v, 8)) || s != editByHand(want) {
			t.Errorf("%s: what was handed in is changed with the edit", name)
		}
	}
}

func TestWhatIsRecoveredOrFoundMayBeWrittenInto(t *testing.T) {
	for name, h := range manyHistories(t) {
		for range 2 {
			wantRecovered(t, name, h.text, h.last(), len(h.edits))
			v, _, _ := impl.RecoverVersion(h.text)
			wantNothingBehind(t, name, v.Metas)
			scribbleVersion(v)
		}
	}
	for name, v := range manyVersions() {
		for range 2 {
			for level := range 4 {
				wantOverlaps(t, name, v, level, "\x00", repeated(0xff, 16), overlapsByHand(v, level, "\x00", repeated(0xff, 16))...)
				l, _ := impl.OverlapsIn(v, level, "\x00", repeated(0xff, 16))
				wantNothingBehind(t, name, l)
				fill(whole(l), 99)
			}
		}
		if !sameVersion(v, manyVersions()[name]) {
			t.Errorf("%s: the version is changed with what was found in it", name)
		}
	}
	for range 2 {
		v := impl.NewVersion()
		wantVersion(t, "NewVersion", v, true, version(1, 0))
		scribbleVersion(v)
	}
}

// What was handed in may be written over once it is answered.
func TestWhatIsAnsweredKeepsNothingOfVersions(t *testing.T) {
	for name, v := range manyVersions() {
		later := laterThan(v, 9)
		want, ok := betweenByHand(v, later)
		if !ok {
			continue
		}
		first, second, argEdit := roomyVersion(v, scribbleMeta()), roomyVersion(later, scribbleMeta()), roomyEdit(want, scribbleMeta())
		between, _ := impl.EditBetween(first, second)
		applied, _ := impl.ApplyEdit(first, argEdit)
		same, _ := impl.ApplyEdit(first, edit(v.Next, v.Seq, nil))
		text, told := impl.EditBytes(argEdit)
		found, _ := impl.OverlapsIn(first, 0, "\x00", repeated(0xff, 16))
		scribbleVersion(first)
		scribbleVersion(second)
		scribbleEdit(argEdit)
		if !sameEdit(between, want) || !sameVersion(applied, later) || !sameVersion(same, v) {
			t.Errorf("%s: what is answered changes with what was handed in", name)
		}
		if told && text != editByHand(want) || !slices.Equal(found, overlapsByHand(v, 0, "\x00", repeated(0xff, 16))) {
			t.Errorf("%s: what is told changes with what was handed in", name)
		}
	}
}

// What was answered ahead stays as it was, whatever is asked for later.
func TestVersionsThatWereAnsweredStay(t *testing.T) {
	v := someVersion(30, 1)
	later := laterThan(v, 1)
	want, _ := betweenByHand(v, later)
	e, _ := impl.EditBetween(v, later)
	applied, _ := impl.ApplyEdit(v, e)
	s, _ := impl.EditBytes(e)
	back, _ := impl.ReadEdit(s)
	h := someHistory(t, 10, 2)
	recovered, _, _ := impl.RecoverVersion(h.text)
	for seed := range 20 {
		a := someVersion(30, seed)
		b := laterThan(a, seed)
		other, _ := impl.EditBetween(a, b)
		impl.ApplyEdit(a, other)
		text, _ := impl.EditBytes(other)
		impl.ReadEdit(text)
		impl.RecoverVersion(someHistory(t, 5, seed).text)
		impl.OverlapsIn(a, 1, "a", "z")
		impl.PickLevel(b)
	}
	if !sameEdit(e, want) || !sameEdit(back, want) || !sameVersion(applied, later) || !sameVersion(recovered, h.last()) {
		t.Error("what was answered is changed by a later call")
	}
}

// Both versions, or both lists of an edit, may lie in one memory: each is read as its own.
func TestVersionsThatLieInEachOther(t *testing.T) {
	l := rowOfMetas(30, 1, 2)
	for i := range 31 {
		for j := range 31 {
			a, b := version(31, 0, l[:i]...), version(31, 0, l[j:]...)
			want, _ := betweenByHand(a, b)
			wantBetween(t, "lying in each other", a, b, want)
			wantApplied(t, "lying in each other", a, want, b)
		}
		wantApplied(t, "added from the version's own list", version(31, 0, l[:i]...), edit(31, 0, nil, l[i:]...), version(31, 0, l...))
	}
	if !slices.Equal(l, rowOfMetas(30, 1, 2)) {
		t.Error("the list is changed")
	}
}

// Each wrong beside all else right or wrong: no call fails to answer.
func TestVersionsAtAnyArguments(t *testing.T) {
	for name, v := range allVersions() {
		good := isVersionByHand(v)
		if impl.GoodVersion(v) != good {
			t.Errorf("%s: GoodVersion: %v", name, !good)
		}
		for en, e := range allEdits() {
			checkApplied(t, en+" on "+name, v, e)
		}
		for bn, b := range allVersions() {
			if want, ok := betweenByHand(v, b); ok {
				wantBetween(t, name+" to "+bn, v, b, want)
			} else {
				wantNoBetween(t, name+" to "+bn, v, b)
			}
		}
		for _, level := range anyLevels() {
			for _, least := range anyTexts() {
				for _, most := range anyTexts() {
					want := good && level >= 0 && level <= 3 && isKeyByHand(least) && isKeyByHand(most) && least <= most
					if want {
						wantOverlaps(t, name, v, level, least, most, overlapsByHand(v, level, least, most)...)
					} else {
						wantNoOverlaps(t, name, v, level, least, most)
					}
				}
			}
		}
	}
}

// What hangs on the order in which files are gone through would show.
func TestVersionsAnswerAlikeEachTime(t *testing.T) {
	v := version(31, 0, rowOfMetas(30, 1, 0)...)
	e := edit(61, 3, numbersOf(v.Metas[5:25]), rowOfMetas(20, 31, 0)...)
	want, _ := appliedByHand(v, e)
	h := someHistory(t, 12, 4)
	for i := range 100 {
		what := fmt.Sprint("again ", i)
		wantApplied(t, what, v, e, want)
		wantBetween(t, what, v, want, e)
		wantEditBytes(t, what, e, editByHand(e))
		wantRecovered(t, what, h.text, h.last(), 12)
		wantOverlaps(t, what, v, 0, "000a", "999z", numbersOf(v.Metas)...)
		wantPick(t, what, v, 0)
	}
}
