package tests

import (
	"fmt"
	"slices"
	"testing"

	"loop.example/g00224/impl"
)

// fairVersion is what edits are applied to in what follows.
func fairVersion() impl.Version {
	return version(10, 20, meta(2, 0, "a", "m"), meta(4, 1, "c", "f"), meta(5, 0, "b", "z"), meta(7, 1, "g", "k"), meta(9, 3, "a", "z"))
}

func TestEditsByHand(t *testing.T) {
	v := fairVersion()
	m := v.Metas
	wantApplied(t, "nothing", v, edit(10, 20, nil), v)
	wantApplied(t, "Next and Seq alone", v, edit(12, 21, nil), version(12, 21, m...))
	wantApplied(t, "the first goes", v, edit(10, 20, []int{2}), version(10, 20, m[1], m[2], m[3], m[4]))
	wantApplied(t, "the last goes", v, edit(10, 20, []int{9}), version(10, 20, m[0], m[1], m[2], m[3]))
	wantApplied(t, "some go", v, edit(10, 20, []int{4, 7}), version(10, 20, m[0], m[2], m[4]))
	wantApplied(t, "all go", v, edit(10, 20, []int{2, 4, 5, 7, 9}), version(10, 20))
	first, mid, last := meta(1, 2, "a", "b"), meta(6, 1, "l", "l"), meta(10, 0, "a", "b")
	wantApplied(t, "one ahead", v, edit(10, 20, nil, first), version(10, 20, first, m[0], m[1], m[2], m[3], m[4]))
	wantApplied(t, "one between", v, edit(10, 20, nil, mid), version(10, 20, m[0], m[1], m[2], mid, m[3], m[4]))
	wantApplied(t, "one behind", v, edit(11, 20, nil, last), version(11, 20, m[0], m[1], m[2], m[3], m[4], last))
	wantApplied(t, "all at once", v, edit(11, 25, []int{2, 5}, first, mid, last), version(11, 25, first, m[1], mid, m[3], m[4], last))
	wantApplied(t, "all go and come", v, edit(10, 20, []int{2, 4, 5, 7, 9}, m...), v)
}

func TestDropsOfWhatIsNotThere(t *testing.T) {
	v := fairVersion()
	for number := 1; number < 14; number++ {
		there := slices.Contains([]int{2, 4, 5, 7, 9}, number)
		if ok := checkApplied(t, fmt.Sprint("drop ", number), v, edit(20, 30, []int{number})); ok != there {
			t.Errorf("drop %d is applied: %v", number, ok)
		}
		wantNotApplied(t, fmt.Sprint("drop ", number, " of nothing"), version(10, 0), edit(10, 0, []int{number}))
		if number < 9 {
			wantNotApplied(t, fmt.Sprint("drop ", number, " and one not there"), v, edit(20, 30, []int{number, 13}))
		}
	}
	wantNotApplied(t, "all and one more", v, edit(10, 20, []int{2, 4, 5, 7, 9, 10}))
	wantNotApplied(t, "one not there, which comes", v, edit(10, 20, []int{3}, meta(3, 0, "a", "b")))
	wantNotApplied(t, "the greatest", v, edit(greatestNext, 20, []int{greatestNumber}))
}

func TestAddsOfWhatIsThere(t *testing.T) {
	v := fairVersion()
	for _, m := range v.Metas {
		what := fmt.Sprint("add ", m.Number)
		other := meta(m.Number, 2, "p", "q")
		wantNotApplied(t, what, v, edit(20, 30, nil, m))
		wantNotApplied(t, what+", another", v, edit(20, 30, nil, other))
		wantNotApplied(t, what+", another is dropped", v, edit(20, 30, []int{11 - m.Number}, other))
		wantApplied(t, what+" dropped, too", v, edit(20, 30, []int{m.Number}, m), version(20, 30, v.Metas...))
		changed := copiedVersion(v)
		changed.Metas[slices.Index(v.Metas, m)] = other
		wantApplied(t, what+", another, dropped, too", v, edit(10, 20, []int{m.Number}, other), changed)
	}
}

func TestNextAndSeqOfAnEditDoNotFall(t *testing.T) {
	v := fairVersion()
	for next := 8; next < 13; next++ {
		for seq := 18; seq < 23; seq++ {
			what := fmt.Sprint("Next ", next, " Seq ", seq)
			e := edit(next, seq, []int{9}, meta(8, 2, "a", "b"))
			want := version(next, seq, v.Metas[0], v.Metas[1], v.Metas[2], v.Metas[3], meta(8, 2, "a", "b"))
			if next >= 10 && seq >= 20 {
				wantApplied(t, what, v, e, want)
				wantApplied(t, what+", nothing else", v, edit(next, seq, nil), version(next, seq, v.Metas...))
			} else {
				wantNotApplied(t, what, v, e)
				wantNotApplied(t, what+", nothing else", v, edit(next, seq, nil))
			}
		}
	}
	greatest := version(greatestNext, greatestSeq)
	wantApplied(t, "the greatest again", greatest, edit(greatestNext, greatestSeq, nil), greatest)
	wantNotApplied(t, "Next below the greatest", greatest, edit(greatestNext-1, greatestSeq, nil))
	wantNotApplied(t, "Seq below the greatest", greatest, edit(greatestNext, greatestSeq-1, nil))
	wantApplied(t, "the greatest at once", version(1, 0), edit(greatestNext, greatestSeq, nil), greatest)
}

func TestAnswersThatWouldNotBeGood(t *testing.T) {
	v := fairVersion()
	wantNotApplied(t, "a number at Next", v, edit(10, 20, nil, meta(10, 0, "a", "b")))
	wantNotApplied(t, "a number beyond Next", v, edit(12, 20, nil, meta(10, 0, "a", "b"), meta(50, 0, "a", "b")))
	wantApplied(t, "numbers below Next", v, edit(51, 20, nil, meta(50, 0, "a", "b")), version(51, 20, append(slices.Clone(v.Metas), meta(50, 0, "a", "b"))...))
	wantNotApplied(t, "a key in common with one that is there", v, edit(20, 20, nil, meta(10, 1, "f", "f")))
	wantNotApplied(t, "a key in common with one that comes", v, edit(20, 20, nil, meta(10, 2, "a", "c"), meta(11, 2, "c", "d")))
	wantApplied(t, "none in common", v, edit(20, 20, nil, meta(10, 1, "fa", "fz")), version(20, 20, append(slices.Clone(v.Metas), meta(10, 1, "fa", "fz"))...))
	wantApplied(t, "on level 0 all in common", v, edit(20, 20, nil, meta(10, 0, "a", "z")), version(20, 20, append(slices.Clone(v.Metas), meta(10, 0, "a", "z"))...))
	m := v.Metas
	wantApplied(t, "in common with one that goes", v, edit(20, 20, []int{4}, meta(10, 1, "f", "f")), version(20, 20, m[0], m[2], m[3], m[4], meta(10, 1, "f", "f")))
	wantNotApplied(t, "in common with one that stays", v, edit(20, 20, []int{7}, meta(10, 1, "f", "f")))
}

func TestHowManyMetasAnEditLeaves(t *testing.T) {
	for there := range 31 {
		for come := range 31 {
			for _, leave := range []int{0, 1, there / 2, there} {
				if leave > there {
					continue
				}
				v := version(31, 0, rowOfMetas(there, 1, 0)...)
				e := edit(70, 0, numbersOf(v.Metas[:leave]), rowOfMetas(come, 31, 0)...)
				what := fmt.Sprint(there, " there, ", leave, " go, ", come, " come")
				if ok := checkApplied(t, what, v, e); ok != (there-leave+come <= 30) {
					t.Errorf("%s: applied: %v", what, ok)
				}
			}
		}
	}
}

func TestEditsThatAreNotGood(t *testing.T) {
	full := version(greatestNext, 0, rowOfMetas(30, 1, 0)...)
	for name, e := range badEdits() {
		if isEditByHand(e) {
			t.Fatalf("%s: %s is one", name, shown(e))
		}
		wantNotApplied(t, name, version(1, 0), e)
		wantNotApplied(t, name, version(1, 0, meta(1, 3, "a", "b")), e)
		wantNotApplied(t, name, full, e)
		wantNoEditBytes(t, name, e)
		wantNotRead(t, name, editByHand(e))
	}
}

func TestEditsThatAreGood(t *testing.T) {
	for name, e := range manyEdits() {
		if !isEditByHand(e) {
			t.Fatalf("%s: %s is none", name, shown(e))
		}
	}
}

// Every edit on every version: applied where the document's words tell it, with the version that they tell.
func TestEveryEditOnEveryVersion(t *testing.T) {
	applied := 0
	for vn, v := range manyVersions() {
		for en, e := range manyEdits() {
			for _, e := range []impl.Edit{e, edit(max(e.Next, v.Next), max(e.Seq, v.Seq), e.Drop, e.Add...)} {
				if checkApplied(t, en+" on "+vn, v, e) {
					applied++
				}
			}
		}
	}
	if applied < 100 {
		t.Errorf("only %d are applied", applied)
	}
}

// Edits that just may be applied, and those with one thing changed.
func TestEditsWithOneThingChanged(t *testing.T) {
	yes, no := 0, 0
	for seed := range 1000 {
		d := dealingOf(seed)
		v := someVersion(d.below(40), seed)
		e, _ := betweenByHand(v, laterThan(v, seed))
		switch d.below(5) {
		case 0:
			e.Next += d.below(7) - 3
		case 1:
			e.Seq += d.below(5) - 3
		case 2:
			e.Drop = append(e.Drop, d.below(e.Next+2))
			slices.Sort(e.Drop)
		case 3:
			if len(e.Drop) > 0 {
				e.Drop = slices.Delete(e.Drop, 0, 1)
			}
		default:
			e.Add = withMeta(version(1, 0, e.Add...), d.meta(d.below(e.Next+2))).Metas
		}
		if checkApplied(t, fmt.Sprint("changed ", seed), v, e) {
			yes++
		} else {
			no++
		}
	}
	if yes < 100 || no < 100 {
		t.Errorf("%d are applied and %d are not: too few of one kind", yes, no)
	}
}

func TestBetweenByHand(t *testing.T) {
	a, b := meta(1, 0, "a", "b"), meta(2, 1, "c", "d")
	wantBetween(t, "one comes", version(2, 0, a), version(3, 1, a, b), edit(3, 1, nil, b))
	wantBetween(t, "one goes", version(3, 1, a, b), version(3, 1, a), edit(3, 1, []int{2}))
	wantBetween(t, "one for the other", version(2, 0, a), version(3, 1, b), edit(3, 1, []int{1}, b))
	wantBetween(t, "all come", version(1, 0), version(3, 1, a, b), edit(3, 1, nil, a, b))
	wantBetween(t, "all go", version(3, 1, a, b), version(4, 2), edit(4, 2, []int{1, 2}))
	wantBetween(t, "nothing but Next and Seq", version(3, 1, a, b), version(5, 7, a, b), edit(5, 7, nil))
}

func TestBetweenWithSomethingUnlike(t *testing.T) {
	m := meta(5, 1, "d", "f")
	for name, other := range map[string]impl.Meta{
		"level":       meta(5, 2, "d", "f"),
		"level 0":     meta(5, 0, "d", "f"),
		"Least":       meta(5, 1, "e", "f"),
		"Least, more": meta(5, 1, "d\x00", "f"),
		"Most":        meta(5, 1, "d", "e"),
		"Most, more":  meta(5, 1, "d", "f\x00"),
		"all":         meta(5, 3, "x", "y"),
	} {
		first, last := meta(1, 1, "a", "b"), meta(7, 3, "g", "h")
		a, b := version(9, 3, first, m, last), version(9, 3, first, other, last)
		wantBetween(t, name+" unlike", a, b, edit(9, 3, []int{5}, other))
		wantBetween(t, name+" unlike, turned", b, a, edit(9, 3, []int{5}, m))
		wantApplied(t, name+" unlike", a, edit(9, 3, []int{5}, other), b)
	}
	// The same file under another number is another one.
	a, b := version(9, 3, meta(5, 1, "d", "f")), version(9, 3, meta(6, 1, "d", "f"))
	wantBetween(t, "number unlike", a, b, edit(9, 3, []int{5}, meta(6, 1, "d", "f")))
}

func TestBetweenAVersionAndItself(t *testing.T) {
	for name, v := range manyVersions() {
		wantBetween(t, name, v, v, edit(v.Next, v.Seq, nil))
		wantBetween(t, name+", copied", v, copiedVersion(v), edit(v.Next, v.Seq, nil))
		wantBetween(t, name+", from the first on", impl.NewVersion(), v, edit(v.Next, v.Seq, nil, v.Metas...))
	}
}

func TestBetweenWhereNextOrSeqFalls(t *testing.T) {
	l := fairVersion().Metas
	for next := 10; next < 15; next++ {
		for seq := 3; seq < 8; seq++ {
			a, b := version(12, 5, l...), version(next, seq, l[1:]...)
			what := fmt.Sprint("Next ", next, " Seq ", seq)
			if next >= 12 && seq >= 5 {
				wantBetween(t, what, a, b, edit(next, seq, []int{2}))
			} else {
				wantNoBetween(t, what, a, b)
			}
		}
	}
	wantNoBetween(t, "Next by one", version(greatestNext, 0), version(greatestNext-1, greatestSeq))
	wantNoBetween(t, "Seq by one", version(1, greatestSeq), version(greatestNext, greatestSeq-1))
}

// wantOneOfTheOther is promise 9 for two versions; it tells whether there is an edit between them.
func wantOneOfTheOther(t *testing.T, what string, a impl.Version, b impl.Version) bool {
	t.Helper()
	want, between := betweenByHand(a, b)
	if !between {
		wantNoBetween(t, what, a, b)
		return false
	}
	wantBetween(t, what, a, b, want)
	e, _ := impl.EditBetween(a, b)
	wantApplied(t, what, a, e, b)
	if s, ok := impl.EditBytes(e); ok {
		back, _ := impl.ReadEdit(s)
		wantApplied(t, what+", from its bytes", a, back, b)
	} else if len(editByHand(e)) <= 1000 {
		t.Errorf("%s: EditBytes of %s is refused", what, shown(e))
	}
	return true
}

func TestTheEditBetweenMakesOneOfTheOther(t *testing.T) {
	edits := 0
	for an, a := range manyVersions() {
		for bn, b := range manyVersions() {
			for _, b := range []impl.Version{b, version(max(a.Next, b.Next), max(a.Seq, b.Seq), b.Metas...)} {
				if wantOneOfTheOther(t, an+" to "+bn, a, b) {
					edits++
				}
			}
		}
	}
	if edits < 1000 {
		t.Errorf("only %d edits", edits)
	}
}

func TestTheEditBetweenALongChainOfVersions(t *testing.T) {
	for seed := range 20 {
		v := someVersion(20, seed)
		for i := range 30 {
			later := laterThan(v, seed*100+i)
			if !wantOneOfTheOther(t, fmt.Sprint("chain ", seed, " at ", i), v, later) {
				t.Errorf("chain %d at %d: no edit", seed, i)
			}
			v = later
		}
	}
}

func TestBetweenVersionsThatAreNotGood(t *testing.T) {
	for name, v := range badVersions() {
		for other, good := range manyVersions() {
			wantNoBetween(t, name+" to "+other, v, good)
			wantNoBetween(t, other+" to "+name, good, v)
		}
	}
}
