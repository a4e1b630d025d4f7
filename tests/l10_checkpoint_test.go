package tests

import (
	"fmt"
	"slices"
	"testing"

	"loop.example/g00224/impl"
)

func TestCheckpointsByHand(t *testing.T) {
	wantCheckpoint(t, "new", impl.NewEngine(), []string{"\x01\x00\x00\x00"})
	e, ok := impl.OpenCheckpoint([]string{"\x01\x00\x00\x00"})
	wantEngine(t, "new", e, ok, newKept())
	k := keptIn(9, 7, held(2, 0, put("b", 3, "x"), gone("c", 9)), held(5, 3, put("a", 1, "y")))
	want := []string{
		"\x07\x09\x00\x02" + "\x02\x00\x01b\x01c" + "\x05\x03\x01a\x01a",
		tableByHand([]impl.Item{put("b", 3, "x"), gone("c", 9)}),
		tableByHand([]impl.Item{put("a", 1, "y")}),
	}
	wantCheckpoint(t, "two tables", k.engine(), want)
	e, ok = impl.OpenCheckpoint(want)
	wantEngine(t, "two tables", e, ok, k)
}

func TestNoCheckpointOfItemsInMem(t *testing.T) {
	for name, k := range manyKept() {
		if len(k.mem) > 0 {
			wantNoCheckpoint(t, name, k.engine())
		}
		full := k
		full.seq = max(k.seq, 1)
		for _, x := range []impl.Item{put("\x00q", 1, "x"), gone("\x00q", 0)} {
			wantNoCheckpoint(t, name+", one item", full.withMem(x).engine())
		}
	}
}

func TestEnginesComeBackFromTheirCheckpoints(t *testing.T) {
	for name, k := range manyKept() {
		k = k.withMem()
		want, ok := k.checkpoint()
		if !ok {
			t.Errorf("%s: no checkpoint by hand", name)
		}
		wantCheckpoint(t, name, k.engine(), want)
		e, ok := impl.OpenCheckpoint(want)
		wantEngine(t, name, e, ok, k)
	}
}

// wideFiles are 30 tables whose metas together have edits of just so many bytes; the numbers of the last have more bytes than those of the first.
func wideFiles(bytes int) kept {
	k := keptIn(5, 31)
	for i := range 30 {
		k = k.with(held(i+1, 1, put(fmt.Sprintf("w%02da", i), 1, ""), put(fmt.Sprintf("w%02db", i), 1, "")))
	}
	more := bytes - len(editByHand(edit(k.next, k.seq, nil, k.metas()...)))
	for i, f := range k.files {
		least, most := min(more, 12), min(max(more-12, 0), 12)
		more -= least + most
		k.files[i] = held(f.number, 1, put(f.least()+sized(least), 1, ""), put(f.most()+sized(most), 1, ""))
	}
	return k
}

func TestTheGreatestEditOfACheckpoint(t *testing.T) {
	for _, bytes := range []int{500, 998, 999, 1000, 1001, 1002, 1050} {
		k := wideFiles(bytes)
		text := editByHand(edit(k.next, k.seq, nil, k.metas()...))
		if len(text) != bytes || !isEngineByHand(k.engine()) {
			t.Fatalf("%d bytes: %d are made", bytes, len(text))
		}
		l, ok := k.checkpoint()
		if ok != (bytes <= 1000) {
			t.Errorf("%d bytes: by hand %v", bytes, ok)
		}
		if ok {
			wantCheckpoint(t, fmt.Sprint(bytes, " bytes"), k.engine(), l)
			e, ok := impl.OpenCheckpoint(l)
			wantEngine(t, fmt.Sprint(bytes, " bytes"), e, ok, k)
			continue
		}
		wantGoodEngine(t, fmt.Sprint(bytes, " bytes"), k)
		wantNoCheckpoint(t, fmt.Sprint(bytes, " bytes"), k.engine())
		l = []string{text}
		for _, f := range k.files {
			l = append(l, tableByHand(f.items))
		}
		wantNotOpened(t, fmt.Sprint(bytes, " bytes"), l)
	}
}

// fairCheckpoint is of three tables, of which two lie on one level.
func fairCheckpoint() (kept, []string) {
	k := keptIn(9, 9, held(2, 1, put("b", 3, "x"), gone("d", 9)), held(5, 1, put("f", 1, "y")), held(8, 0, put("a", 4, "z"), put("c", 5, "")))
	l, _ := k.checkpoint()
	return k, l
}

func TestTooFewAndTooManyTexts(t *testing.T) {
	wantNotOpened(t, "nil", nil)
	wantNotOpened(t, "no texts", []string{})
	wantNotOpened(t, "an empty one", []string{""})
	wantNotOpened(t, "many empty ones", make([]string, 10000))
	k, l := fairCheckpoint()
	e, ok := impl.OpenCheckpoint(l)
	wantEngine(t, "all", e, ok, k)
	for n := range l {
		wantNotOpened(t, fmt.Sprint("the first ", n), l[:n])
		wantNotOpened(t, fmt.Sprint("without ", n), slices.Delete(slices.Clone(l), n, n+1))
		for _, other := range append([]string{"", "\x00", sized(2000)}, l...) {
			wantNotOpened(t, fmt.Sprint("one more at ", n), slices.Insert(slices.Clone(l), n, other))
		}
	}
	for _, other := range append([]string{"", "\x00", sized(2000)}, l...) {
		wantNotOpened(t, "one more at the end", append(slices.Clone(l), other))
	}
	wantNotOpened(t, "a table with the edit of none", []string{"\x01\x00\x00\x00", l[1]})
	wantNotOpened(t, "tables without an edit", l[1:])
}

func TestTextsInAnotherOrder(t *testing.T) {
	_, l := fairCheckpoint()
	for i := range l {
		for j := range i {
			other := slices.Clone(l)
			other[i], other[j] = other[j], other[i]
			wantNotOpened(t, fmt.Sprint(i, " and ", j, " in each other's place"), other)
		}
	}
	for i := range l {
		if i > 0 {
			wantNotOpened(t, "turned round", append(slices.Clone(l[i:]), l[:i]...))
		}
	}
	for i := range l {
		for j := range l {
			if i != j {
				other := slices.Clone(l)
				other[i] = l[j]
				wantNotOpened(t, fmt.Sprint(j, " in the place of ", i), other)
			}
		}
	}
}

// wantOpenedOrNone takes any texts: where an engine is opened these are its checkpoint.
func wantOpenedOrNone(t *testing.T, what string, l []string) bool {
	t.Helper()
	e, ok := impl.OpenCheckpoint(l)
	if !ok {
		wantNoEngine(t, what+": OpenCheckpoint", e, ok)
		return false
	}
	if !isEngineByHand(e) {
		t.Errorf("%s: OpenCheckpoint: %s is not good", what, briefly(e))
	}
	wantCheckpoint(t, what, e, l)
	return true
}

func TestTextsThatAreChanged(t *testing.T) {
	_, l := fairCheckpoint()
	for at, s := range l {
		with := func(what string, text string) bool {
			t.Helper()
			other := slices.Clone(l)
			other[at] = text
			return wantOpenedOrNone(t, fmt.Sprintf("text %d %s", at, what), other)
		}
		for n := range len(s) {
			if with("cut", s[:n]) || with("cut at its front", s[n+1:]) {
				t.Errorf("text %d is taken when it is cut at %d", at, n)
			}
		}
		for _, behind := range []string{"\x00", "\x01", " ", s, sized(3000)} {
			if with("longer", s+behind) || with("longer at its front", behind+s) {
				t.Errorf("text %d is taken when it is longer", at)
			}
		}
		for bit := range 8 * len(s) {
			if with("turned", turned(s, bit)) && at > 0 {
				t.Errorf("text %d is taken when bit %d is turned", at, bit)
			}
		}
	}
}

// The numbers and levels of tables stand in the edit alone: where another one is good there, that engine is opened.
func TestEditsOfOtherEngines(t *testing.T) {
	k, l := fairCheckpoint()
	opened := func(what string, e impl.Edit, good bool) {
		t.Helper()
		other := slices.Clone(l)
		other[0] = editByHand(e)
		if wantOpenedOrNone(t, what, other) != good {
			t.Errorf("%s: opened: %v", what, !good)
		}
	}
	m := k.metas()
	opened("as it is", edit(9, 9, nil, m...), true)
	opened("a greater Next", edit(10, 9, nil, m...), true)
	opened("the greatest Next", edit(greatestNext, 9, nil, m...), true)
	opened("Next at a number", edit(8, 9, nil, m...), false)
	opened("Next beyond", edit(greatestNext+1, 9, nil, m...), false)
	opened("a greater Seq", edit(9, 10, nil, m...), true)
	opened("the greatest Seq", edit(9, greatestSeq, nil, m...), true)
	opened("a Seq below an item's", edit(9, 8, nil, m...), false)
	opened("Seq beyond", edit(9, greatestSeq+1, nil, m...), false)
	opened("a drop", edit(9, 9, []int{1}, m...), false)
	opened("a drop of what is added", edit(9, 9, []int{2}, m...), false)
	opened("one meta less", edit(9, 9, nil, m[:2]...), false)
	opened("one meta more", edit(9, 9, nil, meta(1, 3, "z", "z"), m[0], m[1], m[2]), false)
	opened("another number", edit(9, 9, nil, meta(1, 1, "b", "d"), m[1], m[2]), true)
	opened("another level", edit(9, 9, nil, m[0], meta(5, 3, "f", "f"), m[2]), true)
	opened("a level on which it lies on another", edit(9, 9, nil, m[0], m[1], meta(8, 1, "a", "c")), false)
	opened("another Least", edit(9, 9, nil, meta(2, 1, "a", "d"), m[1], m[2]), false)
	opened("another Most", edit(9, 9, nil, meta(2, 1, "b", "e"), m[1], m[2]), false)
	opened("falling numbers", edit(9, 9, nil, m[1], m[0], m[2]), false)
	opened("numbers in each other's place", edit(9, 9, nil, meta(2, 1, "f", "f"), meta(5, 1, "b", "d"), m[2]), false)
}

func TestEditsInAnotherForm(t *testing.T) {
	k, l := fairCheckpoint()
	form := func(what string, text string) {
		t.Helper()
		other := slices.Clone(l)
		other[0] = text
		wantNotOpened(t, what, other)
	}
	told := func() toldEdit { return toldEditOf(edit(k.next, k.seq, nil, k.metas()...)) }
	for what, change := range map[string]func(e *toldEdit){
		"Next":          func(e *toldEdit) { e.next = longer(e.next) },
		"Seq":           func(e *toldEdit) { e.seq = longer(e.seq) },
		"no drops":      func(e *toldEdit) { e.drops = longer(e.drops) },
		"adds":          func(e *toldEdit) { e.adds = longer(e.adds) },
		"a number":      func(e *toldEdit) { e.add[1].number = longer(e.add[1].number) },
		"a level":       func(e *toldEdit) { e.add[0].level = longer(e.add[0].level) },
		"a size":        func(e *toldEdit) { e.add[2].leastSize = longer(e.add[2].leastSize) },
		"the last size": func(e *toldEdit) { e.add[2].mostSize = longer(e.add[2].mostSize) },
	} {
		e := told()
		change(&e)
		form(what+" in a longer form", e.text())
	}
	if told().text() != l[0] {
		t.Error("the edit is told otherwise")
	}
	form("in a frame", frameByLibrary(l[0]))
	form("twice", l[0]+l[0])
	form("in digits", "9 9 0 3")
}

// One item that is in two tables, or in too many: no engine.
func TestCheckpointsOfNoGoodEngine(t *testing.T) {
	for what, k := range map[string]kept{
		"an item twice":   keptIn(9, 9, held(1, 0, put("k", 1, "v")), held(2, 0, put("k", 1, "v"))),
		"alike":           keptIn(9, 9, held(1, 0, put("k", 1, "v")), held(2, 2, gone("k", 1))),
		"an item above":   keptIn(9, 9, held(1, 0, put("k", 10, "v"))),
		"401 items":       keptIn(9, 9, held(1, 0, rowOfItems(120, 1)...), held(2, 0, rowOfItems(120, 2)...), held(3, 0, rowOfItems(120, 3)...), held(4, 0, rowOfItems(41, 4)...)),
		"a key in common": keptIn(9, 9, held(1, 1, put("k", 1, "v")), held(2, 1, put("k", 2, "v"))),
		"121 items":       keptIn(9, 9, held(1, 0, rowOfItems(121, 1)...)),
	} {
		e := k.engine()
		l := []string{editByHand(edit(k.next, k.seq, nil, k.metas()...))}
		for _, s := range e.Tables {
			l = append(l, s.Data)
		}
		wantNotOpened(t, what, l)
		wantNoCheckpoint(t, what, e)
	}
}
