package tests

import (
	"fmt"
	"math"
	"slices"
	"testing"

	"loop.example/g00224/impl"
)

// walAnswers are the logs that are made of a log, by what made them.
func walAnswers(w impl.Wal) map[string]impl.Wal {
	out := map[string]impl.Wal{}
	for _, e := range []impl.Entry{{Term: 4, Data: "new"}, {Term: 1000000}, {}} {
		got, _ := impl.AppendWal(w, e)
		out[fmt.Sprint("AppendWal ", e)] = got
	}
	for index := w.First - 2; index <= w.First+len(w.Entries)+2; index++ {
		got, _ := impl.CutWal(w, index)
		out[fmt.Sprint("CutWal ", index)] = got
		got, _ = impl.DropWal(w, index)
		out[fmt.Sprint("DropWal ", index)] = got
	}
	return out
}

func TestNoAnswerSharesMemoryWithTheLog(t *testing.T) {
	for name, w := range manyWals() {
		arg := roomyWal(w)
		answers := walAnswers(arg)
		if !untouchedWal(arg, w) {
			t.Errorf("%s: the log is written into", name)
		}
		fill(whole(arg.Entries), impl.Entry{Term: 9, Data: "scribble"})
		for what, want := range walAnswers(w) {
			if !sameWal(answers[what], want) {
				t.Errorf("%s: %s shares memory with the log, or reads behind it", name, what)
			}
			fill(whole(answers[what].Entries), impl.Entry{Term: 8, Data: "answer"})
		}
		for _, e := range whole(arg.Entries) {
			if e.Data != "scribble" {
				t.Errorf("%s: an answer that is written into changes the log", name)
			}
		}
	}
}

func TestNoEntryFromBehindALogIsHandedOut(t *testing.T) {
	for name, w := range manyWals() {
		for what, got := range walAnswers(roomyWal(w)) {
			for _, e := range whole(got.Entries) {
				if e.Data == "behind" {
					t.Errorf("%s: %s hands out an entry from behind the log", name, what)
				}
			}
		}
	}
}

// What is cut goes for good: nothing of it lies behind the answer's length.
func TestNoEntryThatIsCutIsHandedOut(t *testing.T) {
	w := impl.Wal{First: 1, Entries: entriesOf(40, 3, 5)}
	for index := 1; index <= 41; index++ {
		got, _ := impl.CutWal(w, index)
		for i, e := range whole(got.Entries)[len(got.Entries):] {
			if e != (impl.Entry{}) {
				t.Errorf("CutWal %d hands out %v behind its list, at %d", index, e, i)
			}
		}
	}
}

func TestReadersOfALogWriteIntoNothing(t *testing.T) {
	for name, w := range manyWals() {
		arg := roomyWal(w)
		if !impl.GoodWal(arg) {
			t.Errorf("%s: not good with something behind the list", name)
		}
		next := w.First + len(w.Entries)
		if e, ok := impl.EntryAt(arg, next); ok || e != (impl.Entry{}) {
			t.Errorf("%s: EntryAt reads behind the list: %v", name, e)
		}
		if last, term, ok := impl.LastOf(arg); last != next-1 || term != termAt(w, last) || !ok {
			t.Errorf("%s: LastOf: %d %d %v", name, last, term, ok)
		}
		l, _ := impl.SegmentsOf(arg)
		if !slices.Equal(l, segmentsByHand(t, w)) {
			t.Errorf("%s: SegmentsOf reads behind the list", name)
		}
		if !untouchedWal(arg, w) {
			t.Errorf("%s: a reader writes into the log", name)
		}
		fill(whole(l), "scribble")
		wantSegments(t, name+", again", w, segmentsByHand(t, w)...)
	}
}

func TestOpenWritesIntoNoText(t *testing.T) {
	w := longWal()
	texts := segmentsOf(t, w)
	arg := roomy(texts, "behind")
	before := slices.Clone(whole(arg))
	got, many, ok := impl.OpenWal(arg)
	if many != len(texts) {
		t.Errorf("OpenWal took of %d texts, want %d", many, len(texts))
	}
	if !slices.Equal(whole(arg), before) {
		t.Error("OpenWal writes into its list")
	}
	fill(whole(arg), "scribble")
	wantWal(t, "after its texts are written over", got, ok, w)
	fill(whole(got.Entries), impl.Entry{Term: 9, Data: "scribble"})
	wantOpen(t, "after an answer is written over", texts, w, len(texts))
}

func TestOpenReadsNothingBehindItsTexts(t *testing.T) {
	w := longWal()
	l := segmentsOf(t, w)
	for n := 1; n < len(l); n++ {
		want, many := aheadOf(t, w, l, n, 0)
		wantOpen(t, fmt.Sprint(n, " texts"), l[:n], want, many)
	}
	wantNoOpen(t, "no texts", l[:0])
}

func TestTwoOpenedLogsShareNothing(t *testing.T) {
	w := longWal()
	l := segmentsOf(t, w)
	a, _, _ := impl.OpenWal(l)
	b, _, ok := impl.OpenWal(l)
	fill(whole(a.Entries), impl.Entry{Term: 9, Data: "scribble"})
	wantWal(t, "the second", b, ok, w)
	for i, e := range whole(b.Entries)[len(b.Entries):] {
		if e != (impl.Entry{}) {
			t.Errorf("OpenWal hands out %v behind its list, at %d", e, i)
		}
	}
}

// A log that is not good is not written into either.
func TestLogsThatAreNotGoodAreLeftAsTheyAre(t *testing.T) {
	for fault, w := range badWals() {
		arg := roomyWal(w)
		impl.GoodWal(arg)
		impl.AppendWal(arg, impl.Entry{Term: 1000000})
		for _, index := range []int{math.MinInt, 0, 1, 5, 6, math.MaxInt} {
			impl.CutWal(arg, index)
			impl.DropWal(arg, index)
			impl.EntryAt(arg, index)
		}
		impl.LastOf(arg)
		impl.SegmentsOf(arg)
		if !untouchedWal(arg, w) {
			t.Errorf("%s: the log is written into", fault)
		}
	}
}

// pieces are texts and parts of texts that may follow each other or not.
func pieces(t *testing.T) []string {
	w := fairWal()
	l := []string{"", "\x00", "\xff", "seg", framed(t, ""), framed(t, "seg"), mixed(40, 1)}
	for i := range 4 {
		index, before := w.First+i, termAt(w, w.First+i-1)
		l = append(l, beginningFrame(t, index, before), segmentText(t, index, before, w.Entries[i:i+1]...), segmentText(t, index, before, w.Entries[i:]...), entryFrame(t, index, w.Entries[i]))
	}
	return l
}

// wantSound asks of any texts for what holds of every answer of OpenWal.
func wantSound(t *testing.T, l []string) {
	t.Helper()
	w, many, ok := impl.OpenWal(l)
	if !ok {
		wantNoOpen(t, shown(l), l)
		return
	}
	if many < 1 || many > len(l) || !impl.GoodWal(w) {
		t.Errorf("OpenWal %s: %d of %d texts, %s", shown(l), many, len(l), shown(w))
		return
	}
	wantOpen(t, "the texts that something was taken of", l[:many], w, many)
	back := segmentsOf(t, w)
	wantOpen(t, "its segments", back, w, len(back))
}

func TestAnyTextsAreOpened(t *testing.T) {
	l := pieces(t)
	for _, a := range l {
		wantSound(t, []string{a})
		for _, b := range l {
			wantSound(t, []string{a, b})
			wantSound(t, []string{a + b})
			for _, c := range l {
				wantSound(t, []string{a, b, c})
				wantSound(t, []string{a + b, c})
			}
		}
	}
	for seed := range 500 {
		wantSound(t, []string{mixed(seed, seed), mixed(30, seed)})
	}
}
