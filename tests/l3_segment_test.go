package tests

import (
	"fmt"
	"slices"
	"testing"

	"loop.example/g00224/impl"
)

func wantSegments(t *testing.T, what string, w impl.Wal, want ...string) {
	t.Helper()
	if got, ok := impl.SegmentsOf(w); !slices.Equal(got, want) || !ok {
		t.Errorf("%s: SegmentsOf: %d texts %s %v, want %d texts %s", what, len(got), shown(got), ok, len(want), shown(want))
	}
}

func TestSegmentsAsBytes(t *testing.T) {
	wantSegments(t, "new", impl.Wal{First: 1}, "\x05\x1f\x2f\x0d\x35seg\x01\x00")
	w := impl.Wal{First: 300, Before: 2, Entries: []impl.Entry{{Term: 2}, {Term: 3, Data: "abc"}}}
	wantSegments(t, "small", w, "\x06\xda\x61\xd6\xb3seg\xac\x02\x02"+"\x03\xeb\xf5\xf6\x6a\xac\x02\x02"+"\x06\x0c\x53\x3a\xb7\xad\x02\x03abc")
}

func TestSegmentsOfNoEntries(t *testing.T) {
	for _, w := range []impl.Wal{{First: 1}, {First: 1, Entries: []impl.Entry{}}, {First: 1, Before: 1000000}, {First: 2, Before: 1}, {First: 1000000, Before: 1000000}} {
		l := []string{beginningFrame(t, w.First, w.Before)}
		wantSegments(t, shown(w), w, l...)
		wantOpen(t, shown(w), l, w, 1)
	}
}

// A beginning of two numbers of a byte has 10 bytes, a frame of an entry 7 and its Data.
func TestASegmentEndsAtSegmentSize(t *testing.T) {
	for _, second := range []int{74, 75, 76, 77, 100} {
		w := impl.Wal{First: 1, Entries: []impl.Entry{{Term: 1, Data: mixed(100, 1)}, {Term: 1, Data: mixed(second, 2)}, {Term: 2, Data: "three"}, {Term: 3, Data: "four"}}}
		size := 10 + 107 + 7 + second
		want := []string{segmentText(t, 1, 0, w.Entries[:3]...), segmentText(t, 4, 2, w.Entries[3:]...)}
		if size >= 200 {
			want = []string{segmentText(t, 1, 0, w.Entries[:2]...), segmentText(t, 3, 1, w.Entries[2:]...)}
			if len(want[0]) != size {
				t.Errorf("the first segment has %d bytes, want %d", len(want[0]), size)
			}
		}
		wantSegments(t, fmt.Sprint(size, " bytes"), w, want...)
		wantOpen(t, fmt.Sprint(size, " bytes"), want, w, len(want))
	}
}

func TestNoEmptySegmentFollowsAFullOne(t *testing.T) {
	for _, second := range []int{75, 76} {
		w := impl.Wal{First: 1, Entries: []impl.Entry{{Term: 1, Data: mixed(100, 1)}, {Term: 1, Data: mixed(second, 2)}}}
		text := segmentText(t, 1, 0, w.Entries...)
		if len(text) != 124+second {
			t.Errorf("the segment has %d bytes", len(text))
		}
		wantSegments(t, fmt.Sprint(len(text), " bytes"), w, text)
	}
}

// segmentsByHand goes by what each text is to be: it ends where the entries ahead of its last one are too few bytes.
func segmentsByHand(t *testing.T, w impl.Wal) []string {
	t.Helper()
	var l []string
	text := beginningFrame(t, w.First, w.Before)
	for i, e := range w.Entries {
		if len(text) >= 200 {
			l = append(l, text)
			text = beginningFrame(t, w.First+i, w.Entries[i-1].Term)
		}
		text += entryFrame(t, w.First+i, e)
	}
	return append(l, text)
}

func TestALogComesBackFromItsSegments(t *testing.T) {
	for name, w := range manyWals() {
		l := segmentsByHand(t, w)
		wantSegments(t, name, w, l...)
		wantOpen(t, name, l, w, len(l))
	}
	for n := range len(longWal().Entries) + 1 {
		for from := range n {
			w, _ := impl.DropWal(cutBehind(longWal(), n), longWal().First+from-1)
			l := segmentsByHand(t, w)
			wantSegments(t, shown(w), w, l...)
			wantOpen(t, shown(w), l, w, len(l))
		}
	}
}

func TestAsManySegmentsAsThereMayBe(t *testing.T) {
	w := impl.Wal{First: 1, Entries: entriesOf(41, 1, 100)}
	for n, want := range map[int]int{38: 19, 39: 20, 40: 20} {
		l := segmentsOf(t, cutBehind(w, n))
		if len(l) != want {
			t.Errorf("%d entries: %d segments, want %d", n, len(l), want)
		}
		wantOpen(t, fmt.Sprint(n, " entries"), l, cutBehind(w, n), want)
	}
	if l, ok := impl.SegmentsOf(w); len(l) != 0 || ok {
		t.Errorf("41 entries: %d segments, %v, want nothing", len(l), ok)
	}
	all := impl.Wal{First: 1, Entries: entriesOf(60, 1, 100)}
	if l, ok := impl.SegmentsOf(all); len(l) != 0 || ok {
		t.Errorf("60 entries: %d segments, %v, want nothing", len(l), ok)
	}
	if !impl.GoodWal(all) {
		t.Error("a log with too many segments is good all the same")
	}
}

func TestOpenOfManyTexts(t *testing.T) {
	empty := impl.Wal{First: 7, Before: 3}
	text := beginningFrame(t, 7, 3)
	for _, n := range []int{1, 2, 19, 20} {
		wantOpen(t, fmt.Sprint(n, " texts"), alike(n, text), empty, n)
	}
	for _, n := range []int{21, 22, 100} {
		wantNoOpen(t, fmt.Sprint(n, " texts"), alike(n, text))
	}
	// A text too many is too many, though it would not be taken.
	l := segmentsByHand(t, impl.Wal{First: 1, Entries: entriesOf(40, 1, 100)})
	wantNoOpen(t, "20 texts and an empty one", append(l, ""))
	wantNoOpen(t, "21 texts", segmentsByHand(t, impl.Wal{First: 1, Entries: entriesOf(41, 1, 100)}))
}

func TestOpenOfNoTexts(t *testing.T) {
	wantNoOpen(t, "nil", nil)
	wantNoOpen(t, "none", []string{})
	wantNoOpen(t, "an empty text", []string{""})
	wantNoOpen(t, "two empty texts", []string{"", ""})
}

// aheadOf is what must come back where the first frame of text i that is not taken is number k.
func aheadOf(t *testing.T, w impl.Wal, l []string, i int, k int) (impl.Wal, int) {
	t.Helper()
	n := 0
	for _, text := range l[:i] {
		n += len(frameEnds(t, text)) - 1
	}
	if k == 0 {
		return cutBehind(w, n), i
	}
	return cutBehind(w, n+k-1), i + 1
}

// wantAhead opens a log of texts of which text i is at fault from its frame k on.
func wantAhead(t *testing.T, what string, w impl.Wal, l []string, torn []string, i int, k int) {
	t.Helper()
	want, many := aheadOf(t, w, l, i, k)
	if many == 0 {
		wantNoOpen(t, what, torn)
		return
	}
	wantOpen(t, what, torn, want, many)
}

// endedBy counts the frames that end within the first n bytes.
func endedBy(ends []int, n int) int {
	k := 0
	for _, end := range ends {
		if end <= n {
			k++
		}
	}
	return k
}

// withText is a list of texts with another one at i.
func withText(l []string, i int, text string) []string {
	out := slices.Clone(l)
	out[i] = text
	return out
}

func tornLogs() map[string]impl.Wal {
	return map[string]impl.Wal{"long": longWal(), "fair": fairWal(), "two to a segment": {First: 1, Entries: entriesOf(8, 1, 100)}, "empty": {First: 3, Before: 9}}
}

func TestOfSegmentsThatAreCutWhatIsAheadComesBack(t *testing.T) {
	for name, w := range tornLogs() {
		l := segmentsOf(t, w)
		for i, text := range l {
			ends := frameEnds(t, text)
			for cut := range len(text) {
				what := fmt.Sprint(name, ": text ", i, " cut at ", cut)
				torn := withText(l, i, text[:cut])
				wantAhead(t, what, w, l, torn, i, endedBy(ends, cut))
				wantAhead(t, what+", the last", w, l, torn[:i+1], i, endedBy(ends, cut))
			}
		}
	}
}

func TestOfSegmentsWithATurnedBitWhatIsAheadComesBack(t *testing.T) {
	for name, w := range tornLogs() {
		l := segmentsOf(t, w)
		for i, text := range l {
			ends := frameEnds(t, text)
			for bit := range len(text) * 8 {
				what := fmt.Sprint(name, ": text ", i, ", bit ", bit)
				wantAhead(t, what, w, l, withText(l, i, turned(text, bit)), i, endedBy(ends, bit/8))
			}
		}
	}
}

func TestOfSegmentsWithBytesBehindWhatIsAheadComesBack(t *testing.T) {
	w := longWal()
	l := segmentsOf(t, w)
	for i, text := range l {
		for _, behind := range []string{"\x00", "\xff", "seg", text[:9], sized(300)} {
			what := fmt.Sprintf("text %d with %.10q behind", i, behind)
			wantAhead(t, what, w, l, withText(l, i, text+behind), i, len(frameEnds(t, text)))
			wantAhead(t, what+" ahead", w, l, withText(l, i, behind+text), i, 0)
		}
	}
}

// Of the texts from one on the log is there that begins with it.
func TestSegmentsOfWhichTheFirstOnesAreLeftOut(t *testing.T) {
	for name, w := range tornLogs() {
		l := segmentsOf(t, w)
		for i := range l {
			ahead, _ := aheadOf(t, w, l, i, 0)
			want, _ := impl.DropWal(w, w.First+len(ahead.Entries)-1)
			wantOpen(t, fmt.Sprint(name, ": from text ", i), l[i:], want, len(l)-i)
		}
	}
}

func TestSegmentsOfWhichOneIsLeftOut(t *testing.T) {
	for name, w := range tornLogs() {
		l := segmentsOf(t, w)
		for i := 1; i < len(l); i++ {
			what := fmt.Sprint(name, ": without text ", i)
			wantAhead(t, what, w, l, slices.Delete(slices.Clone(l), i, i+1), i, 0)
			wantAhead(t, what+", it is empty", w, l, withText(l, i, ""), i, 0)
			wantAhead(t, what+", the one ahead twice", w, l, withText(l, i, l[i-1]), i, 0)
			wantAhead(t, what+", nor what follows", w, l, l[:i], i, 0)
		}
	}
}

func TestSegmentsInAnotherOrder(t *testing.T) {
	for name, w := range tornLogs() {
		l := segmentsOf(t, w)
		for i := range l {
			for j := i + 1; j < len(l); j++ {
				other := withText(withText(l, i, l[j]), j, l[i])
				what := fmt.Sprint(name, ": texts ", i, " and ", j, " changed")
				if i > 0 {
					wantAhead(t, what, w, l, other, i, 0)
					continue
				}
				want, _, _ := impl.OpenWal(l[j : j+1])
				wantOpen(t, what, other, want, 1)
			}
		}
	}
}

func TestSegmentsThatComeTwice(t *testing.T) {
	w := longWal()
	l := segmentsOf(t, w)
	for i := range l {
		twice := slices.Insert(slices.Clone(l), i, l[i])
		want, many := aheadOf(t, w, l, i, len(frameEnds(t, l[i])))
		wantOpen(t, fmt.Sprint("text ", i, " twice"), twice, want, many)
	}
}

// wrongFrames has what is no entry behind entry 6 of term 4; each frame is whole.
func wrongFrames(t *testing.T) map[string]string {
	return map[string]string{
		"the same index again":    entryFrame(t, 6, impl.Entry{Term: 4}),
		"an index left out":       entryFrame(t, 8, impl.Entry{Term: 4}),
		"index 0":                 entryFrame(t, 0, impl.Entry{Term: 4}),
		"a very great index":      entryFrame(t, 1<<62, impl.Entry{Term: 4}),
		"a term below":            entryFrame(t, 7, impl.Entry{Term: 3}),
		"term 0":                  entryFrame(t, 7, impl.Entry{}),
		"term 1000001":            entryFrame(t, 7, impl.Entry{Term: 1000001}),
		"101 bytes":               entryFrame(t, 7, impl.Entry{Term: 4, Data: sized(101)}),
		"an empty frame":          framed(t, ""),
		"an index alone":          framed(t, "\x07"),
		"an index in longer form": framed(t, "\x87\x00\x04x"),
		"a term in longer form":   framed(t, "\x07\x84\x00x"),
		"a beginning":             beginningFrame(t, 7, 4),
	}
}

func TestWrongEntriesEndALog(t *testing.T) {
	first := segmentText(t, 5, 2, impl.Entry{Term: 2, Data: "five"}, impl.Entry{Term: 4, Data: "six"})
	seventh, eighth := impl.Entry{Term: 4, Data: "seven"}, impl.Entry{Term: 5, Data: "eight"}
	ahead := impl.Wal{First: 5, Before: 2, Entries: []impl.Entry{{Term: 2, Data: "five"}, {Term: 4, Data: "six"}}}
	both := impl.Wal{First: 5, Before: 2, Entries: append(slices.Clone(ahead.Entries), seventh, eighth)}
	behind := entryFrame(t, 7, seventh) + entryFrame(t, 8, eighth)
	wantOpen(t, "nothing wrong", []string{first + behind}, both, 1)
	wantOpen(t, "nothing wrong, two texts", []string{first, beginningFrame(t, 7, 4) + behind}, both, 2)
	for fault, frame := range wrongFrames(t) {
		wantOpen(t, fault+", the last", []string{first + frame}, ahead, 1)
		wantOpen(t, fault, []string{first + frame + behind}, ahead, 1)
		wantOpen(t, fault+", a text behind", []string{first + frame, beginningFrame(t, 7, 4) + behind}, ahead, 1)
		second := beginningFrame(t, 7, 4) + frame + behind
		wantOpen(t, fault+", in the second text", []string{first, second}, ahead, 2)
		wantOpen(t, fault+", in the second of three", []string{first, second, beginningFrame(t, 7, 4) + behind}, ahead, 2)
	}
}

// brokenBeginnings has what is no beginning at all, nearly one of index 7 and term 4.
func brokenBeginnings(t *testing.T) map[string]string {
	right := beginningFrame(t, 7, 4)
	return map[string]string{
		"none":                    "",
		"an empty frame":          framed(t, ""),
		"no mark":                 framed(t, "\x07\x04"),
		"another mark":            framed(t, "Seg\x07\x04"),
		"half a mark":             framed(t, "se\x07\x04"),
		"the mark behind":         framed(t, "\x07\x04seg"),
		"the mark alone":          framed(t, "seg"),
		"a byte more":             framed(t, "seg\x07\x04\x00"),
		"a byte less":             framed(t, "seg\x07"),
		"an index in longer form": framed(t, "seg\x87\x00\x04"),
		"a term in longer form":   framed(t, "seg\x07\x84\x00"),
		"a number not ended":      framed(t, "seg\x07\x84"),
		"a sum that is not right": turned(right, 8),
		"a beginning cut":         right[:9],
		"a byte ahead":            "\x01" + right,
		"an entry":                entryFrame(t, 7, impl.Entry{Term: 4, Data: "seven"}),
	}
}

func TestWrongBeginningsEndALog(t *testing.T) {
	first := segmentText(t, 5, 2, impl.Entry{Term: 2, Data: "five"}, impl.Entry{Term: 4, Data: "six"})
	ahead := impl.Wal{First: 5, Before: 2, Entries: []impl.Entry{{Term: 2, Data: "five"}, {Term: 4, Data: "six"}}}
	entry := entryFrame(t, 7, impl.Entry{Term: 4, Data: "seven"})
	wrong := brokenBeginnings(t)
	for _, numbers := range [][2]int{{6, 4}, {8, 4}, {5, 2}, {1, 0}, {0, 0}, {7, 3}, {7, 5}, {7, 0}, {7, 2}, {4, 7}, {1 << 62, 4}, {7, 1 << 62}} {
		wrong[fmt.Sprint("index and term ", numbers)] = beginningFrame(t, numbers[0], numbers[1])
	}
	for fault, begin := range wrong {
		wantOpen(t, fault, []string{first, begin + entry}, ahead, 1)
		wantOpen(t, fault+", a right one behind", []string{first, begin + entry, beginningFrame(t, 7, 4) + entry}, ahead, 1)
		wantOpen(t, fault+", and nothing else", []string{first, begin}, ahead, 1)
	}
}

func TestTheFirstTextNeedsARightBeginning(t *testing.T) {
	entry := entryFrame(t, 7, impl.Entry{Term: 4, Data: "seven"})
	wrong := brokenBeginnings(t)
	for _, numbers := range [][2]int{{0, 4}, {0, 0}, {1000001, 4}, {2, 0}, {7, 0}, {1000000, 0}, {7, 1000001}, {1, 1000001}, {1 << 62, 4}, {7, 1 << 62}} {
		wrong[fmt.Sprint("first and before ", numbers)] = beginningFrame(t, numbers[0], numbers[1])
	}
	for fault, begin := range wrong {
		wantNoOpen(t, fault, []string{begin})
		wantNoOpen(t, fault+", an entry behind", []string{begin + entry})
		wantNoOpen(t, fault+", right texts behind", []string{begin + entry, beginningFrame(t, 7, 4) + entry})
	}
}

func TestBeginningsAtTheirEdges(t *testing.T) {
	for _, w := range []impl.Wal{{First: 1}, {First: 1, Before: 1000000}, {First: 2, Before: 1}, {First: 1000000, Before: 1}, {First: 1000000, Before: 1000000}} {
		begin := beginningFrame(t, w.First, w.Before)
		wantOpen(t, shown(w), []string{begin}, w, 1)
		wantOpen(t, shown(w)+", torn", []string{begin + "\xff"}, w, 1)
		wantOpen(t, shown(w)+", torn, one behind", []string{begin + "\xff", begin}, w, 1)
		wantOpen(t, shown(w)+", an empty text behind", []string{begin, ""}, w, 1)
		e := impl.Entry{Term: 1000000, Data: mixed(100, 3)}
		wantOpen(t, shown(w)+", an entry in the second", []string{begin, begin + entryFrame(t, w.First, e)}, impl.Wal{First: w.First, Before: w.Before, Entries: []impl.Entry{e}}, 2)
	}
}

// A further text may begin beyond where a log may.
func TestFurtherSegmentsBeyondTheGreatestFirst(t *testing.T) {
	w := impl.Wal{First: 1000000, Before: 1, Entries: entriesOf(60, 3, 60)}
	l := segmentsOf(t, w)
	if len(l) < 2 {
		t.Fatal("one segment alone")
	}
	wantOpen(t, "all", l, w, len(l))
	wantNoOpen(t, "without the first", l[1:])
}

func TestALogTakesMaxLoggedEntries(t *testing.T) {
	w := impl.Wal{First: 1, Entries: entriesOf(60, 1, 3)}
	more := impl.Entry{Term: 1, Data: "more"}
	a := segmentText(t, 1, 0, w.Entries[:30]...)
	b := segmentText(t, 31, 1, w.Entries[30:]...)
	wantOpen(t, "60", []string{a, b}, w, 2)
	wantOpen(t, "60 and a text without entries", []string{a, b, beginningFrame(t, 61, 1)}, w, 3)
	wantOpen(t, "60 and two such", []string{a, b, beginningFrame(t, 61, 1), beginningFrame(t, 61, 1)}, w, 4)
	wantOpen(t, "61, the last in its text", []string{a, b + entryFrame(t, 61, more)}, w, 2)
	wantOpen(t, "61, the last in a text of its own", []string{a, b, segmentText(t, 61, 1, more)}, w, 3)
	wantOpen(t, "62, each in a text of its own", []string{a, b, segmentText(t, 61, 1, more), segmentText(t, 62, 1, more)}, w, 3)
}

// ReadFrames takes 60 frames of a text: a beginning and 59 entries.
func TestATextTakesMaxFrames(t *testing.T) {
	w := impl.Wal{First: 1, Entries: entriesOf(60, 1, 3)}
	wantOpen(t, "60 frames", []string{segmentText(t, 1, 0, w.Entries[:59]...)}, cutBehind(w, 59), 1)
	wantOpen(t, "60 frames and a text", []string{segmentText(t, 1, 0, w.Entries[:59]...), segmentText(t, 60, 1, w.Entries[59])}, w, 2)
	wantOpen(t, "61 frames", []string{segmentText(t, 1, 0, w.Entries...)}, cutBehind(w, 59), 1)
	wantOpen(t, "61 frames and a text", []string{segmentText(t, 1, 0, w.Entries...), segmentText(t, 60, 1, w.Entries[59])}, cutBehind(w, 59), 1)
}

// The place of a frame tells what it is: index 115 and term 101 are the mark's first bytes.
func TestAnEntryThatLooksLikeABeginning(t *testing.T) {
	w := impl.Wal{First: 115, Before: 100, Entries: []impl.Entry{{Term: 101, Data: "g\x74\x65"}, {Term: 101, Data: "more"}}}
	l := segmentsOf(t, w)
	wantOpen(t, "whole", l, w, 1)
	wantOpen(t, "its entries alone", []string{entryFrame(t, 115, w.Entries[0])}, impl.Wal{First: 116, Before: 101}, 1)
}

// Texts need not be of the size that SegmentsOf gives them.
func TestSegmentsOfAnySize(t *testing.T) {
	w := cutBehind(longWal(), 12)
	for a := range 13 {
		for b := a; b <= 12; b++ {
			l := []string{segmentText(t, 120, 121, w.Entries[:a]...), segmentText(t, 120+a, termAt(w, 119+a), w.Entries[a:b]...), segmentText(t, 120+b, termAt(w, 119+b), w.Entries[b:]...)}
			wantOpen(t, fmt.Sprint("cut at ", a, " and ", b), l, w, 3)
		}
	}
}
