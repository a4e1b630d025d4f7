package tests

import (
	"fmt"
	"strings"
	"testing"

	"loop.example/g00224/impl"
)

// A history is edits one after the other, the text of their frames, where each frame ends, and the versions: the first ahead of all edits.
type history struct {
	edits    []impl.Edit
	text     string
	ends     []int
	versions []impl.Version
}

func historyOf(t *testing.T, l ...impl.Edit) history {
	t.Helper()
	h := history{edits: l, versions: []impl.Version{version(1, 0)}}
	for i, e := range l {
		v, ok := appliedByHand(h.versions[i], e)
		if !ok {
			t.Fatalf("edit %d cannot be applied: %s", i, shown(e))
		}
		h.versions = append(h.versions, v)
		h.text += frameByLibrary(editByHand(e))
		h.ends = append(h.ends, len(h.text))
	}
	return h
}

// someHistory is n edits by which files come, change and go.
func someHistory(t *testing.T, n int, seed int) history {
	t.Helper()
	var l []impl.Edit
	v := version(1, 0)
	for i := range n {
		later := laterThan(v, seed*100+i)
		e, _ := betweenByHand(v, later)
		l = append(l, e)
		v = later
	}
	return historyOf(t, l...)
}

// countingHistory is n short edits: a file comes, then it goes for the next one.
func countingHistory(t *testing.T, n int) history {
	t.Helper()
	var l []impl.Edit
	for i := range n {
		e := edit(i+2, i, nil, meta(i+1, 1, "a", "b"))
		if i > 0 {
			e.Drop = []int{i}
		}
		l = append(l, e)
	}
	return historyOf(t, l...)
}

// wholeAt tells how many frames end at n bytes or ahead of it.
func (h history) wholeAt(n int) int {
	many := 0
	for many < len(h.ends) && h.ends[many] <= n {
		many++
	}
	return many
}

// beginAt is where frame i begins, or would.
func (h history) beginAt(i int) int {
	if i == 0 {
		return 0
	}
	return h.ends[i-1]
}

func (h history) last() impl.Version {
	return h.versions[len(h.versions)-1]
}

func manyHistories(t *testing.T) map[string]history {
	t.Helper()
	l := map[string]history{
		"none":        historyOf(t),
		"one":         historyOf(t, edit(3, 7, nil, meta(1, 1, "a", "c"), meta(2, 1, "d", "f"))),
		"nothing":     historyOf(t, edit(1, 0, nil), edit(1, 0, nil)),
		"to the ends": historyOf(t, edit(greatestNext, greatestSeq, nil), edit(greatestNext, greatestSeq, nil, meta(greatestNumber, 3, "a", "b"))),
		"full":        historyOf(t, edit(31, 1, nil, rowOfMetas(30, 1, 1)...), edit(61, 2, numbersOf(rowOfMetas(30, 1, 1)), rowOfMetas(30, 31, 1)...)),
		"long":        historyOf(t, edit(99, 5, nil, rowOfLongMetas()...), edit(99, 6, []int{1}), edit(100, 7, nil)),
		"counting":    countingHistory(t, 20),
	}
	for seed := range 8 {
		l[fmt.Sprint("some ", seed)] = someHistory(t, 3*seed, seed)
	}
	return l
}

// rowOfLongMetas make an edit of just MaxFrame bytes, with numbers of four bytes ahead.
func rowOfLongMetas() []impl.Meta {
	return append(longAdds(), meta(90, 0, repeated('a', 4), repeated('z', 16)))
}

func TestRecoverTheEmptyText(t *testing.T) {
	wantRecovered(t, "the empty text", "", version(1, 0), 0)
}

func TestRecoverAWholeText(t *testing.T) {
	for name, h := range manyHistories(t) {
		wantRecovered(t, name, h.text, h.last(), len(h.edits))
	}
}

// Promise 9: of a text that is cut at every byte the version after as many edits as are whole there.
func TestRecoverOfATextThatIsCut(t *testing.T) {
	for name, h := range manyHistories(t) {
		for n := range len(h.text) + 1 {
			many := h.wholeAt(n)
			wantRecovered(t, fmt.Sprint(name, ", cut at ", n), h.text[:n], h.versions[many], many)
		}
	}
}

func TestRecoverOfATextThatIsTorn(t *testing.T) {
	for name, h := range manyHistories(t) {
		for _, torn := range []string{"\x00", "\x01", "\xff", "torn", repeated(0, 3), repeated(0, 40), repeated(0xff, 40), mixed(300, 1), "\x05\x00\x00\x00\x00abcde"} {
			// Five noughts are the frame of no bytes, which is no edit.
			wantRecovered(t, name+", something behind", h.text+torn, h.last(), len(h.edits))
			for i := range len(h.edits) {
				at := h.beginAt(i)
				wantRecovered(t, name+", something between", h.text[:at]+torn+h.text[at:], h.versions[i], i)
				if len(h.edits) < 4 {
					wantRecovered(t, name+", something in place of one", h.text[:at]+torn+h.text[h.ends[i]:], h.versions[i], i)
				}
			}
		}
	}
}

func TestRecoverOfATextWithABitTurned(t *testing.T) {
	for name, h := range manyHistories(t) {
		for bit := range 8 * len(h.text) {
			many := h.wholeAt(bit / 8)
			wantRecovered(t, fmt.Sprint(name, ", bit ", bit), turned(h.text, bit), h.versions[many], many)
		}
	}
}

// wantStopsAt puts a frame ahead of each edit of a history and behind all: what is behind it is not looked at.
func wantStopsAt(t *testing.T, what string, h history, frame func(i int) string) {
	t.Helper()
	for i := range len(h.edits) + 1 {
		at := h.beginAt(i)
		wantRecovered(t, fmt.Sprint(what, " at ", i), h.text[:at]+frame(i)+h.text[at:], h.versions[i], i)
	}
}

func TestRecoverStopsAtFramesThatAreNoEdit(t *testing.T) {
	for name, h := range manyHistories(t) {
		for what, text := range map[string]string{
			"no bytes":        "",
			"a word":          "edit",
			"noughts":         repeated(0, 4),
			"a number short":  "\x05\x05\x00",
			"a byte more":     "\x05\x05\x00\x00\x00",
			"a longer form":   "\x85\x00\x05\x00\x00",
			"Next 0":          "\x00\x05\x00\x00",
			"a full frame":    sized(1000),
			"a frame of them": h.text[:min(len(h.text), 1000)],
			"Next beyond":     editByHand(edit(100002, greatestSeq, nil)),
			"Seq beyond":      editByHand(edit(100001, greatestSeq+1, nil)),
		} {
			wantStopsAt(t, name+", "+what, h, func(int) string { return frameByLibrary(text) })
		}
		wantStopsAt(t, name+", more than a frame may have", h, func(int) string { return frameByLibrary(editByHand(longEdits()["the greatest"])) })
	}
}

func TestRecoverStopsAtEditsThatAreNotGood(t *testing.T) {
	h := countingHistory(t, 5)
	for name, e := range badEdits() {
		wantStopsAt(t, name, h, func(int) string { return frameByLibrary(editByHand(e)) })
	}
}

func TestRecoverStopsAtEditsThatCannotBeApplied(t *testing.T) {
	h := countingHistory(t, 12)
	framedEdit := func(e impl.Edit) string { return frameByLibrary(editByHand(e)) }
	for what, frame := range map[string]func(v impl.Version) impl.Edit{
		"Next below":    func(v impl.Version) impl.Edit { return edit(v.Next-1, v.Seq, nil) },
		"Seq below":     func(v impl.Version) impl.Edit { return edit(v.Next, v.Seq-1, nil) },
		"drops nothing": func(v impl.Version) impl.Edit { return edit(v.Next, v.Seq, []int{50}) },
		"adds what is":  func(v impl.Version) impl.Edit { return edit(v.Next, v.Seq, nil, meta(v.Next-1, 0, "a", "b")) },
		"adds at Next":  func(v impl.Version) impl.Edit { return edit(v.Next, v.Seq, nil, meta(v.Next, 0, "a", "b")) },
		"adds two in one": func(v impl.Version) impl.Edit {
			return edit(99, v.Seq, nil, meta(80, 2, "a", "b"), meta(81, 2, "b", "c"))
		},
		"adds within a key": func(v impl.Version) impl.Edit {
			return edit(99, v.Seq, nil, meta(80, 1, "b", "c"), meta(81, 1, "b", "c"))
		},
	} {
		wantStopsAt(t, what, h, func(i int) string { return framedEdit(frame(h.versions[i])) })
	}
	// An edit that stands there twice drops what is gone, and what is behind it is not looked at.
	for i := 1; i < len(h.edits); i++ {
		again := h.text[:h.ends[i]] + h.text[h.beginAt(i):]
		wantRecovered(t, fmt.Sprint("edit ", i, " twice"), again, h.versions[i+1], i+1)
		without := h.text[:h.beginAt(i)] + h.text[h.ends[i]:]
		wantRecovered(t, fmt.Sprint("without edit ", i), without, h.versions[i], i)
	}
}

func TestRecoverAtMostMaxEdits(t *testing.T) {
	for _, n := range []int{58, 59, 60, 61, 62, 63, 120, 121, 300} {
		h := countingHistory(t, n)
		many := min(n, 60)
		wantRecovered(t, fmt.Sprint(n, " edits"), h.text, h.versions[many], many)
		wantRecovered(t, fmt.Sprint(n, " edits, torn"), h.text+"torn", h.versions[many], many)
		wantRecovered(t, fmt.Sprint(n, " edits, a byte short"), h.text[:len(h.text)-1], h.versions[min(n-1, 60)], min(n-1, 60))
	}
	nothing := frameByLibrary(editByHand(edit(1, 0, nil)))
	for _, n := range []int{1, 59, 60, 61, 1000} {
		wantRecovered(t, fmt.Sprint(n, " that do nothing"), strings.Repeat(nothing, n), version(1, 0), min(n, 60))
	}
	h := countingHistory(t, 60)
	wantRecovered(t, "60 and one that is none", h.text+frameByLibrary("none"), h.last(), 60)
	wantRecovered(t, "one that is none and 60", frameByLibrary("none")+h.text, version(1, 0), 0)
}

// What the versions' own functions tell comes back, too.
func TestRecoverWhatWasWrittenEditByEdit(t *testing.T) {
	for seed := range 10 {
		v, text := impl.NewVersion(), ""
		for i := range 40 {
			later := laterThan(v, seed*50+i)
			e, ok := impl.EditBetween(v, later)
			s, told := impl.EditBytes(e)
			if !ok || !told {
				t.Fatalf("%d: no edit at %d", seed, i)
			}
			text += framed(t, s)
			v = later
			wantRecovered(t, fmt.Sprint("written ", seed, " at ", i), text, v, i+1)
		}
	}
}

func TestRecoverOfAnyTexts(t *testing.T) {
	for seed := range 2000 {
		wantRecovered(t, "any text", mixed(seed%200, seed), version(1, 0), 0)
	}
	for _, c := range []byte{0, 1, 127, 128, 255} {
		for _, n := range []int{1, 5, 1000, 1007, 100000} {
			wantRecovered(t, "one byte again and again", repeated(c, n), version(1, 0), 0)
		}
	}
	wantRecovered(t, "bytes without a frame", editByHand(edit(3, 5, nil)), version(1, 0), 0)
	wantRecovered(t, "a frame in a frame", framed(t, framed(t, editByHand(edit(3, 5, nil)))), version(1, 0), 0)
}
