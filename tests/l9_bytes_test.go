package tests

import (
	"fmt"
	"math"
	"slices"
	"strings"
	"testing"

	"loop.example/g00224/impl"
)

func TestEditBytesByHand(t *testing.T) {
	wantEditBytes(t, "nothing", edit(1, 0, nil), "\x01\x00\x00\x00")
	wantEditBytes(t, "Next and Seq", edit(127, 127, nil), "\x7f\x7f\x00\x00")
	wantEditBytes(t, "Next and Seq of two bytes", edit(128, 300, nil), "\x80\x01\xac\x02\x00\x00")
	wantEditBytes(t, "the greatest", edit(100001, 1000000000, nil), "\xa1\x8d\x06\x80\x94\xeb\xdc\x03\x00\x00")
	wantEditBytes(t, "drops", edit(9, 3, []int{1, 127, 128, 100000}), "\x09\x03\x04\x01\x7f\x80\x01\xa0\x8d\x06\x00")
	wantEditBytes(t, "an add", edit(9, 3, nil, meta(5, 2, "ab", "abc")), "\x09\x03\x00\x01\x05\x02\x02ab\x03abc")
	wantEditBytes(t, "an add of all sizes", edit(9, 3, nil, meta(100000, 3, "\x00", sized(16))), "\x09\x03\x00\x01\xa0\x8d\x06\x03\x01\x00\x10xxxxxxxxxxxxxxxx")
	wantEditBytes(t, "both", edit(9, 3, []int{4, 6}, meta(4, 0, "a", "a"), meta(7, 1, "b", "c")), "\x09\x03\x02\x04\x06\x02\x04\x00\x01a\x01a\x07\x01\x01b\x01c")
}

func TestEditsComeBackFromTheirBytes(t *testing.T) {
	whole := 0
	for name, e := range manyEdits() {
		if s := editByHand(e); len(s) <= 1000 {
			wantEditBytes(t, name, e, s)
			whole++
		} else {
			wantNoEditBytes(t, name, e)
			wantNotRead(t, name, s)
		}
	}
	if whole < 30 {
		t.Errorf("only %d edits have bytes", whole)
	}
	for seed := range 300 {
		v := someVersion(seed%60, seed)
		e, _ := betweenByHand(v, laterThan(v, seed))
		wantEditBytes(t, fmt.Sprint("between ", seed), e, editByHand(e))
	}
}

// longAdds are 27 metas of 36 bytes each; with four bytes of numbers ahead an edit of them has 976.
func longAdds() []impl.Meta {
	var l []impl.Meta
	for i := range 27 {
		l = append(l, meta(i+1, i%4, repeated(byte(i), 16), repeated(byte(i+1), 16)))
	}
	return l
}

// longEdits are edits of all sizes about MaxFrame: by the size of a key, and by how many they drop.
func longEdits() map[string]impl.Edit {
	l := map[string]impl.Edit{}
	for size := 1; size <= 16; size++ {
		l[fmt.Sprint("a key of ", size)] = edit(99, 5, nil, append(longAdds(), meta(90, 2, repeated('a', size), repeated('z', 16)))...)
	}
	for many := range 31 {
		l[fmt.Sprint(many, " drops")] = edit(99, 5, numbersOf(rowOfMetas(many, 1, 0)), longAdds()...)
	}
	l["the greatest"] = edit(greatestNext, greatestSeq, numbersOf(rowOfMetas(30, greatestNumber-29, 0)))
	for i := range 30 {
		e := l["the greatest"]
		l["the greatest"] = edit(e.Next, e.Seq, e.Drop, append(e.Add, meta(greatestNumber-29+i, 3, repeated(0xff, 16), repeated(0xff, 16)))...)
	}
	return l
}

func TestEditsOfMaxFrameBytes(t *testing.T) {
	seen := map[int]int{}
	for name, e := range longEdits() {
		s := editByHand(e)
		seen[len(s)]++
		if len(s) <= 1000 {
			wantEditBytes(t, name, e, s)
			wantRecovered(t, name, frameByLibrary(editByHand(edit(99, 5, nil, e.Add...))), version(99, 5, e.Add...), 1)
		} else {
			wantNoEditBytes(t, name, e)
			wantNotRead(t, name, s)
			wantRecovered(t, name, frameByLibrary(s), version(1, 0), 0)
		}
	}
	for _, size := range []int{998, 999, 1000, 1001, 1002, 1240} {
		if seen[size] == 0 {
			t.Errorf("no edit of %d bytes", size)
		}
	}
}

// fairEdits are the edits whose bytes are told wrong in what follows.
func fairEdits() map[string]impl.Edit {
	return map[string]impl.Edit{
		"nothing":   edit(1, 0, nil),
		"drops":     edit(300, 1000, []int{1, 2, 200, 20000}),
		"one add":   edit(9, 3, nil, meta(5, 2, "ab", "abc")),
		"both":      edit(9, 3, []int{4, 6}, meta(4, 0, "a", "a"), meta(7, 1, "b", "c")),
		"sizes":     edit(100001, 1000000000, []int{127, 128, 100000}, meta(127, 0, "\x01", sized(16)), meta(128, 3, repeated(0, 16), "a"), meta(100000, 1, "\x80", "\xff")),
		"noughts":   edit(1, 0, []int{1}, meta(1, 0, "\x00", "\x00\x00"), meta(2, 0, "\x00\x00", "\x00\x00\x00")),
		"like ones": edit(1, 1, []int{1}, meta(1, 1, "\x01", "\x01"), meta(2, 1, "\x01", "\x01")),
	}
}

func TestEditBytesCutOff(t *testing.T) {
	for name, e := range fairEdits() {
		s := editByHand(e)
		for n := range len(s) {
			wantNotRead(t, fmt.Sprint(name, ", ", n, " left"), s[:n])
			wantReadOrNone(t, fmt.Sprint(name, ", ", n+1, " cut off ahead"), s[n+1:])
			wantReadOrNone(t, fmt.Sprint(name, ", without byte ", n), s[:n]+s[n+1:])
		}
		wantEditBytes(t, name, e, s)
	}
	for name, e := range manyEdits() {
		s := editByHand(e)
		for n := range len(s) {
			wantNotRead(t, fmt.Sprint(name, ", ", n, " left"), s[:n])
		}
	}
}

func TestBytesBehindAnEdit(t *testing.T) {
	for name, e := range fairEdits() {
		s := editByHand(e)
		for c := range 256 {
			wantNotRead(t, name+", a byte behind", s+string([]byte{byte(c)}))
		}
		for _, more := range []string{"\x00\x00", "\x80\x00", "\x01\x00\x00\x00", sized(16), s, sized(1000)} {
			wantNotRead(t, name+", bytes behind", s+more)
			wantReadOrNone(t, name+", bytes ahead", more+s)
			for at := range len(s) {
				wantReadOrNone(t, name+", bytes between", s[:at]+more+s[at:])
			}
		}
	}
}

func TestEachByteOfAnEditChanged(t *testing.T) {
	others := 0
	for name, e := range fairEdits() {
		s := editByHand(e)
		for at := range s {
			for c := range 256 {
				changed := s[:at] + string([]byte{byte(c)}) + s[at+1:]
				if wantReadOrNone(t, fmt.Sprint(name, ", byte ", at), changed) && changed != s {
					others++
				}
				back, ok := impl.ReadEdit(changed)
				if ok && changed != s && sameEdit(back, e) {
					t.Errorf("%s, byte %d changed: the same edit", name, at)
				}
			}
		}
	}
	if others < 100 {
		t.Errorf("only %d of what is changed are other edits", others)
	}
}

func TestEachBitOfEditsTurned(t *testing.T) {
	for name, e := range manyEdits() {
		s := editByHand(e)
		for bit := range 8 * min(len(s), 300) {
			wantReadOrNone(t, fmt.Sprint(name, ", bit ", bit), turned(s, bit))
		}
	}
}

// numbersIn points at each number that an edit's bytes tell, so that one at a time may be told otherwise.
func numbersIn(e *toldEdit) []*string {
	l := []*string{&e.next, &e.seq, &e.drops, &e.adds}
	for i := range e.drop {
		l = append(l, &e.drop[i])
	}
	for i := range e.add {
		m := &e.add[i]
		l = append(l, &m.number, &m.level, &m.leastSize, &m.mostSize)
	}
	return l
}

// toldOtherwise is an edit's bytes with number i told by other bytes.
func toldOtherwise(e impl.Edit, i int, other func(string) string) string {
	told := toldEditOf(e)
	place := numbersIn(&told)[i]
	*place = other(*place)
	return told.text()
}

func TestNumbersOfEditsInALongerForm(t *testing.T) {
	for name, e := range fairEdits() {
		told := toldEditOf(e)
		for i := range numbersIn(&told) {
			what := fmt.Sprint(name, ", number ", i)
			wantNotRead(t, what, toldOtherwise(e, i, longer))
			wantNotRead(t, what+", longer still", toldOtherwise(e, i, func(s string) string { return longer(longer(s)) }))
			wantReadOrNone(t, what+", not there", toldOtherwise(e, i, func(string) string { return "" }))
			wantNotRead(t, what+", without an end", toldOtherwise(e, i, func(string) string { return repeated(0xff, 20) }))
		}
	}
}

func TestNumbersOfEditsThatAreTooGreat(t *testing.T) {
	great := []int{100002, 1000000001, 1 << 31, 1<<32 + 1, 1 << 40, 1<<62 + 1, math.MaxInt, -1, math.MinInt}
	for name, e := range fairEdits() {
		told := toldEditOf(e)
		for i := range numbersIn(&told) {
			for _, n := range great {
				// Seq, number 1, may be a hundred thousand and more.
				if i == 1 && n == 100002 {
					continue
				}
				wantNotRead(t, fmt.Sprint(name, ", number ", i, " is ", n), toldOtherwise(e, i, func(string) string { return numberByLibrary(n) }))
			}
		}
	}
}

func TestCountsOfEditsThatAreNotRight(t *testing.T) {
	for name, e := range fairEdits() {
		for n := range 260 {
			drops, adds := toldEditOf(e), toldEditOf(e)
			drops.drops, adds.adds = numberByLibrary(n), numberByLibrary(n)
			if n != len(e.Drop) {
				wantReadOrNone(t, fmt.Sprint(name, ", ", n, " drops told"), drops.text())
			}
			if n != len(e.Add) {
				wantNotRead(t, fmt.Sprint(name, ", ", n, " adds told"), adds.text())
			}
		}
	}
}

// Bytes that tell more than an edit may have, each of them right by itself.
func TestBytesOfTooMany(t *testing.T) {
	for _, n := range []int{29, 30, 31, 32, 60, 127, 128, 200} {
		drops := edit(300, 5, numbersOf(rowOfMetas(n, 1, 0)))
		adds := edit(300, 5, nil)
		for i := range n {
			adds.Add = append(adds.Add, meta(i+1, 0, "a", "b"))
		}
		for what, e := range map[string]impl.Edit{"drops": drops, "adds": adds} {
			if n <= 30 {
				wantEditBytes(t, fmt.Sprint(n, what), e, editByHand(e))
			} else {
				wantNoEditBytes(t, fmt.Sprint(n, what), e)
				wantNotRead(t, fmt.Sprint(n, what), editByHand(e))
			}
		}
	}
}

// Of all texts of two numbers of a byte each, with nothing dropped and added, those of a good Next and Seq are edits.
func TestAllShortEdits(t *testing.T) {
	read := 0
	for a := range 256 {
		for b := range 256 {
			s := string([]byte{byte(a), byte(b)})
			wantNotRead(t, "two bytes", s)
			wantNotRead(t, "three bytes", s+"\x00")
			if wantReadOrNone(t, "four bytes", s+"\x00\x00") {
				read++
			}
			wantReadOrNone(t, "five bytes", s+"\x01\x01\x00")
			wantReadOrNone(t, "nine bytes", s+"\x00\x01\x01\x01\x01a\x01a")
		}
	}
	if read != 127*128 {
		t.Errorf("%d texts of four bytes are edits, want %d", read, 127*128)
	}
	for c := range 256 {
		wantNotRead(t, "one byte", string([]byte{byte(c)}))
	}
	wantNotRead(t, "no byte", "")
}

func TestAnyTextsAreReadAsEdits(t *testing.T) {
	for seed := range 3000 {
		wantReadOrNone(t, "any text", mixed(seed%120, seed))
		wantReadOrNone(t, "any text behind numbers", "\x05\x05\x00\x01"+mixed(seed%60, seed))
	}
	for _, c := range []byte{0, 1, 2, 16, 127, 128, 255} {
		for _, n := range []int{0, 1, 2, 3, 4, 100, 999, 1000, 1001, 100000} {
			wantReadOrNone(t, "one byte again and again", repeated(c, n))
		}
	}
}

// No two good edits have the same bytes, however alike they are.
func TestNoTwoEditsHaveTheSameBytes(t *testing.T) {
	seen := map[string]impl.Edit{}
	for _, keys := range [][2]string{{"\x01", "\x01"}, {"\x01", "\x01\x01"}, {"\x01\x01", "\x01\x01"}, {"\x00", "\x01"}, {"a", "b"}} {
		for number := 1; number < 4; number++ {
			for level := range 4 {
				for _, drop := range [][]int{nil, {1}, {2}, {1, 2}} {
					e := edit(5, 1, drop, meta(number, level, keys[0], keys[1]))
					s, ok := impl.EditBytes(e)
					if other, there := seen[s]; there || !ok {
						t.Errorf("%s and %s: %q %v", shown(e), shown(other), s, ok)
					}
					seen[s] = e
				}
			}
		}
	}
}

// What edits are told does not hang on how their lists came to be.
func TestEditBytesOfListsOfAnyMaking(t *testing.T) {
	e := fairEdits()["sizes"]
	for n := range 4 {
		drop := append(make([]int, 0, 10*n), e.Drop...)
		add := append(make([]impl.Meta, 0, 10*n), e.Add...)
		wantEditBytes(t, "room behind", edit(e.Next, e.Seq, drop, add...), editByHand(e))
	}
	keys := strings.Clone("abcabc")
	wantEditBytes(t, "keys of one text", edit(5, 1, nil, meta(1, 0, keys[:3], keys[3:])), "\x05\x01\x00\x01\x01\x00\x03abc\x03abc")
	wantEditBytes(t, "empty lists", impl.Edit{Next: 5, Seq: 1, Drop: []int{}, Add: []impl.Meta{}}, "\x05\x01\x00\x00")
	if !slices.Equal(e.Drop, fairEdits()["sizes"].Drop) {
		t.Error("the edit is changed")
	}
}
