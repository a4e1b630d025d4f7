package tests

import (
	"fmt"
	"math"
	"testing"

	"loop.example/g00224/impl"
)

func TestEntriesAsBytes(t *testing.T) {
	cases := []struct {
		index int
		e     impl.Entry
		want  string
	}{
		{1, impl.Entry{Term: 1}, "\x01\x01"},
		{1, impl.Entry{Term: 2, Data: "abc"}, "\x01\x02abc"},
		{127, impl.Entry{Term: 128, Data: "\x00"}, "\x7f\x80\x01\x00"},
		{128, impl.Entry{Term: 127, Data: "\xff"}, "\x80\x01\x7f\xff"},
		{300, impl.Entry{Term: 300, Data: "\x80"}, "\xac\x02\xac\x02\x80"},
		{2000000, impl.Entry{Term: 1000000, Data: "z"}, "\x80\x89\x7a\xc0\x84\x3dz"},
	}
	for _, c := range cases {
		if s, ok := impl.EntryBytes(c.index, c.e); s != c.want || !ok {
			t.Errorf("EntryBytes(%d, %v): %q %v, want %q", c.index, c.e, s, ok, c.want)
		}
		wantEntry(t, c.want, c.index, c.e)
	}
}

var someIndexes = []int{1, 2, 127, 128, 300, 16383, 16384, 1000000, 1000001, 1999999, 2000000}
var someTerms = []int{1, 2, 127, 128, 300, 16383, 16384, 999999, 1000000}

func TestEntriesComeBackFromTheirBytes(t *testing.T) {
	for _, index := range someIndexes {
		for _, term := range someTerms {
			for size := 0; size <= 100; size += 1 + size/5*3 {
				e := impl.Entry{Term: term, Data: mixed(size, index+term)}
				want := numberBytes(t, index) + numberBytes(t, term) + e.Data
				if s, ok := impl.EntryBytes(index, e); s != want || !ok {
					t.Errorf("EntryBytes(%d, term %d, %d bytes): %.40q %v, want %.40q", index, term, size, s, ok, want)
				}
				wantEntry(t, want, index, e)
			}
		}
	}
}

func TestEntriesOfAllSizesComeBack(t *testing.T) {
	for size := range 103 {
		e := impl.Entry{Term: 9, Data: mixed(size, size)}
		s, ok := impl.EntryBytes(8, e)
		if size > 100 {
			if s != "" || ok {
				t.Errorf("EntryBytes of %d bytes: %.40q %v", size, s, ok)
			}
			wantNoEntry(t, "\x08\x09"+e.Data)
			continue
		}
		if s != "\x08\x09"+e.Data || !ok {
			t.Errorf("EntryBytes of %d bytes: %.40q %v", size, s, ok)
		}
		wantEntry(t, s, 8, e)
	}
}

func TestEntriesThatHaveNoBytes(t *testing.T) {
	fine := impl.Entry{Term: 1, Data: "x"}
	for _, index := range []int{math.MinInt, -1, 0, 2000001, math.MaxInt} {
		if s, ok := impl.EntryBytes(index, fine); s != "" || ok {
			t.Errorf("EntryBytes(%d): %q %v, want nothing", index, s, ok)
		}
	}
	for _, e := range []impl.Entry{{}, {Data: "x"}, {Term: -1}, {Term: math.MinInt}, {Term: 1000001}, {Term: math.MaxInt}, {Term: 1, Data: sized(101)}, {Term: 1, Data: sized(3000)}} {
		for _, index := range []int{1, 2000000, 0, -1} {
			if s, ok := impl.EntryBytes(index, e); s != "" || ok {
				t.Errorf("EntryBytes(%d, %.40v): %q %v, want nothing", index, fmt.Sprint(e), s, ok)
			}
		}
	}
}

func TestBytesThatAreNoEntry(t *testing.T) {
	for _, index := range []int{0, 2000001, 1 << 40, math.MaxInt} {
		wantNoEntry(t, numberBytes(t, index)+"\x01x")
	}
	for _, term := range []int{0, 1000001, 1 << 40, math.MaxInt} {
		wantNoEntry(t, "\x01"+numberBytes(t, term)+"x")
	}
	for _, s := range []string{"", "\x01", "\x80", "\x80\x01", "\x01\x80", "\x80\x80", "\x00\x00", "\x00\x01", "\x01\x00", repeated(0x80, 9) + "\x01\x01", "\x01" + repeated(0xff, 9) + "\x01", repeated(0xff, 30)} {
		wantNoEntry(t, s)
	}
	wantNoEntry(t, "\x01\x01"+sized(101))
	wantNoEntry(t, "\x01\x01"+sized(5000))
}

func TestNumbersInALongerFormAreNoEntry(t *testing.T) {
	for _, index := range someIndexes {
		for _, term := range someTerms {
			a, b := numberBytes(t, index), numberBytes(t, term)
			wantEntry(t, a+b+"x", index, impl.Entry{Term: term, Data: "x"})
			wantNoEntry(t, longer(a)+b+"x")
			wantNoEntry(t, a+longer(b)+"x")
			wantNoEntry(t, longer(longer(a))+b+"x")
			wantNoEntry(t, longer(a)+b)
			wantNoEntry(t, a+longer(b))
		}
	}
}

// What a text with a byte more or less is taken for is another entry, and the text is all of that one's bytes.
func TestAByteMoreOrLessIsAnotherEntry(t *testing.T) {
	for _, index := range someIndexes {
		for _, term := range someTerms {
			for _, size := range []int{0, 1, 50, 99, 100} {
				e := impl.Entry{Term: term, Data: mixed(size, size)}
				s, _ := impl.EntryBytes(index, e)
				wantAnother(t, s+"\x00", index, e)
				wantAnother(t, s+"\x01", index, e)
				wantAnother(t, s+"\xff", index, e)
				wantAnother(t, "\x01"+s, index, e)
				wantAnother(t, s[1:], index, e)
				wantAnother(t, s[:len(s)-1], index, e)
				if size == 100 {
					wantNoEntry(t, s+"x")
				}
				if size == 0 {
					wantNoEntry(t, s[:len(s)-1])
				}
			}
		}
	}
}

func wantAnother(t *testing.T, s string, index int, e impl.Entry) {
	t.Helper()
	n, got, ok := impl.ReadEntry(s)
	if ok && n == index && got == e {
		t.Errorf("%.40q is taken for entry %d of %.40q", s, index, e.Data)
	}
	wantOwnBytes(t, s)
}

// wantOwnBytes asks that what a text is read as has that text as its bytes.
func wantOwnBytes(t *testing.T, s string) {
	t.Helper()
	n, e, ok := impl.ReadEntry(s)
	if !ok {
		wantNoEntry(t, s)
		return
	}
	if got, ok := impl.EntryBytes(n, e); got != s || !ok {
		t.Errorf("%.40q is read as entry %d of term %d with %.40q, whose bytes are %.40q %v", s, n, e.Term, e.Data, got, ok)
	}
}

func TestAllShortTextsAreReadAsEntries(t *testing.T) {
	taken := 0
	for a := range 256 {
		for b := range 256 {
			s := string([]byte{byte(a), byte(b)})
			want := a >= 1 && a < 128 && b >= 1 && b < 128
			n, e, ok := impl.ReadEntry(s)
			if ok != want || ok && (n != a || e != (impl.Entry{Term: b})) {
				t.Errorf("ReadEntry(%q): %d %v %v, want %v", s, n, e, ok, want)
			}
			for _, c := range []byte{0, 1, 2, 127, 128, 255} {
				wantOwnBytes(t, s+string([]byte{c}))
				wantOwnBytes(t, s+string([]byte{c, c}))
			}
			if ok {
				taken++
			}
		}
	}
	if taken != 127*127 {
		t.Errorf("%d texts of two bytes are entries, want %d", taken, 127*127)
	}
}

func TestAnyTextsAreReadAsEntries(t *testing.T) {
	for seed := range 3000 {
		wantOwnBytes(t, mixed(seed%120, seed))
	}
}
