package tests

import (
	"math"
	"testing"

	"loop.example/g00224/impl"
)

// edgeNumbers are the least and the greatest number of each count of bytes, their neighbours, and some between.
func edgeNumbers() []int {
	l := []int{0, 1, 2, 42, 300, 1000, 65535, 1000000000, math.MaxInt - 1, math.MaxInt}
	for bits := 7; bits < 63; bits += 7 {
		edge := 1 << bits
		l = append(l, edge-2, edge-1, edge, edge+1, edge+edge/2, edge*85)
	}
	return l
}

func TestNumbersAsBytes(t *testing.T) {
	cases := []struct {
		n    int
		want string
	}{
		{0, "\x00"}, {1, "\x01"}, {127, "\x7f"}, {128, "\x80\x01"}, {129, "\x81\x01"}, {255, "\xff\x01"}, {300, "\xac\x02"},
		{16383, "\xff\x7f"}, {16384, "\x80\x80\x01"}, {16385, "\x81\x80\x01"}, {1000000, "\xc0\x84\x3d"},
		{1<<56 - 1, "\xff\xff\xff\xff\xff\xff\xff\x7f"},
		{1 << 56, "\x80\x80\x80\x80\x80\x80\x80\x80\x01"},
		{math.MaxInt, "\xff\xff\xff\xff\xff\xff\xff\xff\x7f"},
	}
	for _, c := range cases {
		if s, ok := impl.VarBytes(c.n); s != c.want || !ok {
			t.Errorf("VarBytes(%d): %q %v, want %q", c.n, s, ok, c.want)
		}
		wantVar(t, c.want, c.n, len(c.want))
	}
}

func TestNumbersHaveOneByteForSevenBits(t *testing.T) {
	for count := 1; count <= 9; count++ {
		least, greatest := 1<<(7*count-7), math.MaxInt
		if count < 9 {
			greatest = 1<<(7*count) - 1
		}
		for _, n := range []int{least, greatest} {
			if s, _ := impl.VarBytes(n); len(s) != count {
				t.Errorf("VarBytes(%d) has %d bytes, want %d", n, len(s), count)
			}
		}
	}
}

func TestNumbersBelowNoughtHaveNoBytes(t *testing.T) {
	for _, n := range []int{-1, -2, -127, -128, -129, -300, math.MinInt + 1, math.MinInt} {
		if s, ok := impl.VarBytes(n); s != "" || ok {
			t.Errorf("VarBytes(%d): %q %v, want nothing", n, s, ok)
		}
	}
}

func TestNumbersComeBackWhateverStandsBehind(t *testing.T) {
	behind := []string{"", "\x00", "\x01", "\x7f", "\x80", "\xff", "\x80\x00", "\xff\xff\xff\xff\xff\xff\xff\xff\xff\xff\xff", mixed(40, 1), sized(5000)}
	numbers := edgeNumbers()
	for n := range 20000 {
		numbers = append(numbers, n)
	}
	for _, n := range numbers {
		s, ok := impl.VarBytes(n)
		if !ok {
			t.Fatalf("VarBytes(%d) is refused", n)
		}
		for _, b := range behind {
			wantVar(t, s+b, n, len(s))
		}
	}
}

func TestNumbersThatAreNotEnded(t *testing.T) {
	for _, n := range edgeNumbers() {
		s, _ := impl.VarBytes(n)
		for cut := range len(s) {
			wantVar(t, s[:cut], 0, 0)
		}
	}
	for count := range 30 {
		wantVar(t, repeated(0x80, count), 0, 0)
		wantVar(t, repeated(0xff, count), 0, 0)
	}
}

func TestNumbersWhoseLastByteIsNought(t *testing.T) {
	wantVar(t, "\x00", 0, 1)
	wantVar(t, "\x00\x00", 0, 1)
	wantVar(t, "\x00\x80\x00", 0, 1)
	for count := 1; count <= 9; count++ {
		for _, c := range []byte{0x80, 0x81, 0xff} {
			wantVar(t, repeated(c, count)+"\x00", 0, 0)
			wantVar(t, repeated(c, count)+"\x00\x01", 0, 0)
		}
	}
	// A nought in between is no fault: it is the last byte that may not be 0.
	wantVar(t, "\x80\x80\x01", 1<<14, 3)
}

func TestNumbersOfTooManyBytes(t *testing.T) {
	wantVar(t, repeated(0x80, 8)+"\x01", 1<<56, 9)
	wantVar(t, repeated(0x80, 8)+"\x7f", 127<<56, 9)
	wantVar(t, repeated(0xff, 8)+"\x7f", math.MaxInt, 9)
	for _, last := range []string{"\x01", "\x00", "\x7f", "\x80", "\x80\x01"} {
		wantVar(t, repeated(0x80, 9)+last, 0, 0)
		wantVar(t, repeated(0xff, 9)+last, 0, 0)
	}
}

// Of each text of two bytes either the number is taken whose bytes stand there, or there is none.
func TestNumbersOfAllShortTexts(t *testing.T) {
	at := map[string]int{}
	for n := range 1 << 14 {
		s, _ := impl.VarBytes(n)
		at[s] = n
	}
	for i := range 1 << 16 {
		s := string([]byte{byte(i >> 8), byte(i)})
		n, took := 0, 0
		if x, ok := at[s[:1]]; ok {
			n, took = x, 1
		} else if x, ok := at[s]; ok {
			n, took = x, 2
		}
		wantVar(t, s, n, took)
	}
	if len(at) != 1<<14 {
		t.Errorf("%d numbers have %d forms", 1<<14, len(at))
	}
}
