package tests

import (
	"hash/crc32"
	"slices"
	"testing"

	"loop.example/g00224/impl"
)

const sumRule = 0x82F63B78

func wordByRule(n int) uint32 {
	w := uint32(n)
	for range 8 {
		fell := w & 1
		w >>= 1
		if fell == 1 {
			w ^= sumRule
		}
	}
	return w
}

func tableByRule() []uint32 {
	var l []uint32
	for n := range 256 {
		l = append(l, wordByRule(n))
	}
	return l
}

func TestSumTableIsAsTheRuleSays(t *testing.T) {
	if got := impl.SumTable(); !slices.Equal(got, tableByRule()) {
		t.Errorf("SumTable: %x", got)
	}
	got := impl.SumTable()
	if len(got) != 256 || got[0] != 0 || got[1] != 0xF26B8303 || got[128] != sumRule || got[255] != 0xAD7D5351 {
		t.Errorf("SumTable: %d words", len(got))
	}
}

func TestSumTableMayBeWrittenInto(t *testing.T) {
	first, second := impl.SumTable(), impl.SumTable()
	fill(whole(first), 7)
	if !slices.Equal(second, tableByRule()) {
		t.Error("two answers of SumTable share memory")
	}
	fill(whole(second), 9)
	if !slices.Equal(impl.SumTable(), tableByRule()) {
		t.Error("a table that is written into changes what SumTable answers")
	}
	if n := impl.SumOf("123456789"); n != 0xE3069283 {
		t.Errorf("a table that is written into changes what SumOf answers: %x", n)
	}
	if n := impl.SumOn(5, "x"); n != wordByRule(5^'x') {
		t.Errorf("a table that is written into changes what SumOn answers: %x", n)
	}
	if s := framed(t, "123456789"); s != "\x09\x83\x92\x06\xe3123456789" {
		t.Errorf("a table that is written into changes what FrameBytes answers: %q", s)
	}
	wantFrame(t, "\x09\x83\x92\x06\xe3123456789", "123456789", 14)
}

func TestKnownSums(t *testing.T) {
	rising := ""
	falling := ""
	for i := range 32 {
		rising += string([]byte{byte(i)})
		falling += string([]byte{byte(31 - i)})
	}
	cases := []struct {
		s    string
		want uint32
	}{
		{"", 0}, {"a", 0xC1D04330}, {"123456789", 0xE3069283},
		{repeated(0, 32), 0x8A9136AA}, {repeated(0xff, 32), 0x62A8AB43}, {rising, 0x46DD794E}, {falling, 0x113FDB5C},
	}
	for _, c := range cases {
		if n := impl.SumOf(c.s); n != c.want {
			t.Errorf("SumOf(%q): %x, want %x", c.s, n, c.want)
		}
	}
	table := crc32.MakeTable(crc32.Castagnoli)
	for n := range 300 {
		s := mixed(n, n)
		if got, want := impl.SumOf(s), crc32.Checksum([]byte(s), table); got != want {
			t.Errorf("SumOf of %d bytes: %x, want %x", n, got, want)
		}
	}
	long := mixed(200000, 3)
	if got, want := impl.SumOf(long), crc32.Checksum([]byte(long), table); got != want {
		t.Errorf("SumOf of a long text: %x, want %x", got, want)
	}
}

var someWords = []uint32{0, 1, 0xff, 0x100, 0x80000000, 0xdeadbeef, 0xfffffffe, 0xffffffff}

func TestSumsOfOneByte(t *testing.T) {
	table := tableByRule()
	for _, w := range someWords {
		if n := impl.SumOn(w, ""); n != w {
			t.Errorf("SumOn(%x, \"\"): %x", w, n)
		}
		for c := range 256 {
			want := table[w&255^uint32(c)] ^ w>>8
			if n := impl.SumOn(w, string([]byte{byte(c)})); n != want {
				t.Errorf("SumOn(%x, byte %d): %x, want %x", w, c, n, want)
			}
		}
	}
}

func TestSumsGoOnFromWhereTheyStopped(t *testing.T) {
	s := mixed(70, 5)
	for _, w := range someWords {
		want := impl.SumOn(w, s)
		for cut := range len(s) + 1 {
			if n := impl.SumOn(impl.SumOn(w, s[:cut]), s[cut:]); n != want {
				t.Errorf("SumOn(%x) stopped at %d: %x, want %x", w, cut, n, want)
			}
		}
	}
	for cut := range len(s) + 1 {
		if n := ^impl.SumOn(^impl.SumOf(s[:cut]), s[cut:]); n != impl.SumOf(s) {
			t.Errorf("SumOf stopped at %d: %x, want %x", cut, n, impl.SumOf(s))
		}
	}
}

func TestSumsAreLinear(t *testing.T) {
	for n := range 80 {
		for seed := range 5 {
			a, b, c := mixed(n, seed), mixed(n, seed+10), mixed(n, seed+20)
			want := impl.SumOf(a) ^ impl.SumOf(b) ^ impl.SumOf(c)
			if got := impl.SumOf(xored(xored(a, b), c)); got != want {
				t.Errorf("three texts of %d bytes xored: %x, want %x", n, got, want)
			}
			word := impl.SumOn(3, a) ^ impl.SumOn(5, b)
			if got := impl.SumOn(3^5, xored(a, b)); got != word {
				t.Errorf("two words and texts of %d bytes xored: %x, want %x", n, got, word)
			}
		}
	}
}

func TestNoTurnedBitGoesUnseen(t *testing.T) {
	for _, s := range []string{"a", "123456789", repeated(0, 33), repeated(0xff, 33), mixed(1000, 8)} {
		for bit := range len(s) * 8 {
			if impl.SumOf(turned(s, bit)) == impl.SumOf(s) {
				t.Errorf("%.20q: bit %d is turned, the sum is as it was", s, bit)
			}
		}
	}
}

func TestNoShortBurstGoesUnseen(t *testing.T) {
	s := mixed(12, 6)
	sum := impl.SumOf(s)
	for bit := range 8 * (len(s) - 4) {
		for pattern := uint32(1); pattern < 1<<11; pattern++ {
			if impl.SumOf(burst(s, bit, pattern)) == sum {
				t.Errorf("burst %b at bit %d: the sum is as it was", pattern, bit)
			}
		}
		x := uint32(bit)
		for range 2000 {
			x = x*1664525 + 1013904223
			for _, pattern := range []uint32{x | 1<<31 | 1, 1<<31 | 1, 1<<32 - 1, sumRule} {
				if impl.SumOf(burst(s, bit, pattern)) == sum {
					t.Errorf("burst %b at bit %d: the sum is as it was", pattern, bit)
				}
			}
		}
	}
}

// Since sums are linear, no burst within 32 bits goes unseen just if what the 32 single bits do to the sum are independent words.
func TestNoBurstOf32BitsGoesUnseen(t *testing.T) {
	s := mixed(40, 7)
	sum := impl.SumOf(s)
	for bit := 0; bit+32 <= len(s)*8; bit++ {
		var done []uint32
		for i := range 32 {
			if d := reduced(done, impl.SumOf(turned(s, bit+i))^sum); d != 0 {
				done = append(done, d)
			}
		}
		if len(done) != 32 {
			t.Errorf("bits %d to %d: a burst of them goes unseen", bit, bit+31)
		}
	}
}

// reduced takes from a word what the words ahead of it make up; 0 where that is all of it.
func reduced(done []uint32, d uint32) uint32 {
	for _, x := range done {
		d = min(d, d^x)
	}
	return d
}
