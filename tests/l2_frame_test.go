package tests

import (
	"math"
	"slices"
	"testing"

	"loop.example/g00224/impl"
)

func TestFramesAsBytes(t *testing.T) {
	cases := []struct{ s, want string }{
		{"", "\x00\x00\x00\x00\x00"},
		{"a", "\x01\x30\x43\xd0\xc1a"},
		{"123456789", "\x09\x83\x92\x06\xe3123456789"},
		{repeated(0, 32), "\x20\xaa\x36\x91\x8a" + repeated(0, 32)},
	}
	for _, c := range cases {
		if got := framed(t, c.s); got != c.want {
			t.Errorf("FrameBytes(%q): %q, want %q", c.s, got, c.want)
		}
		wantFrame(t, c.want, c.s, len(c.want))
	}
}

func TestFramesOfAllSizesComeBack(t *testing.T) {
	for n := 0; n <= 1000; n++ {
		s := mixed(n, n)
		size, _ := impl.VarBytes(n)
		sum := impl.SumOf(s)
		want := size + string([]byte{byte(sum), byte(sum >> 8), byte(sum >> 16), byte(sum >> 24)}) + s
		got, ok := impl.FrameBytes(s)
		if got != want || !ok {
			t.Errorf("FrameBytes of %d bytes: %.40q %v, want %.40q", n, got, ok, want)
		}
		for _, behind := range []string{"", "\x00", "\xff", mixed(30, 2), want} {
			wantFrame(t, want+behind, s, len(want))
		}
	}
}

func TestFramesOfTooManyBytes(t *testing.T) {
	for _, n := range []int{1001, 1002, 5000, 100000} {
		s := mixed(n, 1)
		if got, ok := impl.FrameBytes(s); got != "" || ok {
			t.Errorf("FrameBytes of %d bytes: %d bytes, %v", n, len(got), ok)
		}
		// What would be its frame is none, though its sum is right.
		wantNoFrame(t, overlong(s))
		wantFrames(t, overlong(s), nil, 0, false)
		wantFrames(t, framed(t, "ahead")+overlong(s), []string{"ahead"}, 10, false)
	}
}

// overlong makes of a text what FrameBytes would if there were no limit.
func overlong(s string) string {
	size, _ := impl.VarBytes(len(s))
	sum := impl.SumOf(s)
	return size + string([]byte{byte(sum), byte(sum >> 8), byte(sum >> 16), byte(sum >> 24)}) + s
}

func TestFramesThatAreCut(t *testing.T) {
	for _, n := range []int{0, 1, 2, 127, 128, 1000} {
		frame := framed(t, mixed(n, n))
		for cut := range len(frame) {
			wantNoFrame(t, frame[:cut])
			wantFrames(t, frame[:cut], nil, 0, cut == 0)
		}
	}
}

func TestFramesWithATurnedBit(t *testing.T) {
	for _, n := range []int{0, 1, 2, 40, 127, 128, 300} {
		frame := framed(t, mixed(n, n))
		for bit := range len(frame) * 8 {
			wantNoFrame(t, turned(frame, bit))
		}
	}
}

func TestFramesWhoseNumberIsNone(t *testing.T) {
	sum := "\x00\x00\x00\x00"
	for _, number := range []string{"\x80\x00", "\x80", "\x80\x80\x00", repeated(0x80, 9), repeated(0x80, 9) + "\x01", repeated(0x80, 10) + "\x00"} {
		wantNoFrame(t, number+sum)
		wantNoFrame(t, number)
	}
	// A size in a longer form than VarBytes gives it is not what FrameBytes writes.
	wantNoFrame(t, "\x89\x00\x83\x92\x06\xe3123456789")
	for _, n := range []int{1001, 1 << 20, 1 << 32, 1 << 62, math.MaxInt - 13, math.MaxInt - 12, math.MaxInt - 4, math.MaxInt} {
		size, _ := impl.VarBytes(n)
		wantNoFrame(t, size+sum)
		wantNoFrame(t, size+sum+sized(2000))
	}
}

func TestFramesAskForTheirOwnBytes(t *testing.T) {
	// The sum is of the bytes alone, lowest first, and stands ahead of them.
	wantNoFrame(t, "\x09\xe3\x06\x92\x83123456789")
	wantNoFrame(t, "\x09123456789\x83\x92\x06\xe3")
	wantNoFrame(t, "\x08\x83\x92\x06\xe3123456789")
	wantNoFrame(t, "\x0a\x83\x92\x06\xe31234567890")
	wantNoFrame(t, " \x09\x83\x92\x06\xe3123456789")
	wantFrame(t, "\x09\x83\x92\x06\xe31234567890", "123456789", 14)
}

// mixedTexts has texts of many sizes, the empty one and the longest among them.
func mixedTexts() []string {
	return []string{"first", "", mixed(1, 1), mixed(127, 2), mixed(128, 3), "", "", mixed(1000, 4), "last"}
}

func TestTextsComeBackFromTheirFrames(t *testing.T) {
	want := ""
	for n, l := 0, mixedTexts(); n <= len(l); n++ {
		got := framedAll(t, l[:n]...)
		if got != want {
			t.Errorf("FramesBytes of %d texts: %.80q, want %.80q", n, got, want)
		}
		wantFrames(t, got, l[:n], len(got), true)
		if n < len(l) {
			want += framed(t, l[n])
		}
	}
}

func TestFramesOfNoTexts(t *testing.T) {
	for _, l := range [][]string{nil, {}} {
		if s, ok := impl.FramesBytes(l); s != "" || !ok {
			t.Errorf("FramesBytes of no texts: %q %v", s, ok)
		}
	}
	wantFrames(t, "", nil, 0, true)
}

func TestFramesOfManyTexts(t *testing.T) {
	for _, text := range []string{"", "text", mixed(1000, 1)} {
		frame := framed(t, text)
		for _, n := range []int{59, 60} {
			s := framedAll(t, alike(n, text)...)
			wantFrames(t, s, alike(n, text), n*len(frame), true)
			wantFrames(t, s+"\xff", alike(n, text), n*len(frame), false)
		}
		for _, n := range []int{61, 62, 200} {
			if s, ok := impl.FramesBytes(alike(n, text)); s != "" || ok {
				t.Errorf("FramesBytes of %d texts: %d bytes, %v", n, len(s), ok)
			}
		}
		full := framedAll(t, alike(60, text)...)
		wantFrames(t, full+frame, alike(60, text), len(full), false)
		wantFrames(t, full+frame+frame, alike(60, text), len(full), false)
	}
}

func TestFramesOfATextThatIsTooLong(t *testing.T) {
	for _, l := range [][]string{{sized(1001)}, {"a", sized(1001)}, {sized(1001), "a"}, {"a", sized(1001), "b"}, append(alike(59, "a"), sized(1001))} {
		if s, ok := impl.FramesBytes(l); s != "" || ok {
			t.Errorf("FramesBytes with a text of 1001 bytes: %d bytes, %v", len(s), ok)
		}
	}
}

// wholeAhead tells how many frames are whole in the first cut bytes, and how many bytes they have.
func wholeAhead(t *testing.T, l []string, cut int) (int, int) {
	t.Helper()
	size := 0
	for i, s := range l {
		next := size + len(framed(t, s))
		if next > cut {
			return i, size
		}
		size = next
	}
	return len(l), size
}

func TestOfFramesThatAreCutTheWholeOnesAheadComeBack(t *testing.T) {
	l := mixedTexts()
	s := framedAll(t, l...)
	for cut := range len(s) + 1 {
		n, size := wholeAhead(t, l, cut)
		wantFrames(t, s[:cut], l[:n], size, size == cut)
	}
}

func TestOfFramesWithATurnedBitTheWholeOnesAheadComeBack(t *testing.T) {
	l := []string{"first", "", "a", mixed(40, 2), mixed(130, 3), "last"}
	s := framedAll(t, l...)
	for bit := range len(s) * 8 {
		n, size := wholeAhead(t, l, bit/8)
		wantFrames(t, turned(s, bit), l[:n], size, false)
	}
}

func TestOfFramesWithOtherBytesTheWholeOnesAheadComeBack(t *testing.T) {
	l := []string{"one", "two"}
	s := framedAll(t, l...)
	for _, behind := range []string{"\xff", "\x01", "\x00", "\x00\x00\x00\x00", "\x00\x00\x00\x00\x01", "rest", sized(2000)} {
		wantFrames(t, s+behind, l, len(s), false)
		wantFrames(t, behind+s, nil, 0, false)
		wantFrames(t, s[:8]+behind+s[8:], l[:1], 8, false)
	}
	// Five noughts are an empty frame.
	wantFrames(t, s+"\x00\x00\x00\x00\x00", []string{"one", "two", ""}, len(s)+5, true)
}

func TestFramesWriteIntoNoList(t *testing.T) {
	texts := mixedTexts()
	arg := roomy(texts, "behind")
	before := slices.Clone(whole(arg))
	s := framedAll(t, arg...)
	if !slices.Equal(whole(arg), before) {
		t.Error("FramesBytes writes into its list")
	}
	if s != framedAll(t, texts...) {
		t.Error("FramesBytes reads behind its list")
	}
	fill(whole(arg), "scribble")
	wantFrames(t, s, texts, len(s), true)
}

func TestFramesThatAreReadAreNew(t *testing.T) {
	s := framedAll(t, mixedTexts()...)
	first, _, _ := impl.ReadFrames(s)
	second, _, _ := impl.ReadFrames(s)
	fill(whole(first), "scribble")
	if !slices.Equal(second, mixedTexts()) {
		t.Error("two answers of ReadFrames share memory")
	}
	for i, text := range whole(second)[len(second):] {
		if text != "" {
			t.Errorf("ReadFrames hands out %q behind its list, at %d", text, i)
		}
	}
	wantFrames(t, s, mixedTexts(), len(s), true)
}

// Whatever a text is, what is taken from it is what its own frames give back.
func TestAnyTextsAreRead(t *testing.T) {
	texts := []string{"", "\x00", sized(3000), repeated(0, 299), repeated(0, 300), repeated(0, 301), repeated(0x80, 100), repeated(0xff, 100)}
	for seed := range 3000 {
		texts = append(texts, mixed(seed%40, seed), framed(t, mixed(seed%9, seed))+mixed(seed%7, seed))
	}
	for _, s := range texts {
		l, n, all := impl.ReadFrames(s)
		if n < 0 || n > len(s) || len(l) > 60 || all != (n == len(s)) {
			t.Errorf("ReadFrames(%.40q): %d texts, %d bytes, %v", s, len(l), n, all)
			continue
		}
		if back := framedAll(t, l...); back != s[:n] {
			t.Errorf("ReadFrames(%.40q): %.40q does not stand at its front", s, back)
		}
	}
	wantFrames(t, repeated(0, 301), alike(60, ""), 300, false)
}
