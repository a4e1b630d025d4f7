package tests

import (
	"slices"
	"strings"
	"testing"

	"loop.example/g00224/impl"
)

// mixed makes n bytes of all kinds, other ones for each seed.
func mixed(n int, seed int) string {
	out := make([]byte, n)
	x := uint32(seed)*2654435761 + 1
	for i := range out {
		x = x*1664525 + 1013904223
		out[i] = byte(x >> 24)
	}
	return string(out)
}

// turned is s with one bit turned; bits count from the lowest of the first byte.
func turned(s string, bit int) string {
	out := []byte(s)
	out[bit/8] ^= 1 << (bit % 8)
	return string(out)
}

// burst is s with the bits of a pattern turned, the pattern's lowest one at that bit.
func burst(s string, bit int, pattern uint32) string {
	out := []byte(s)
	for i := range 32 {
		if pattern>>i&1 == 1 {
			out[(bit+i)/8] ^= 1 << ((bit + i) % 8)
		}
	}
	return string(out)
}

func xored(a string, b string) string {
	out := []byte(a)
	for i := range out {
		out[i] ^= b[i]
	}
	return string(out)
}

func framed(t *testing.T, s string) string {
	t.Helper()
	frame, ok := impl.FrameBytes(s)
	if !ok {
		t.Fatalf("FrameBytes of %d bytes is refused", len(s))
	}
	return frame
}

func framedAll(t *testing.T, l ...string) string {
	t.Helper()
	s, ok := impl.FramesBytes(l)
	if !ok {
		t.Fatalf("FramesBytes of %d texts is refused", len(l))
	}
	return s
}

func wantVar(t *testing.T, s string, n int, took int) {
	t.Helper()
	if gotN, gotTook := impl.TakeVar(s); gotN != n || gotTook != took {
		t.Errorf("TakeVar(%.40q): %d %d, want %d %d", s, gotN, gotTook, n, took)
	}
}

func wantFrame(t *testing.T, s string, text string, took int) {
	t.Helper()
	if got, n, ok := impl.TakeFrame(s); got != text || n != took || !ok {
		t.Errorf("TakeFrame(%.40q): %.40q %d %v, want %.40q %d true", s, got, n, ok, text, took)
	}
}

func wantNoFrame(t *testing.T, s string) {
	t.Helper()
	if got, n, ok := impl.TakeFrame(s); got != "" || n != 0 || ok {
		t.Errorf("TakeFrame(%.40q): %.40q %d %v, want nothing", s, got, n, ok)
	}
}

func wantFrames(t *testing.T, s string, l []string, took int, all bool) {
	t.Helper()
	got, n, ok := impl.ReadFrames(s)
	if !slices.Equal(got, l) || n != took || ok != all {
		t.Errorf("ReadFrames of %d bytes: %d texts, %d bytes, %v; want %d, %d, %v (%.200q)", len(s), len(got), n, ok, len(l), took, all, got)
	}
}

// alike makes a list of n texts that are one.
func alike(n int, s string) []string {
	return slices.Repeat([]string{s}, n)
}

func repeated(c byte, n int) string {
	return strings.Repeat(string([]byte{c}), n)
}
