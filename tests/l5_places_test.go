package tests

import (
	"slices"
	"testing"

	"loop.example/g00224/impl"
)

func TestLimitsOfFilters(t *testing.T) {
	if impl.FilterBits != 256 || impl.MaxHashes != 8 {
		t.Error(impl.FilterBits, impl.MaxHashes)
	}
}

func wantPlaces(t *testing.T, key string, hashes int, want []int) {
	t.Helper()
	if l, ok := impl.PlacesOf(key, hashes); !slices.Equal(l, want) || !ok {
		t.Errorf("PlacesOf %q %d: %v %v, want %v", key, hashes, l, ok, want)
	}
}

// The sums of noughts alone are 0 where they begin at 0: the step is 1 there. That of the last key but one is even.
func TestKnownPlaces(t *testing.T) {
	cases := []struct {
		key  string
		want []int
	}{
		{"a", []int{48, 145, 242, 83, 180, 21, 118, 215}},
		{"one", []int{233, 124, 15, 162, 53, 200, 91, 238}},
		{"two", []int{163, 124, 85, 46, 7, 224, 185, 146}},
		{"\x00", []int{81, 82, 83, 84, 85, 86, 87, 88}},
		{repeated(0, 16), []int{234, 235, 236, 237, 238, 239, 240, 241}},
		{repeated(0xff, 16), []int{16, 11, 6, 1, 252, 247, 242, 237}},
		{sized(16), []int{219, 12, 61, 110, 159, 208, 1, 50}},
	}
	for _, c := range cases {
		for hashes := 1; hashes <= 8; hashes++ {
			wantPlaces(t, c.key, hashes, c.want[:hashes])
		}
	}
}

func TestPlacesAreAsTheRuleSays(t *testing.T) {
	for _, key := range append(edgeKeys(), someKeys(600, 1)...) {
		for hashes := 1; hashes <= 8; hashes++ {
			wantPlaces(t, key, hashes, placesByHand(key, hashes))
		}
	}
}

// Between any two places of a key that are beside each other is one step, which is odd: none of eight comes twice.
func TestPlacesOfAKeyAreAStepApart(t *testing.T) {
	for _, key := range append(edgeKeys(), someKeys(300, 2)...) {
		l, _ := impl.PlacesOf(key, 8)
		step := (l[1] - l[0] + 256) % 256
		if step%2 == 0 {
			t.Errorf("PlacesOf %q: %v: the step is even", key, l)
		}
		for i, at := range l {
			if at < 0 || at > 255 || slices.Contains(l[:i], at) || i > 0 && (l[i-1]+step)%256 != at {
				t.Errorf("PlacesOf %q: place %d of %v is wrong", key, i, l)
			}
		}
	}
}

func TestWrongKeysAndHashesHaveNoPlaces(t *testing.T) {
	for _, key := range append(badKeys(), "a", sized(16)) {
		for _, hashes := range append(badHashes(), 1, 3, 8) {
			l, ok := impl.PlacesOf(key, hashes)
			if good := len(key) >= 1 && len(key) <= 16 && hashes >= 1 && hashes <= 8; ok != good || len(l) != 0 && !good {
				t.Errorf("PlacesOf %.40q %d: %v %v", key, hashes, l, ok)
			}
		}
	}
}

func TestPlacesMayBeWrittenInto(t *testing.T) {
	for _, key := range []string{"one", sized(16), "\x00"} {
		first, _ := impl.PlacesOf(key, 8)
		second, _ := impl.PlacesOf(key, 8)
		fill(whole(first), 999)
		if !slices.Equal(second, placesByHand(key, 8)) {
			t.Errorf("PlacesOf %q: two answers share memory", key)
		}
		fill(whole(second), -5)
		wantPlaces(t, key, 8, placesByHand(key, 8))
		f, ok := impl.FilterOf([]string{key}, 8)
		wantFilter(t, "after places are written into", f, ok, filterByHand(8, key))
	}
}

// A place is a bit: of byte 0 the lowest is place 0, of byte 31 the highest is place 255.
func TestAKeyAloneHasJustItsPlacesSet(t *testing.T) {
	f, ok := impl.FilterOf([]string{"one", "two"}, 3)
	want := []byte(repeated(0, 32))
	want[29], want[15], want[1], want[20], want[10] = 0x02, 0x10, 0x80, 0x08, 0x20
	wantFilter(t, "one and two", f, ok, impl.Filter{Hashes: 3, Bits: string(want), Many: 2})
	for _, key := range append(edgeKeys(), someKeys(200, 3)...) {
		for hashes := 1; hashes <= 8; hashes++ {
			f, ok := impl.FilterOf([]string{key}, hashes)
			wantFilter(t, key, f, ok, impl.Filter{Hashes: hashes, Bits: onlyAt(placesByHand(key, hashes)...), Many: 1})
		}
	}
}
