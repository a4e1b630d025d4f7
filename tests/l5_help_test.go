package tests

import (
	"math"
	"strings"
	"testing"

	"loop.example/g00224/impl"
)

const greatestMany = 1000000

// sumFromNought is SumOn of 0, by the rule of the table's words alone.
func sumFromNought(s string) uint32 {
	sum := uint32(0)
	for _, c := range []byte(s) {
		sum = wordByRule(int(byte(sum)^c)) ^ sum>>8
	}
	return sum
}

func placesByHand(key string, hashes int) []int {
	a, b := uint64(sumByLibrary(key)), uint64(sumFromNought(key))
	if b%2 == 0 {
		b++
	}
	var l []int
	for i := range hashes {
		l = append(l, int((a+uint64(i)*b)%4294967296%256))
	}
	return l
}

// bitsByHand writes a row of 256 bits as bytes, the lowest bit of each byte first.
func bitsByHand(set [256]bool) string {
	out := make([]byte, 32)
	worth := [8]byte{1, 2, 4, 8, 16, 32, 64, 128}
	for i, on := range set {
		if on {
			out[i/8] += worth[i%8]
		}
	}
	return string(out)
}

func bitsRead(s string) [256]bool {
	var set [256]bool
	for i := range set {
		set[i] = s[i/8]>>(i%8)%2 == 1
	}
	return set
}

// onlyAt has just these bits set, allBut all others.
func onlyAt(places ...int) string {
	var set [256]bool
	for _, at := range places {
		set[at] = true
	}
	return bitsByHand(set)
}

func allBut(places ...int) string {
	set := bitsRead(onlyAt(places...))
	for i, on := range set {
		set[i] = !on
	}
	return bitsByHand(set)
}

func filterByHand(hashes int, keys ...string) impl.Filter {
	var places []int
	for _, key := range keys {
		places = append(places, placesByHand(key, hashes)...)
	}
	return impl.Filter{Hashes: hashes, Bits: onlyAt(places...), Many: len(keys)}
}

func hasByHand(f impl.Filter, key string) bool {
	set := bitsRead(f.Bits)
	for _, at := range placesByHand(key, f.Hashes) {
		if !set[at] {
			return false
		}
	}
	return true
}

// someKeys are of all sizes and of bytes of every kind; no two are alike.
func someKeys(n int, seed int) []string {
	var l []string
	for i := range n {
		tail := mixed(i%15, seed*1000+i)
		l = append(l, string([]byte{byte(i), byte(i/256 + seed)})[:min(2, 16-len(tail))]+tail)
	}
	return l
}

// edgeKeys meet the limits of a key, and have every byte alone.
func edgeKeys() []string {
	l := []string{sized(16), repeated(0, 16), repeated(0xff, 16), mixed(16, 5), "\x00\x00", "\xc3\xa4", "a\x00", "\x00a", "one", "two"}
	for c := range 256 {
		l = append(l, string([]byte{byte(c)}))
	}
	return l
}

func badKeys() []string {
	return []string{"", sized(17), repeated(0, 17), mixed(17, 3), sized(32), sized(5000)}
}

func badHashes() []int {
	return []int{math.MinInt, -1, 0, 9, 10, 256, 257, 1<<32 + 1, math.MaxInt}
}

// badFilters are not good by one thing each, where nothing else is told.
func badFilters() map[string]impl.Filter {
	full := repeated(0xff, 32)
	l := map[string]impl.Filter{
		"nothing":                  {},
		"Many of -1":               {Hashes: 3, Bits: full, Many: -1},
		"least Many":               {Hashes: 3, Bits: full, Many: math.MinInt},
		"Many one beyond":          {Hashes: 3, Bits: full, Many: greatestMany + 1},
		"greatest Many":            {Hashes: 3, Bits: full, Many: math.MaxInt},
		"no bytes":                 {Hashes: 3},
		"31 bytes":                 {Hashes: 3, Bits: full[:31], Many: 1},
		"33 bytes":                 {Hashes: 3, Bits: full + "\xff", Many: 1},
		"33 bytes, a nought":       {Hashes: 3, Bits: full + "\x00", Many: 1},
		"64 bytes":                 {Hashes: 3, Bits: full + full, Many: 1},
		"256 bytes":                {Hashes: 3, Bits: sized(256), Many: 1},
		"32 runes, 64 bytes":       {Hashes: 3, Bits: strings.Repeat("\u00e4", 32), Many: 1},
		"wrong in all that it has": {Hashes: 9, Bits: full[:31], Many: -1},
	}
	for _, hashes := range badHashes() {
		l["Hashes of "+shown(hashes)] = impl.Filter{Hashes: hashes, Bits: full, Many: 1}
	}
	return l
}

// manyFilters are good ones of many kinds, made without the program.
func manyFilters() map[string]impl.Filter {
	return map[string]impl.Filter{
		"new":                 {Hashes: 3, Bits: repeated(0, 32)},
		"new, one hash":       {Hashes: 1, Bits: repeated(0, 32)},
		"new, eight hashes":   {Hashes: 8, Bits: repeated(0, 32)},
		"one key":             filterByHand(4, "one"),
		"two keys":            filterByHand(3, "one", "two"),
		"one key twice":       filterByHand(3, "one", "one"),
		"edges":               filterByHand(1, edgeKeys()...),
		"many, two hashes":    filterByHand(2, someKeys(90, 1)...),
		"many, eight hashes":  filterByHand(8, someKeys(20, 2)...),
		"as many as may be":   {Hashes: 3, Bits: mixed(32, 9), Many: greatestMany},
		"one fewer":           {Hashes: 3, Bits: mixed(32, 10), Many: greatestMany - 1},
		"every bit":           {Hashes: 8, Bits: repeated(0xff, 32), Many: 500},
		"every bit, no key":   {Hashes: 3, Bits: repeated(0xff, 32)},
		"no bit, many keys":   {Hashes: 3, Bits: repeated(0, 32), Many: 500},
		"first bit alone":     {Hashes: 2, Bits: onlyAt(0), Many: 1},
		"last bit alone":      {Hashes: 2, Bits: onlyAt(255), Many: 1},
		"each second bit":     {Hashes: 5, Bits: repeated(0x55, 32), Many: 70},
		"bits of any kind":    {Hashes: 6, Bits: mixed(32, 11), Many: 80},
		"bits of other kinds": {Hashes: 7, Bits: mixed(32, 12), Many: 90},
	}
}

func wantFilter(t *testing.T, what string, f impl.Filter, ok bool, want impl.Filter) {
	t.Helper()
	if f != want || !ok {
		t.Errorf("%s: %s %v, want %s", what, shown(f), ok, shown(want))
	}
	if ok && !impl.GoodFilter(f) {
		t.Errorf("%s: the filter is not good", what)
	}
}

func wantNoFilter(t *testing.T, what string, f impl.Filter, ok bool) {
	t.Helper()
	if f != (impl.Filter{}) || ok {
		t.Errorf("%s: %s %v, want nothing", what, shown(f), ok)
	}
}

func wantHas(t *testing.T, what string, f impl.Filter, key string, want bool) {
	t.Helper()
	if has, ok := impl.MayHave(f, key); has != want || !ok {
		t.Errorf("%s: MayHave %q: %v %v, want %v", what, key, has, ok, want)
	}
}

func wantNoHas(t *testing.T, what string, f impl.Filter, key string) {
	t.Helper()
	if has, ok := impl.MayHave(f, key); has || ok {
		t.Errorf("%s: MayHave %.40q: %v %v, want nothing", what, key, has, ok)
	}
}

func wantOnes(t *testing.T, what string, f impl.Filter, want int) {
	t.Helper()
	if n, ok := impl.OnesIn(f); n != want || !ok {
		t.Errorf("%s: OnesIn: %d %v, want %d", what, n, ok, want)
	}
}
