package tests

import (
	"math"
	"testing"

	"loop.example/g00224/impl"
)

// badItems are not good by one thing each, where nothing else is told.
func badItems() map[string]impl.Item {
	return map[string]impl.Item{
		"no key":                     put("", 1, "x"),
		"no key, deleted":            gone("", 1),
		"key of 17 bytes":            put(sized(17), 1, "x"),
		"key of 17 bytes, deleted":   gone(sized(17), 1),
		"key of many bytes":          put(sized(5000), 1, "x"),
		"Seq of -1":                  put("k", -1, "x"),
		"Seq of -1, deleted":         gone("k", -1),
		"least Seq":                  put("k", math.MinInt, "x"),
		"Seq one beyond":             put("k", greatestSeq+1, "x"),
		"Seq one beyond, deleted":    gone("k", greatestSeq+1),
		"greatest Seq":               put("k", math.MaxInt, "x"),
		"Kind of -1":                 {Key: "k", Seq: 1, Kind: -1},
		"Kind of 2":                  {Key: "k", Seq: 1, Kind: 2},
		"Kind of -1, a value":        {Key: "k", Seq: 1, Kind: -1, Value: "x"},
		"Kind of 2, a value":         {Key: "k", Seq: 1, Kind: 2, Value: "x"},
		"least Kind":                 {Key: "k", Seq: 1, Kind: math.MinInt},
		"greatest Kind":              {Key: "k", Seq: 1, Kind: math.MaxInt},
		"value of 41 bytes":          put("k", 1, sized(41)),
		"value of many bytes":        put("k", 1, sized(5000)),
		"deleted with a value":       {Key: "k", Seq: 1, Kind: impl.KindDelete, Value: "x"},
		"deleted with a nought":      {Key: "k", Seq: 1, Kind: impl.KindDelete, Value: "\x00"},
		"deleted, value of 41 bytes": {Key: "k", Seq: 1, Kind: impl.KindDelete, Value: sized(41)},
		"nothing":                    {},
		"wrong in everything it has": {Seq: -1, Kind: 7, Value: sized(41)},
	}
}

func TestItemsThatAreGood(t *testing.T) {
	l := append(edgeItems(), everyHeight()...)
	l = append(l, someItems(100, 1)...)
	for _, seq := range []int{0, 1, 999999999, 1000000000} {
		l = append(l, put("k", seq, "x"), gone("k", seq))
	}
	for size := 1; size <= 16; size++ {
		l = append(l, put(mixed(size, size), 1, "x"), gone(mixed(size, size), 1))
	}
	for size := range 41 {
		l = append(l, put("k", 1, mixed(size, size)))
	}
	for _, x := range l {
		if !impl.GoodItem(x) {
			t.Errorf("%s is not good", shown(x))
		}
	}
}

func TestItemsThatAreNotGood(t *testing.T) {
	for fault, x := range badItems() {
		if impl.GoodItem(x) {
			t.Errorf("%s: %s is good", fault, shown(x))
		}
	}
}

func TestKindsAreWhatTheyAreCalled(t *testing.T) {
	if impl.KindDelete != 0 || impl.KindPut != 1 || impl.MaxSkip != 60 || impl.MaxTower != 5 {
		t.Error(impl.KindDelete, impl.KindPut, impl.MaxSkip, impl.MaxTower)
	}
}

func wantOrder(t *testing.T, a impl.Item, b impl.Item, want int) {
	t.Helper()
	if got, ok := impl.CompareItem(a, b); got != want || !ok {
		t.Errorf("CompareItem %s %s: %d %v, want %d", shown(a), shown(b), got, ok, want)
	}
}

func TestItemsAreComparedByKeyThenByFallingSeq(t *testing.T) {
	rising := []impl.Item{
		gone("\x00", 0), put("\x00\x00", 9, "v"), gone("\x00\x01", 9), put("A", 4, ""),
		put("a", greatestSeq, "v"), gone("a", 10), put("a", 9, "w"), put("a", 2, "a"), gone("a", 1), put("a", 0, "z"),
		put("a\x00", 7, ""), put("aa", 8, ""), gone("aa", 7), put("ab", 9, ""), put("b", 1, ""), gone("b", 0),
		put("\x7f", 1, ""), put("\x80", 1, ""), put("\xc3\xa4", 1, ""), put("\xff", 1, ""), put("\xff\x00", 5, ""), put(repeated(0xff, 16), 0, ""),
	}
	for i, a := range rising {
		for j, b := range rising {
			switch {
			case i < j:
				wantOrder(t, a, b, -1)
			case i > j:
				wantOrder(t, a, b, 1)
			default:
				wantOrder(t, a, b, 0)
			}
		}
	}
}

func TestItemsOfAllKindsAreCompared(t *testing.T) {
	l := append(someItems(80, 2), edgeItems()...)
	l = append(l, alikeKeys()...)
	for _, a := range l {
		for _, b := range l {
			switch {
			case lessByHand(a, b):
				wantOrder(t, a, b, -1)
			case lessByHand(b, a):
				wantOrder(t, a, b, 1)
			default:
				wantOrder(t, a, b, 0)
			}
		}
	}
}

func TestKindAndValueDoNotMatterToTheOrder(t *testing.T) {
	same := []impl.Item{gone("k", 5), put("k", 5, ""), put("k", 5, "a"), put("k", 5, sized(40))}
	for _, a := range same {
		for _, b := range same {
			wantOrder(t, a, b, 0)
		}
		for _, less := range []impl.Item{gone("j", 9), put("j", 1, "z"), gone("k", 6), put("k", 6, "z")} {
			wantOrder(t, less, a, -1)
			wantOrder(t, a, less, 1)
		}
	}
}

func TestItemsThatAreNotGoodAreNotCompared(t *testing.T) {
	for fault, bad := range badItems() {
		for _, x := range []impl.Item{put("a", 1, "x"), put("z", 1, "x"), gone("k", 1), bad} {
			if got, ok := impl.CompareItem(bad, x); got != 0 || ok {
				t.Errorf("%s: CompareItem of it and %s: %d %v", fault, shown(x), got, ok)
			}
			if got, ok := impl.CompareItem(x, bad); got != 0 || ok {
				t.Errorf("%s: CompareItem of %s and it: %d %v", fault, shown(x), got, ok)
			}
		}
	}
}

func wantTower(t *testing.T, key string, seq int, want int) {
	t.Helper()
	if got, ok := impl.TowerOf(key, seq); got != want || !ok {
		t.Errorf("TowerOf(%q, %d): %d %v, want %d", key, seq, got, ok, want)
	}
}

func wantNoTower(t *testing.T, key string, seq int) {
	t.Helper()
	if got, ok := impl.TowerOf(key, seq); got != 0 || ok {
		t.Errorf("TowerOf(%.40q, %d): %d %v, want nothing", key, seq, got, ok)
	}
}

// Each key has, with the Seq 7, just that sum: pairs of which one bit alone is set among them, and more pairs of 0 than a tower may have.
func TestTowersOfKnownSums(t *testing.T) {
	cases := []struct {
		key    string
		sum    uint32
		height int
	}{
		{"M\x95\x99\xce", 0x0, 5},
		{"x\xc9\xb20", 0x1, 1},
		{"\xd6[#7", 0x2, 1},
		{"\xe3\a\b\xc9", 0x3, 1},
		{"\x8a~\x008", 0x4, 2},
		{"24F&", 0x8, 2},
		{"\xf5\xdf\xdf\xd0", 0xc, 2},
		{"B\xa1\xca\x1a", 0x10, 3},
		{"\xa2\x8b\xd3c", 0x20, 3},
		{"\xad\xbf\x80\xb7", 0x30, 3},
		{"b\xde\xe1\x91", 0x40, 4},
		{"\x13\x03ip", 0x80, 4},
		{"<H\x11/", 0xc0, 4},
		{"\x00\xcf\x94\xb6", 0x100, 5},
		{"\xd7!\x83>", 0x200, 5},
		{"\x9a{\x8eF", 0x300, 5},
		{"\x88\x8a@+", 0x400, 5},
		{"6\xdc\xc7\x00", 0x800, 5},
		{"Jq\xc9W", 0x1000, 5},
		{"\xa8\xed\xf3\x1f", 0x80000000, 5},
		{"\xa2\xea\xb0\xf5", 0xc0000000, 5},
		{"\x18\x0e3\x05", 0xffffffff, 1},
		{"\xb6\x9c\xa2\x02", 0xfffffffc, 2},
		{"qw;\xf4", 0xfffffff8, 2},
		{"\x0e\xd6\xe4\x1c", 0xfffffff0, 3},
		{"\xee\xfc\xfde", 0xffffffc0, 4},
		{"\xc1\xb7\x85:", 0xffffff80, 4},
		{"\x9f!u\x84", 0xffffff00, 5},
		{"H\xcfb\f", 0xfffffc00, 5},
	}
	for _, c := range cases {
		if got := sumByLibrary(c.key + "7"); got != c.sum {
			t.Fatalf("the sum of %q is %#x, want %#x", c.key, got, c.sum)
		}
		wantTower(t, c.key, 7, c.height)
	}
}

func TestTowersOfManyKeys(t *testing.T) {
	many := [6]int{}
	for i := range 4000 {
		key := mixed(1+i%16, i)
		for _, seq := range []int{0, 1, i, i * 1000, 10, 100, 999999999, 1000000000} {
			height := heightByHand(key, seq)
			many[height]++
			wantTower(t, key, seq, height)
		}
	}
	for height := 1; height <= 5; height++ {
		if many[height] == 0 {
			t.Errorf("no tower of height %d is among these", height)
		}
	}
}

func TestTowersOfAllShortKeys(t *testing.T) {
	for b := range 256 {
		key := string([]byte{byte(b)})
		for seq := range 300 {
			wantTower(t, key, seq, heightByHand(key, seq))
		}
	}
}

func TestTowersAtTheirEdges(t *testing.T) {
	for _, seq := range []int{0, 1, 1000000000} {
		for _, key := range []string{"a", "\x00", sized(15), sized(16)} {
			wantTower(t, key, seq, heightByHand(key, seq))
		}
		wantNoTower(t, "", seq)
		wantNoTower(t, sized(17), seq)
		wantNoTower(t, sized(5000), seq)
	}
	for _, seq := range []int{math.MinInt, -1, 1000000001, math.MaxInt} {
		for _, key := range []string{"", "a", sized(16), sized(17)} {
			wantNoTower(t, key, seq)
		}
	}
}
