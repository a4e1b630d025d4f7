package tests

import (
	"fmt"
	"slices"
	"testing"

	"loop.example/g00224/impl"
)

func TestBlocksAsBytes(t *testing.T) {
	wantBytes(t, "no items", nil, "\x00\x00\xd2\x77\x61\xf1")
	wantBytes(t, "two", []impl.Item{put("car", 2, "x"), gone("cart", 1)},
		sealed("\x00\x03\x05\x01carx"+"\x03\x01\x02\x00t"+"\x00\x00"+"\x01\x00"))
	wantBytes(t, "a Seq of two bytes", []impl.Item{gone("k", 64)}, sealed("\x00\x01\x80\x01\x00k"+"\x00\x00"+"\x01\x00"))
	wantBytes(t, "a Seq of one byte", []impl.Item{put("k", 63, "")}, sealed("\x00\x01\x7f\x00k"+"\x00\x00"+"\x01\x00"))
	wantBytes(t, "the greatest Seq", []impl.Item{put("k", greatestSeq, "v")},
		sealed("\x00\x01\x81\xa8\xd6\xb9\x07\x01kv"+"\x00\x00"+"\x01\x00"))
	wantBytes(t, "one key", []impl.Item{put("key", 2, ""), gone("key", 1)},
		sealed("\x00\x03\x05\x00key"+"\x03\x00\x02\x00"+"\x00\x00"+"\x01\x00"))
}

// The fifth key is told whole, though it has much in common with the fourth.
func TestEachFourthKeyIsToldWhole(t *testing.T) {
	l := []impl.Item{put("aa", 0, ""), put("aab", 0, ""), put("aac", 0, ""), put("aacd", 0, ""), put("aacde", 0, ""), put("aacdf", 0, "")}
	wantBytes(t, "six", l, sealed("\x00\x02\x01\x00aa"+"\x02\x01\x01\x00b"+"\x02\x01\x01\x00c"+"\x03\x01\x01\x00d"+
		"\x00\x05\x01\x00aacde"+"\x04\x01\x01\x00f"+"\x00\x00\x15\x00"+"\x02\x00"))
}

func TestBlocksAreAsTheRuleSays(t *testing.T) {
	for name, l := range manyRuns() {
		wantBytes(t, name, l, blockByHand(l))
	}
}

// Promise 6.
func TestItemsComeBackFromTheirBlock(t *testing.T) {
	for name, l := range manyRuns() {
		s, ok := impl.BlockBytes(l)
		if !ok {
			t.Errorf("%s: BlockBytes is refused", name)
		}
		wantBlock(t, name, s, l)
	}
}

func TestManyMoreItemsComeBackFromTheirBlock(t *testing.T) {
	for seed := range 300 {
		for name, l := range map[string][]impl.Item{"some": someRun(seed%41, seed), "close": closeRun(seed%41, seed)} {
			s, ok := impl.BlockBytes(l)
			if !ok || s != blockByHand(l) {
				t.Errorf("%s %d: BlockBytes: %v", name, seed, ok)
			}
			wantBlock(t, fmt.Sprint(name, seed), s, l)
		}
	}
}

func TestBlocksOfItemsAtTheirEdges(t *testing.T) {
	for size := 1; size <= 16; size++ {
		for _, seq := range []int{0, 1, 63, 64, 8191, 8192, greatestSeq - 1, greatestSeq} {
			l := []impl.Item{gone(mixed(size, size), seq)}
			wantBytes(t, "deleted", l, blockByHand(l))
			wantBlock(t, "deleted", blockByHand(l), l)
		}
	}
	for size := range 41 {
		l := []impl.Item{put("k", greatestSeq, mixed(size, size)), put("k", 0, mixed(40-size, size))}
		wantBytes(t, "put", l, blockByHand(l))
		wantBlock(t, "put", blockByHand(l), l)
	}
}

func TestBlocksHaveAtMostMaxBlockItems(t *testing.T) {
	for _, run := range []func(n int) []impl.Item{
		func(n int) []impl.Item { return someRun(n, 3) },
		func(n int) []impl.Item { return closeRun(n, 3) },
		func(n int) []impl.Item { return evenRun(n, "") },
		greatRun,
	} {
		for _, n := range []int{39, 40} {
			wantBytes(t, fmt.Sprint(n), run(n), blockByHand(run(n)))
			wantBlock(t, fmt.Sprint(n), blockByHand(run(n)), run(n))
		}
		for _, n := range []int{41, 44, 45, 80, 400} {
			wantNoBytes(t, fmt.Sprint(n), run(n)[:n])
			wantNoBlock(t, fmt.Sprint(n), blockByHand(run(n)))
		}
	}
}

func TestBlocksOfRunsThatAreNotGood(t *testing.T) {
	for fault, l := range badRuns() {
		wantNoBytes(t, fault, l)
	}
}

func TestTheGreatestBlock(t *testing.T) {
	l := greatRun(40)
	for i := range l {
		l[i].Key = repeated('0'+byte(i), 16)
	}
	s, ok := impl.BlockBytes(l)
	if want := 40*(3+5+16+40) + 10*2 + 2 + 4; len(s) != want || !ok {
		t.Errorf("%d bytes %v, want %d", len(s), ok, want)
	}
	places, ok := impl.RestartsOf(s)
	if want := []int{0, 256, 512, 768, 1024, 1280, 1536, 1792, 2048, 2304}; !slices.Equal(places, want) || !ok {
		t.Errorf("%v %v, want %v", places, ok, want)
	}
	wantBlock(t, "greatest", s, l)
}

func TestPlacesOfRestarts(t *testing.T) {
	for _, c := range []struct {
		many int
		want []int
	}{
		{0, nil}, {1, []int{0}}, {2, []int{0}}, {4, []int{0}}, {5, []int{0, 180}}, {8, []int{0, 180}}, {9, []int{0, 180, 360}}, {12, []int{0, 180, 360}},
		{39, []int{0, 180, 360, 540, 720, 900, 1080, 1260, 1440, 1620}}, {40, []int{0, 180, 360, 540, 720, 900, 1080, 1260, 1440, 1620}},
	} {
		s, _ := impl.BlockBytes(evenRun(c.many, sized(40)))
		if l, ok := impl.RestartsOf(s); !slices.Equal(l, c.want) || !ok {
			t.Errorf("%d items: %v %v, want %v", c.many, l, ok, c.want)
		}
	}
}

// At each place that is told an item begins whose key is whole: from there on the rest reads as a run.
func TestItemsBeginAtTheirPlaces(t *testing.T) {
	for name, l := range manyRuns() {
		s, _ := impl.BlockBytes(l)
		places, ok := impl.RestartsOf(s)
		if !ok || len(places) != (len(l)+3)/4 {
			t.Errorf("%s: %d items, %d places", name, len(l), len(places))
			continue
		}
		for i, at := range places {
			want := toldAs(l[i*4], 0).text()
			if s[at:at+len(want)] != want {
				t.Errorf("%s: item %d does not begin at %d", name, i*4, at)
			}
		}
	}
}

func TestFirstInTellsTheFirstKey(t *testing.T) {
	for name, l := range manyRuns() {
		s, _ := impl.BlockBytes(l)
		key, ok := impl.FirstIn(s)
		if len(l) == 0 {
			if key != "" || ok {
				t.Errorf("%s: %q %v of no items", name, key, ok)
			}
			continue
		}
		if key != l[0].Key || !ok {
			t.Errorf("%s: %q %v, want %q", name, key, ok, l[0].Key)
		}
	}
	for size := 1; size <= 16; size++ {
		s, _ := impl.BlockBytes([]impl.Item{put(mixed(size, 9), 1, "x")})
		if key, ok := impl.FirstIn(s); key != mixed(size, 9) || !ok {
			t.Errorf("%d bytes: %q %v", size, key, ok)
		}
	}
}

// changedAt is a run whose item of a number is another, at the same place in the order.
func changedAt(l []impl.Item, i int) []impl.Item {
	out := slices.Clone(l)
	if l[i].Kind == impl.KindDelete {
		out[i].Kind = impl.KindPut
	} else {
		out[i].Value = "y" + l[i].Value[:len(l[i].Value)/2]
	}
	if out[i] == l[i] {
		out[i].Value = "z"
	}
	return out
}

// Two runs that are unlike in one thing have unlike bytes.
func TestUnlikeRunsHaveUnlikeBlocks(t *testing.T) {
	seen := map[string]string{}
	for name, l := range manyRuns() {
		s, _ := impl.BlockBytes(l)
		if other, there := seen[s]; there && !slices.Equal(manyRuns()[other], l) {
			t.Errorf("%s and %s have one text", name, other)
		}
		seen[s] = name
		for i := range l {
			if again, ok := impl.BlockBytes(changedAt(l, i)); !ok || again == s {
				t.Errorf("%s: item %d changed: %v, or the same bytes", name, i, ok)
			}
		}
	}
}
