package tests

import (
	"fmt"
	"math"
	"math/bits"
	"slices"
	"testing"

	"loop.example/g00224/impl"
)

// fairRuns are the runs whose blocks are told wrong in what follows: of one item, of several kinds, of several restarts.
func fairRuns() map[string][]impl.Item {
	return map[string][]impl.Item{
		"one":    {put("key", 7, "value")},
		"common": {put("aa", 1, ""), put("aab", 9, "x"), gone("aab", 8), put("aabc", 1, ""), put("aabcd", 100, "y"), put("ab", 0, "")},
		"edges":  inOrder(edgeItems()),
		"close":  closeRun(11, 2),
		"nested": nestedRun(16),
		"full":   closeRun(40, 5),
	}
}

func body(s string) string {
	return s[:len(s)-4]
}

func TestShortTextsAreNoBlocks(t *testing.T) {
	for size := range 6 {
		wantNoBlock(t, "noughts", repeated(0, size))
		wantNoBlock(t, "others", mixed(size, size))
		wantNoBlock(t, "the beginning of the block of no items", blockByHand(nil)[:size])
		wantNoBlock(t, "the end of the block of no items", blockByHand(nil)[6-size:])
	}
	for size := range 2 {
		wantNoBlock(t, "noughts with a sum", sealed(repeated(0, size)))
	}
	wantBlock(t, "no items", blockByHand(nil), nil)
}

// Of all texts of two bytes and their sum one alone is a block, that of no items.
func TestAllTextsOfSixBytesWithASum(t *testing.T) {
	many := 0
	for n := range 65536 {
		s := sealed(wordByLibrary(n))
		if _, ok := impl.ReadBlock(s); ok {
			many++
		}
	}
	if many != 1 {
		t.Errorf("%d are blocks, want 1", many)
	}
}

func TestTurnedBitsAreSeen(t *testing.T) {
	for name, l := range fairRuns() {
		s := blockByHand(l)
		for bit := range 8 * len(s) {
			wantNoBlock(t, fmt.Sprint(name, ", bit ", bit), turned(s, bit))
		}
	}
	for bit := range 48 {
		wantNoBlock(t, "no items", turned(blockByHand(nil), bit))
	}
}

// A right sum behind what is turned: then it is another run's block, or none.
func TestTurnedBitsWithARightSum(t *testing.T) {
	for name, l := range fairRuns() {
		s := body(blockByHand(l))
		for bit := range 8 * len(s) {
			wantBlockOrNone(t, fmt.Sprint(name, ", bit ", bit), sealed(turned(s, bit)))
		}
	}
}

func TestTurnedBytesWithARightSum(t *testing.T) {
	s := body(blockByHand(fairRuns()["common"]))
	for at := range s {
		for c := range 256 {
			wantBlockOrNone(t, fmt.Sprint("byte ", at), sealed(s[:at]+string([]byte{byte(c)})+s[at+1:]))
		}
	}
}

func TestBytesCutOff(t *testing.T) {
	for name, l := range fairRuns() {
		s := blockByHand(l)
		for n := range len(s) {
			wantNoBlock(t, fmt.Sprint(name, ", ", n, " left"), s[:n])
			wantNoBlock(t, fmt.Sprint(name, ", ", n+1, " cut off ahead"), s[n+1:])
			wantNoBlock(t, fmt.Sprint(name, ", without byte ", n), s[:n]+s[n+1:])
		}
		for n := range len(s) - 4 {
			wantNoBlock(t, fmt.Sprint(name, ", ", n, " left, with a sum"), sealed(s[:n]))
			wantBlockOrNone(t, fmt.Sprint(name, ", ", n+1, " cut off ahead, with a sum"), sealed(body(s)[n+1:]))
			wantBlockOrNone(t, fmt.Sprint(name, ", without byte ", n, ", with a sum"), sealed(body(s)[:n]+body(s)[n+1:]))
		}
	}
}

func TestBytesPutAheadBehindAndBetween(t *testing.T) {
	for name, l := range fairRuns() {
		s := blockByHand(l)
		for _, more := range []string{"\x00", "\x01", "\xff", "a", "\x00\x00", "\x00\x00\x00\x00", s} {
			what := fmt.Sprintf("%s, %.20q", name, more)
			wantNoBlock(t, what+" ahead", more+s)
			wantNoBlock(t, what+" behind", s+more)
			wantNoBlock(t, what+" ahead, with a sum", sealed(more+body(s)))
			wantNoBlock(t, what+" behind, with a sum", sealed(body(s)+more))
			wantNoBlock(t, what+" behind all, with a sum", sealed(s+more))
			for at := range len(s) - 4 {
				wantBlockOrNone(t, what+" between", sealed(s[:at]+more+s[at:len(s)-4]))
			}
		}
	}
}

func TestSumsThatAreNotRight(t *testing.T) {
	for name, l := range fairRuns() {
		s := blockByHand(l)
		sum := s[len(s)-4:]
		for what, wrong := range map[string]string{
			"noughts":        "\x00\x00\x00\x00",
			"the other way":  string([]byte{sum[3], sum[2], sum[1], sum[0]}),
			"another's":      blockByHand(nil)[2:],
			"of the sum too": sealed(s)[len(s):],
		} {
			wantNoBlock(t, name+", sum of "+what, body(s)+wrong)
		}
	}
}

// longForms tells an item's numbers in longer forms, one at a time.
func longForms(x toldItem) []toldItem {
	l := []toldItem{x, x, x, x}
	l[0].common = longer(x.common)
	l[1].more = longer(x.more)
	l[2].mark = longer(x.mark)
	l[3].size = longer(x.size)
	return l
}

func TestNumbersInALongerFormAreNoBlock(t *testing.T) {
	for name, l := range fairRuns() {
		b := toldOf(l)
		for i, x := range b.items {
			for j, wrong := range longForms(x) {
				what := fmt.Sprint(name, ", item ", i, ", number ", j)
				wantNoBlock(t, what, b.with(i, wrong).placed().text())
				wantNoBlock(t, what+", old places", b.with(i, wrong).text())
			}
		}
	}
}

func TestLessInCommonThanThereIs(t *testing.T) {
	for name, l := range fairRuns() {
		b := toldOf(l)
		for i, x := range l {
			if i%4 == 0 {
				continue
			}
			for common := range commonByHand(l[i-1].Key, x.Key) {
				what := fmt.Sprint(name, ", item ", i, ", ", common, " in common")
				wantNoBlock(t, what, b.with(i, toldAs(x, common)).placed().text())
				wantNoBlock(t, what+", old places", b.with(i, toldAs(x, common)).text())
			}
		}
	}
}

// What is in common is more than the key ahead has: the one behind has no such key.
func TestMoreInCommonThanTheKeyAheadHas(t *testing.T) {
	for name, l := range fairRuns() {
		b := toldOf(l)
		for i := range l {
			ahead := 0
			if i > 0 {
				ahead = len(l[i-1].Key)
			}
			for _, common := range []int{ahead + 1, ahead + 2, 16, 17, 127, 128, 1000000, math.MaxInt} {
				if common <= ahead {
					continue
				}
				for _, more := range []string{"", "z", b.items[i].rest} {
					wrong := b.items[i]
					wrong.common, wrong.more, wrong.rest = numberByLibrary(common), numberByLibrary(len(more)), more
					wantNoBlock(t, fmt.Sprint(name, ", item ", i, ", ", common, " in common"), b.with(i, wrong).placed().text())
				}
			}
		}
	}
}

func TestSomethingInCommonAtARestart(t *testing.T) {
	for name, l := range fairRuns() {
		b := toldOf(l)
		for i := 4; i < len(l); i += 4 {
			for common := 1; common <= commonByHand(l[i-1].Key, l[i].Key); common++ {
				what := fmt.Sprint(name, ", item ", i, ", ", common, " in common")
				wantNoBlock(t, what, b.with(i, toldAs(l[i], common)).placed().text())
				wantNoBlock(t, what+", old places", b.with(i, toldAs(l[i], common)).text())
			}
		}
	}
	first := toldOf([]impl.Item{put("aaa", 1, "x")})
	for common := 1; common <= 3; common++ {
		wantNoBlock(t, "the first", first.with(0, toldAs(put("aaa", 1, "x"), common)).text())
	}
}

// Keys told whole more often, less often, or from another one on.
func TestRestartsAtOtherItems(t *testing.T) {
	l := closeRun(12, 2)
	for step := 1; step <= 12; step++ {
		for from := range step {
			b := toldBlock{}
			at := 0
			for i, x := range l {
				common := 0
				if i > 0 && i%step != from {
					common = commonByHand(l[i-1].Key, x.Key)
				} else {
					b.places = append(b.places, at)
				}
				b.items = append(b.items, toldAs(x, common))
				at += len(b.items[i].text())
			}
			b.count = len(b.places)
			if step == 4 && from == 0 {
				wantBlock(t, "each fourth", b.text(), l)
				continue
			}
			wantNoBlock(t, fmt.Sprint("each ", step, "th from ", from), b.text())
		}
	}
}

func TestPlacesThatAreNotSo(t *testing.T) {
	for name, l := range fairRuns() {
		b := toldOf(l)
		for i, place := range b.places {
			for _, wrong := range []int{place - 1, place + 1, place + 256, place - 256, 0, 1, 65535, len(b.text())} {
				if uint16(wrong) == uint16(place) {
					continue
				}
				places := slices.Clone(b.places)
				places[i] = wrong
				wantNoBlock(t, fmt.Sprint(name, ", place ", i, " is ", wrong), toldBlock{items: b.items, places: places, count: b.count}.text())
			}
			without := slices.Delete(slices.Clone(b.places), i, i+1)
			wantNoBlock(t, fmt.Sprint(name, " without place ", i), toldBlock{items: b.items, places: without, count: len(without)}.text())
			wantNoBlock(t, fmt.Sprint(name, " without place ", i, ", the old count"), toldBlock{items: b.items, places: without, count: b.count}.text())
			twice := slices.Insert(slices.Clone(b.places), i, place)
			wantNoBlock(t, fmt.Sprint(name, ", place ", i, " twice"), toldBlock{items: b.items, places: twice, count: len(twice)}.text())
		}
		turnedRound := slices.Clone(b.places)
		slices.Reverse(turnedRound)
		if len(turnedRound) > 1 {
			wantNoBlock(t, name+", places the other way", toldBlock{items: b.items, places: turnedRound, count: b.count}.text())
		}
	}
	for _, place := range []int{0, 1, 6} {
		wantNoBlock(t, "a place of no items", toldBlock{places: []int{place}, count: 1}.text())
	}
}

// In two bytes the highest first, places and their count would be others.
func TestPlacesWithTheHighestByteFirst(t *testing.T) {
	for name, l := range fairRuns() {
		b := toldOf(l)
		count := int(bits.ReverseBytes16(uint16(b.count)))
		wantNoBlock(t, name+", the count", toldBlock{items: b.items, places: b.places, count: count}.text())
		places := slices.Clone(b.places)
		for i, place := range places {
			places[i] = int(bits.ReverseBytes16(uint16(place)))
		}
		if len(places) > 1 {
			wantNoBlock(t, name+", the places", toldBlock{items: b.items, places: places, count: b.count}.text())
		}
	}
}

func TestCountsThatAreNotSo(t *testing.T) {
	for name, l := range fairRuns() {
		b := toldOf(l)
		for _, count := range []int{0, 1, 2, 3, 10, 11, b.count - 1, b.count + 1, b.count + 256, b.count * 256, 40, 255, 32767, 32768, 65535} {
			if count == b.count {
				continue
			}
			wantNoBlock(t, fmt.Sprint(name, ", count ", count), toldBlock{items: b.items, places: b.places, count: count}.text())
		}
	}
	for _, count := range []int{1, 2, 255, 256, 65535} {
		wantNoBlock(t, fmt.Sprint("no items, count ", count), toldBlock{count: count}.text())
	}
}

func TestItemsThatAreNoRunAreNoBlock(t *testing.T) {
	for fault, l := range badRuns() {
		if slices.ContainsFunc(l, func(x impl.Item) bool { return x.Seq < 0 || x.Kind < 0 || x.Kind > 1 }) {
			continue
		}
		wantNoBlock(t, fault, blockByHand(l))
	}
}

func TestItemsBeyondTheirLimitsAreNoBlock(t *testing.T) {
	for what, x := range map[string]impl.Item{
		"no key":          put("", 1, "x"),
		"key of 17":       put(sized(17), 1, "x"),
		"Seq beyond":      put("k", greatestSeq+1, "x"),
		"Seq far beyond":  put("k", math.MaxInt/2, "x"),
		"deleted, beyond": gone("k", greatestSeq+1),
		"value of 41":     put("k", 1, sized(41)),
		"deleted, value":  {Key: "k", Seq: 1, Kind: impl.KindDelete, Value: "x"},
		"deleted, of 41":  {Key: "k", Seq: 1, Kind: impl.KindDelete, Value: sized(41)},
	} {
		wantNoBlock(t, what, blockByHand([]impl.Item{x}))
		wantNoBlock(t, what+", second", blockByHand([]impl.Item{gone("\x00", 0), x}))
		wantNoBlock(t, what+", fifth", blockByHand(append(evenRun(4, ""), x)))
	}
	common := []impl.Item{put(sized(16), 1, ""), put(sized(17), 1, "")}
	wantNoBlock(t, "a key of 17 by what is common", blockByHand(common))
}

// Sizes that no text could have, and numbers that are not ended.
func TestSizesBeyondTheText(t *testing.T) {
	for name, l := range fairRuns() {
		b := toldOf(l)
		for i, x := range b.items {
			for _, size := range []int{len(b.text()), 1000000, math.MaxInt - 1, math.MaxInt} {
				longKey, longValue, both := x, x, x
				longKey.more = numberByLibrary(size)
				longValue.size = numberByLibrary(size)
				both.more, both.size = numberByLibrary(size), numberByLibrary(size)
				for _, wrong := range []toldItem{longKey, longValue, both} {
					wantNoBlock(t, fmt.Sprint(name, ", item ", i, ", size ", size), b.with(i, wrong).placed().text())
				}
			}
			for _, number := range []string{"", "\x80", repeated(0x80, 8), repeated(0xff, 9), repeated(0xff, 9) + "\x01", repeated(0xff, 20)} {
				l := []toldItem{x, x, x, x}
				l[0].common, l[1].more, l[2].mark, l[3].size = number, number, number, number
				for j, wrong := range l {
					wantBlockOrNone(t, fmt.Sprint(name, ", item ", i, ", number ", j), b.with(i, wrong).placed().text())
				}
			}
		}
	}
}

// Nothing, or a part of an item, between the items and their places.
func TestPartsOfAnItemBehindTheItems(t *testing.T) {
	for name, l := range fairRuns() {
		b := toldOf(l)
		last := toldAs(put(repeated(0xff, 16), 0, "v"), 0)
		if len(l)%4 == 0 {
			continue
		}
		for n := 1; n < len(last.text()); n++ {
			wantNoBlock(t, fmt.Sprint(name, ", ", n, " bytes more"), toldBlock{items: append(slices.Clone(b.items), toldItem{rest: last.text()[:n]}), places: b.places, count: b.count}.text())
		}
	}
}

// All short texts of a few bytes, with a right sum: those that are read are the bytes of what is read.
func TestAllShortTextsWithASum(t *testing.T) {
	bytes := []byte{0, 1, 2, 3, 'a'}
	blocks := 0
	var walk func(s string)
	walk = func(s string) {
		if wantBlockOrNone(t, "short", sealed(s)) {
			blocks++
		}
		if len(s) == 7 {
			return
		}
		for _, c := range bytes {
			walk(s + string([]byte{c}))
		}
	}
	walk("")
	// A block of one item has nine bytes ahead of its sum: these are too short for it.
	if blocks != 1 {
		t.Errorf("%d blocks, want 1", blocks)
	}
	many := 0
	for mark := range 256 {
		for c := range 256 {
			s := sealed("\x00\x01" + string([]byte{byte(mark), 0, byte(c)}) + "\x00\x00\x01\x00")
			if wantBlockOrNone(t, "one item", s) {
				many++
			}
		}
	}
	// Any key of one byte, any mark that is ended.
	if want := 128 * 256; many != want {
		t.Errorf("%d blocks of one item, want %d", many, want)
	}
}
