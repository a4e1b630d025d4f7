package tests

import (
	"fmt"
	"math"
	"math/bits"
	"slices"
	"strings"
	"testing"

	"loop.example/g00224/impl"
)

func TestTurnedBitsOfTables(t *testing.T) {
	for name, l := range shortTables() {
		s := tableByHand(l)
		for bit := range 8 * len(s) {
			wantNoTable(t, fmt.Sprint(name, ", bit ", bit), turned(s, bit))
		}
	}
	s := tableByHand(fullRun(120))
	for bit := 0; bit < 8*len(s); bit += 97 {
		wantNoTable(t, fmt.Sprint("full, bit ", bit), turned(s, bit))
	}
}

// Each part with a bit turned and a right sum: then it is another run's table, or none.
func TestTurnedBitsOfPartsWithRightSums(t *testing.T) {
	for name, l := range shortTables() {
		b := toldTableOf(l)
		for i, block := range b.blocks {
			for bit := range 8 * len(body(block)) {
				wrong := b
				wrong.blocks = slices.Clone(b.blocks)
				wrong.blocks[i] = sealed(turned(body(block), bit))
				wantTableOrNone(t, fmt.Sprint(name, ", block ", i, ", bit ", bit), wrong.text())
			}
		}
		index := b.indexText()
		for bit := range 8 * len(index) {
			wantNoTable(t, fmt.Sprint(name, ", index, bit ", bit), withIndex(b, turned(index, bit)))
		}
	}
}

// withIndex is a table whose index is any text, in a frame.
func withIndex(b toldTable, index string) string {
	return strings.Join(b.blocks, "") + frameByLibrary(index) + frameByLibrary(b.bits) + sealed(longWordByLibrary(b.begins))
}

func TestBytesCutOffFromTables(t *testing.T) {
	for name, l := range shortTables() {
		s := tableByHand(l)
		for n := range len(s) {
			wantNoTable(t, fmt.Sprint(name, ", ", n, " left"), s[:n])
			wantNoTable(t, fmt.Sprint(name, ", ", n+1, " cut off ahead"), s[n+1:])
			wantNoTable(t, fmt.Sprint(name, ", without byte ", n), s[:n]+s[n+1:])
		}
	}
}

func TestBytesPutToTables(t *testing.T) {
	for name, l := range shortTables() {
		s := tableByHand(l)
		for _, more := range []string{"\x00", "\x01", "\xff", "a", "\x00\x00\x00\x00", s[len(s)-8:], s} {
			what := fmt.Sprintf("%s, %.20q", name, more)
			wantNoTable(t, what+" ahead", more+s)
			wantNoTable(t, what+" behind", s+more)
		}
		for at := range len(s) {
			wantNoTable(t, fmt.Sprint(name, ", a byte at ", at), s[:at]+"\x00"+s[at:])
			wantNoTable(t, fmt.Sprint(name, ", a byte twice at ", at), s[:at+1]+s[at:])
		}
	}
}

// Something between two parts, where all that is told of places is so.
func TestBytesBetweenTheParts(t *testing.T) {
	for name, l := range shortTables() {
		b := toldTableOf(l)
		blocks, index, filter := strings.Join(b.blocks, ""), frameByLibrary(b.indexText()), frameByLibrary(b.bits)
		end := sealed(longWordByLibrary(b.begins))
		for _, more := range []string{"\x00", "a", blockByHand(nil), frameByLibrary(""), index, filter, end} {
			later := sealed(longWordByLibrary(b.begins + len(more)))
			wantNoTable(t, name+", ahead of the index", blocks+more+index+filter+later)
			wantNoTable(t, name+", ahead of the index, told with it", blocks+more+index+filter+end)
			wantNoTable(t, name+", ahead of the filter", blocks+index+more+filter+end)
			wantNoTable(t, name+", ahead of the end", blocks+index+filter+more+end)
			wantNoTable(t, name+", ahead of all", more+moved(b, len(more)).text())
		}
		wantNoTable(t, name+", no index", blocks+filter+end)
		wantNoTable(t, name+", no filter", blocks+index+end)
		wantNoTable(t, name+", no end", blocks+index+filter)
		wantNoTable(t, name+", no blocks", index+filter+sealed(longWordByLibrary(0)))
		wantNoTable(t, name+", the filter first", blocks+filter+index+sealed(longWordByLibrary(b.begins+len(filter))))
		wantNoTable(t, name+", the filter for the index", blocks+filter+index+end)
		wantNoTable(t, name+", the index first", index+moved(b, len(index)).text())
		wantNoTable(t, name+", the end first", end+moved(b, len(end)).text())
	}
}

// moved is a table whose parts are told to begin so many bytes later.
func moved(b toldTable, more int) toldTable {
	out := b
	out.index = nil
	at := more
	for i, p := range b.index {
		p.at = numberByLibrary(at)
		out.index = append(out.index, p)
		at += len(b.blocks[i])
	}
	out.begins = at
	return out
}

// Blocks of other sizes than the document asks for, all else being right.
func TestBlocksTooShortOrTooLong(t *testing.T) {
	for _, n := range []int{8, 9, 16, 17, 24, 40} {
		l := byteRun(n)
		for many := 1; many <= 40; many++ {
			pieces := cutBy(l, many)
			if many == 8 || n <= 8 && many > 8 {
				wantTable(t, fmt.Sprint(n, " items by ", many), inBlocks(pieces...).text(), l)
				continue
			}
			wantNoTable(t, fmt.Sprint(n, " items by ", many), inBlocks(pieces...).text())
		}
	}
	l := byteRun(20)
	for first := range 21 {
		for second := first; second <= 20; second++ {
			if first == 8 && second == 16 {
				continue
			}
			what := fmt.Sprint("cut at ", first, " and ", second)
			wantNoTable(t, what, inBlocks(l[:first], l[first:second], l[second:]).text())
		}
	}
	for what, pieces := range map[string][][]impl.Item{
		"an empty block ahead":   {nil, l[:8], l[8:16], l[16:]},
		"an empty block between": {l[:8], nil, l[8:16], l[16:]},
		"an empty block behind":  {l[:8], l[8:16], l[16:], nil},
		"an empty block alone":   {nil},
		"two empty blocks":       {nil, nil},
		"no blocks":              nil,
		"without the first":      {l[:7], l[8:16], l[16:]},
	} {
		wantNoTable(t, what, inBlocks(pieces...).text())
	}
}

func TestBlocksOutOfOrder(t *testing.T) {
	for _, l := range [][]impl.Item{byteRun(24), severalSeqs(24), someRun(24, 3), inOrder(oneKey(24))} {
		a, b, c := l[:8], l[8:16], l[16:]
		wantTable(t, "in order", inBlocks(a, b, c).text(), l)
		for what, pieces := range map[string][][]impl.Item{
			"a c b": {a, c, b}, "b a c": {b, a, c}, "b c a": {b, c, a}, "c a b": {c, a, b}, "c b a": {c, b, a}, "a a b c": {a, a, b, c}, "a b b c": {a, b, b, c}, "a b c c": {a, b, c, c},
		} {
			wrong := inBlocks(pieces...)
			wantNoTable(t, what, wrong.text())
			right := inBlocks(a, b, c)
			right.blocks = wrong.blocks
			wantNoTable(t, what+", the right index", right.text())
			right = inBlocks(a, b, c)
			right.index = wrong.index
			wantNoTable(t, what+", the right blocks", right.text())
		}
	}
}

// Each block is one of a run: what is wrong shows where two of them meet.
func TestBlocksThatDoNotFollowEachOther(t *testing.T) {
	l := byteRun(16)
	for what, x := range map[string]impl.Item{
		"the same again":        l[7],
		"the same, another":     put(l[7].Key, 0, "other"),
		"the same key, greater": put(l[7].Key, 1, ""),
		"one ahead":             l[6],
		"the first":             l[0],
	} {
		wrong := slices.Clone(l)
		wrong[8] = x
		wantNoTable(t, what, tableByHand(wrong))
		wantNoTable(t, what+", alone", tableByHand(wrong[:9]))
	}
}

func TestItemsThatAreNoRunAreNoTable(t *testing.T) {
	for fault, l := range badRuns() {
		if slices.ContainsFunc(l, func(x impl.Item) bool { return x.Seq < 0 || x.Kind < 0 || x.Kind > 1 || len(x.Key) > 17 }) {
			continue
		}
		wantNoTable(t, fault, tableByHand(l))
	}
}

func TestPlacesOfAnIndexThatAreNotSo(t *testing.T) {
	for name, l := range shortTables() {
		b := toldTableOf(l)
		for i, p := range b.index {
			for what, wrong := range wrongPlaces(p, l[min(8*i+7, len(l)-1)], indexByHand(l)[i]) {
				if wrong.text() == p.text() {
					t.Errorf("%s: %s is not wrong", name, what)
				}
				wantNoTable(t, fmt.Sprint(name, ", place ", i, ", ", what), b.with(i, wrong).text())
			}
			for j, other := range b.index {
				if i != j {
					wantNoTable(t, fmt.Sprint(name, ", place ", i, " as place ", j), b.with(i, other).text())
				}
			}
			less, twice := b, b
			less.index = slices.Delete(slices.Clone(b.index), i, i+1)
			twice.index = slices.Insert(slices.Clone(b.index), i, p)
			wantNoTable(t, fmt.Sprint(name, " without place ", i), less.text())
			wantNoTable(t, fmt.Sprint(name, ", place ", i, " twice"), twice.text())
		}
		back := b
		back.index = slices.Clone(b.index)
		slices.Reverse(back.index)
		if len(b.index) > 1 {
			wantNoTable(t, name+", the other way", back.text())
		}
	}
}

// wrongPlaces tells a place wrong, by one thing each.
func wrongPlaces(p toldPlace, last impl.Item, place impl.Place) map[string]toldPlace {
	l := map[string]toldPlace{
		"another Seq":       toldAt(put(last.Key, last.Seq+1, ""), place.At, place.Size),
		"Seq far off":       toldAt(put(last.Key, math.MaxInt, ""), place.At, place.Size),
		"a key with more":   toldAt(put(last.Key+"\x00", last.Seq, ""), place.At, place.Size),
		"a key with less":   toldAt(put(last.Key[1:], last.Seq, ""), place.At, place.Size),
		"a key of 17 bytes": toldAt(put(sized(17), last.Seq, ""), place.At, place.Size),
		"another key":       toldAt(put(turned(last.Key, 0), last.Seq, ""), place.At, place.Size),
		"another At":        toldAt(last, place.At+1, place.Size),
		"At far off":        toldAt(last, math.MaxInt, place.Size),
		"At 128 later":      toldAt(last, place.At+128, place.Size),
		"another size":      toldAt(last, place.At, place.Size+1),
		"a lesser size":     toldAt(last, place.At, place.Size-1),
		"no size":           toldAt(last, place.At, 0),
		"size far off":      toldAt(last, place.At, math.MaxInt),
		"size of 6":         toldAt(last, place.At, 6),
	}
	if last.Seq > 0 {
		l["a lesser Seq"] = toldAt(put(last.Key, last.Seq-1, ""), place.At, place.Size)
	}
	if place.At > 0 {
		l["a lesser At"] = toldAt(last, place.At-1, place.Size)
	}
	for what, number := range map[string]string{"nothing": "", "not ended": "\x80", "nine bytes": repeated(0xff, 8) + "\x7f", "not ended, long": repeated(0xff, 9), "long": repeated(0xff, 20)} {
		wrong := []toldPlace{p, p, p, p}
		wrong[0].length, wrong[1].seq, wrong[2].at, wrong[3].size = number, number, number, number
		for j, x := range wrong {
			l[fmt.Sprint("number ", j, ": ", what)] = x
		}
	}
	return l
}

func TestIndexesInALongerForm(t *testing.T) {
	for name, l := range shortTables() {
		b := toldTableOf(l)
		for i, p := range b.index {
			wrong := []toldPlace{p, p, p, p}
			wrong[0].length, wrong[1].seq, wrong[2].at, wrong[3].size = longer(p.length), longer(p.seq), longer(p.at), longer(p.size)
			for j, x := range wrong {
				wantNoTable(t, fmt.Sprint(name, ", place ", i, ", number ", j), b.with(i, x).text())
			}
		}
	}
}

// The lengths of the two frames, in a longer form, or with other sums.
func TestFramesOfTablesThatAreNotSo(t *testing.T) {
	for name, l := range shortTables() {
		b := toldTableOf(l)
		blocks, end := strings.Join(b.blocks, ""), sealed(longWordByLibrary(b.begins))
		index, filter := frameByLibrary(b.indexText()), frameByLibrary(b.bits)
		size := len(numberByLibrary(len(b.indexText())))
		wantNoTable(t, name+", index", blocks+longer(index[:size])+index[size:]+filter+end)
		wantNoTable(t, name+", filter", blocks+index+longer(filter[:1])+filter[1:]+end)
		for at := range 4 {
			wantNoTable(t, fmt.Sprint(name, ", index's sum ", at), blocks+turned(index, 8*(size+at))+filter+end)
			wantNoTable(t, fmt.Sprint(name, ", filter's sum ", at), blocks+index+turned(filter, 8*(1+at))+end)
		}
		wantNoTable(t, name+", no frame of the index", blocks+b.indexText()+filter+end)
		wantNoTable(t, name+", no frame of the filter", blocks+index+b.bits+end)
		wantNoTable(t, name+", one frame", blocks+frameByLibrary(b.indexText()+b.bits)+end)
		for _, more := range []string{"\x00", "\xff", "\x00\x00\x00\x00", b.index[0].text()[:2], sized(900), sized(1000)} {
			wantNoTable(t, fmt.Sprintf("%s, %.20q behind the index", name, more), withIndex(b, b.indexText()+more))
			wantNoTable(t, fmt.Sprintf("%s, %.20q ahead of the index", name, more), withIndex(b, more+b.indexText()))
		}
		for n := range len(b.indexText()) {
			wantNoTable(t, fmt.Sprint(name, ", ", n, " bytes of the index"), withIndex(b, b.indexText()[:n]))
		}
	}
}

func withBits(b toldTable, bits string) string {
	b.bits = bits
	return b.text()
}

func TestFiltersOfTablesThatAreNotSo(t *testing.T) {
	for name, l := range shortTables() {
		b := toldTableOf(l)
		for bit := range 256 {
			wantNoTable(t, fmt.Sprint(name, ", bit ", bit), withBits(b, turned(b.bits, bit)))
		}
		for _, size := range []int{0, 1, 31} {
			wantNoTable(t, fmt.Sprint(name, ", ", size, " bytes"), withBits(b, b.bits[:size]))
		}
		wantNoTable(t, name+", a byte more", withBits(b, b.bits+"\x00"))
		wantNoTable(t, name+", a byte ahead", withBits(b, "\x00"+b.bits))
		wantNoTable(t, name+", no bits", withBits(b, repeated(0, 32)))
		wantNoTable(t, name+", all bits", withBits(b, repeated(0xff, 32)))
		for _, hashes := range []int{1, 2, 3, 5, 6, 7, 8} {
			f := filterByHand(hashes, keysByHand(l)...)
			if f.Bits != b.bits {
				wantNoTable(t, fmt.Sprint(name, ", ", hashes, " hashes"), withBits(b, f.Bits))
			}
		}
		wantNoTable(t, name+", a key more", withBits(b, filterByHand(4, append(keysByHand(l), "another")...).Bits))
		if less := filterByHand(4, keysByHand(l)[1:]...).Bits; less != b.bits {
			wantNoTable(t, name+", a key less", withBits(b, less))
		}
	}
}

func TestWhereTheIndexBeginsThatIsNotSo(t *testing.T) {
	for name, l := range shortTables() {
		b := toldTableOf(l)
		s := b.text()
		for _, begins := range []int{0, 1, b.begins - 1, b.begins + 1, b.begins + 256, b.begins + 65536, b.begins + 1<<24, len(s) - 9, len(s) - 8, len(s) - 7, len(s), len(s) + 1, math.MaxInt32, 1 << 31, math.MaxUint32,
			int(bits.ReverseBytes32(uint32(b.begins))), len(b.blocks[0]) / 2} {
			wrong := b
			wrong.begins = begins
			wantNoTable(t, fmt.Sprint(name, ", begins at ", begins), wrong.text())
		}
		for i := range b.blocks[1:] {
			wrong := b
			wrong.begins = len(strings.Join(b.blocks[:i+1], ""))
			wantNoTable(t, fmt.Sprint(name, ", begins behind block ", i), wrong.text())
		}
		wrong := b
		wrong.begins += len(frameByLibrary(b.indexText()))
		wantNoTable(t, name+", begins at the filter", wrong.text())
		for what, sum := range map[string]string{"noughts": "\x00\x00\x00\x00", "of all ahead": sealed(s[:len(s)-4])[len(s)-4:], "of nothing": sealed("")} {
			wantNoTable(t, name+", sum of "+what, s[:len(s)-4]+sum)
		}
	}
}

func TestShortTextsAreNoTables(t *testing.T) {
	s := tableByHand([]impl.Item{put("a", 1, "x")})
	for size := range 9 {
		wantNoTable(t, "noughts", repeated(0, size))
		wantNoTable(t, "others", mixed(size, size))
		wantNoTable(t, "all bits", repeated(0xff, size))
		wantNoTable(t, "the beginning of a table", s[:size])
		wantNoTable(t, "the end of a table", s[len(s)-size:])
		wantNoTable(t, "with a sum", sealed(repeated(0, size)))
		for begins := range 20 {
			wantNoTable(t, fmt.Sprint(size, " bytes and an end of ", begins), repeated(0, size)+sealed(longWordByLibrary(begins)))
		}
	}
	for size := range len(s) - 8 {
		for begins := range size + 2 {
			wantNoTable(t, fmt.Sprint(size, " bytes of a table and an end of ", begins), s[:size]+sealed(longWordByLibrary(begins)))
		}
	}
}

// Two tables behind each other, the second's places told as they are, or as they would be alone.
func TestTwoTablesAreNoTable(t *testing.T) {
	first, second := tableByHand(byteRun(9)), toldTableOf(severalSeqs(9))
	wantNoTable(t, "two", first+second.text())
	wantNoTable(t, "two, moved", first+moved(second, len(first)).text())
	wantNoTable(t, "twice", first+first)
}

// Texts that are other layers' are no tables.
func TestBlocksAndFramesAreNoTables(t *testing.T) {
	for name, l := range fairRuns() {
		wantNoTable(t, name, blockByHand(l))
		wantNoTable(t, name+", in a frame", frameByLibrary(blockByHand(l[:1])))
	}
}
