package tests

import (
	"fmt"
	"math"
	"slices"
	"testing"

	"loop.example/g00224/impl"
)

func TestNewTakings(t *testing.T) {
	for name, files := range manyFiles() {
		want, _ := wantByHand(files)
		checkNewTaking(t, name, want)
	}
	checkNewTaking(t, "nothing", nil)
	checkNewTaking(t, "nothing", []impl.Wanted{})
	for many := range 15 {
		for _, size := range []int{math.MinInt, -64, -1, 0, 1, 64, 3999, 4000, 4001, 4032, math.MaxInt} {
			checkNewTaking(t, fmt.Sprint(many, " of ", size), slices.Repeat([]impl.Wanted{{Size: size, Sum: 7}}, many))
			for place := range many {
				l := slices.Repeat([]impl.Wanted{{Size: 5, Sum: 0xffffffff}}, many)
				l[place].Size = size
				checkNewTaking(t, fmt.Sprintf("%d, %d in place %d", many, size, place), l)
			}
		}
	}
	for _, x := range []struct {
		want []impl.Wanted
		good bool
	}{
		{nil, true},
		{make([]impl.Wanted, 12), true},
		{make([]impl.Wanted, 13), false},
		{wantedSizes(-1), false},
		{wantedSizes(0), true},
		{wantedSizes(4000), true},
		{wantedSizes(4001), false},
		{wantedSizes(slices.Repeat([]int{4000}, 12)...), true},
	} {
		if _, ok := impl.NewTaking(x.want); ok != x.good {
			t.Errorf("NewTaking of %v: %v", x.want, ok)
		}
		checkGoodTaking(t, "nothing got", impl.Taking{Want: x.want}, x.good)
	}
}

func TestTakingsThatAreGood(t *testing.T) {
	checkGoodTaking(t, "the zero taking", impl.Taking{}, true)
	for name, x := range manyTakings() {
		checkGoodTaking(t, name, x, true)
	}
}

// Any sum may be wanted: whether it is the right one shows at the end alone.
func TestAnySumMayBeWanted(t *testing.T) {
	for _, sum := range []uint32{0, 1, 0x7fffffff, 0x80000000, 0xffffffff} {
		checkGoodTaking(t, "any sum", changedTaking(fairTaking(), func(x *impl.Taking) { x.Want[0].Sum, x.Want[1].Sum = sum, sum }), true)
	}
}

// badTakings are each a good one with one thing wrong, and right sums wherever nothing else is said.
func badTakings() map[string]impl.Taking {
	files := filesSized(7, 150, 0, 64, 65)
	l := map[string]impl.Taking{
		"13 wanted":                 {Want: make([]impl.Wanted, 13)},
		"13 wanted, some got":       {Want: slices.Concat(fairTaking().Want, make([]impl.Wanted, 9)), Got: fairTaking().Got},
		"201 got":                   greatTaking(201),
		"all 756 got":               greatTaking(756),
		"the wrong order by File":   takingOf(files, 3, 0),
		"the wrong order by At":     takingOf(files, 1, 0),
		"the wrong order in all":    takingOf(files, 5, 4, 3, 2, 1, 0),
		"the wrong order, the last": takingOf(files, 0, 1, 2, 3, 5, 4),
		"two that are alike":        takingOf(files, 0, 0),
		"two alike, last":           takingOf(files, 0, 3, 5, 5),
		"two alike, not together":   takingOf(files, 0, 3, 0),
		"something of nothing":      {Got: []impl.Chunk{pieceOf(0, 0, "x")}},
		"nothing of nothing":        {Got: []impl.Chunk{{}}},
		"a chunk of an empty file":  {Want: wantedSizes(0), Got: []impl.Chunk{pieceOf(0, 0, "")}},
	}
	for _, size := range []int{math.MinInt, -64, -1, 4001, math.MaxInt} {
		for place := range 4 {
			l[fmt.Sprint("a size of ", size, " in ", place)] = changedTaking(fairTaking(), func(x *impl.Taking) { x.Want[place].Size = size })
		}
	}
	for name, c := range badChunks() {
		x := takingOf(files)
		l[name+", alone"] = impl.Taking{Want: x.Want, Got: []impl.Chunk{c}}
		l[name+", first"] = impl.Taking{Want: x.Want, Got: append([]impl.Chunk{c}, takingOf(files, 3, 4).Got...)}
		l[name+", last"] = impl.Taking{Want: x.Want, Got: append(takingOf(files, 0).Got, c)}
		l[name+", beside all"] = impl.Taking{Want: x.Want, Got: append(takingOf(files, 0, 1, 2, 3, 4, 5).Got, c)}
	}
	return l
}

// badChunks are not good for a taking of four files of 150, 0, 64 and 65 bytes; but one whose name tells it, each has a right sum.
func badChunks() map[string]impl.Chunk {
	l := map[string]impl.Chunk{
		"the zero chunk":             {},
		"File -1":                    pieceOf(-1, 0, mixed(64, 1)),
		"File beyond the last":       pieceOf(4, 0, mixed(64, 1)),
		"File least":                 pieceOf(math.MinInt, 0, mixed(64, 1)),
		"File greatest":              pieceOf(math.MaxInt, 0, mixed(64, 1)),
		"At -1":                      pieceOf(0, -1, mixed(64, 1)),
		"At -64":                     pieceOf(0, -64, mixed(64, 1)),
		"At least":                   pieceOf(0, math.MinInt, mixed(64, 1)),
		"At greatest":                pieceOf(0, math.MaxInt, mixed(64, 1)),
		"At a greatest multiple":     pieceOf(0, math.MaxInt-63, mixed(64, 1)),
		"At 1":                       pieceOf(0, 1, mixed(64, 1)),
		"At 32":                      pieceOf(0, 32, mixed(64, 1)),
		"At 63":                      pieceOf(0, 63, mixed(64, 1)),
		"At 65":                      pieceOf(0, 65, mixed(64, 1)),
		"At the last byte":           pieceOf(0, 149, "x"),
		"At the Size":                pieceOf(0, 150, ""),
		"At a multiple behind":       pieceOf(0, 192, mixed(64, 1)),
		"At a multiple behind, none": pieceOf(0, 192, ""),
		"an empty file's":            pieceOf(1, 0, ""),
		"an empty file's, a byte":    pieceOf(1, 0, "x"),
		"At a Size of 64":            pieceOf(2, 64, ""),
		"At a Size of 64, a byte":    pieceOf(2, 64, "x"),
		"short by one":               pieceOf(0, 0, mixed(63, 1)),
		"long by one":                pieceOf(0, 0, mixed(65, 1)),
		"all of the file":            pieceOf(0, 0, mixed(150, 1)),
		"empty":                      pieceOf(0, 0, ""),
		"the last, short by one":     pieceOf(0, 128, mixed(21, 1)),
		"the last, long by one":      pieceOf(0, 128, mixed(23, 1)),
		"the last, as if whole":      pieceOf(0, 128, mixed(64, 1)),
		"the only, short by one":     pieceOf(2, 0, mixed(63, 1)),
		"the only, long by one":      pieceOf(2, 0, mixed(65, 1)),
		"one byte, none":             pieceOf(3, 64, ""),
		"one byte, two":              pieceOf(3, 64, "xy"),
		"another sum: 0":             {File: 2, At: 0, Data: mixed(64, 1)},
	}
	right := pieceOf(2, 0, mixed(64, 1))
	for name, sum := range map[string]uint32{
		"one more":        right.Sum + 1,
		"one less":        right.Sum - 1,
		"turned":          ^right.Sum,
		"its lowest bit":  right.Sum ^ 1,
		"its highest bit": right.Sum ^ 1<<31,
		"of the data":     sumByLibrary(right.Data),
		"of another File": chunkSumByHand(3, 0, right.Data),
		"of another At":   chunkSumByHand(2, 64, right.Data),
		"At first":        chunkSumByHand(0, 2, right.Data),
		"of other data":   chunkSumByHand(2, 0, mixed(64, 2)),
	} {
		l["another sum: "+name] = impl.Chunk{File: 2, At: 0, Data: right.Data, Sum: sum}
	}
	return l
}

func TestTakingsThatAreNotGood(t *testing.T) {
	for name, x := range badTakings() {
		checkGoodTaking(t, name, x, false)
	}
}

func TestHowManyChunksATakingMayHave(t *testing.T) {
	for _, many := range []int{0, 1, 2, 62, 63, 64, 199, 200} {
		checkGoodTaking(t, fmt.Sprint(many, " got"), greatTaking(many), true)
	}
	checkGoodTaking(t, "201 got", greatTaking(201), false)
	all := greatTaking(756)
	for from := range 556 {
		if from%37 == 0 {
			checkGoodTaking(t, fmt.Sprint("200 from ", from), impl.Taking{Want: all.Want, Got: all.Got[from : from+200]}, true)
			checkGoodTaking(t, fmt.Sprint("201 from ", from), impl.Taking{Want: all.Want, Got: all.Got[from : from+201]}, false)
		}
	}
}

// Every two chunks of four files: just those in order, and unlike, may both be there.
func TestEveryTwoChunksOfATaking(t *testing.T) {
	files := filesSized(7, 150, 0, 64, 65)
	for i := range 6 {
		for j := range 6 {
			checkGoodTaking(t, fmt.Sprint(i, " and ", j), takingOf(files, i, j), i < j)
			for k := range 6 {
				checkGoodTaking(t, fmt.Sprint(i, ", ", j, " and ", k), takingOf(files, i, j, k), i < j && j < k)
			}
		}
	}
}

// Each File, At and size of Data near those that are good: just these are.
func TestEveryPlaceOfAChunk(t *testing.T) {
	sizes := []int{150, 0, 64, 65, 1, 4000}
	x := impl.Taking{Want: wantedSizes(sizes...)}
	good := map[[3]int]bool{}
	for file, size := range sizes {
		for at := 0; at < size; at += 64 {
			good[[3]int{file, at, min(64, size-at)}] = true
		}
	}
	for file := -2; file <= 7; file++ {
		for _, at := range []int{-128, -64, -63, -1, 0, 1, 2, 32, 62, 63, 64, 65, 66, 127, 128, 129, 150, 192, 256, 3904, 3936, 3967, 3968, 3969, 3999, 4000, 4032} {
			for _, size := range []int{0, 1, 2, 21, 22, 23, 31, 32, 33, 63, 64, 65, 150} {
				x.Got = []impl.Chunk{pieceOf(file, at, mixed(size, 1))}
				checkGoodTaking(t, fmt.Sprintf("%d bytes of file %d at %d", size, file, at), x, good[[3]int{file, at, size}])
			}
		}
	}
}

// Every other bit in a chunk's sum, and every other byte in its data, is seen wherever the chunk stands.
func TestChunksOfATakingHaveRightSums(t *testing.T) {
	x := takingOf(filesSized(7, 150, 0, 64, 65), 0, 1, 2, 3, 4, 5)
	for place, c := range x.Got {
		for bit := range 32 {
			checkGoodTaking(t, fmt.Sprint("bit ", bit, " of sum ", place), changedTaking(x, func(x *impl.Taking) { x.Got[place].Sum ^= 1 << bit }), false)
		}
		for bit := range 8 * len(c.Data) {
			checkGoodTaking(t, fmt.Sprint("bit ", bit, " of ", place), changedTaking(x, func(x *impl.Taking) { x.Got[place].Data = turned(c.Data, bit) }), false)
		}
	}
}

// What is wanted may be another size, as long as each chunk has the length that it asks for.
func TestSizesThatChunksFit(t *testing.T) {
	for size := range 260 {
		x := impl.Taking{Want: wantedSizes(size, 5), Got: []impl.Chunk{pieceOf(0, 0, mixed(64, 1)), pieceOf(0, 64, mixed(36, 1))}}
		checkGoodTaking(t, fmt.Sprint("a size of ", size), x, size == 100)
		x.Got = x.Got[:1]
		checkGoodTaking(t, fmt.Sprint("the first chunk, a size of ", size), x, size >= 64)
		x.Got = []impl.Chunk{pieceOf(0, 128, mixed(64, 1))}
		checkGoodTaking(t, fmt.Sprint("the third chunk, a size of ", size), x, size >= 192)
	}
}

// In as many chunks as there may be, each one is looked at.
func TestEveryChunkOfAFullTakingIsLookedAt(t *testing.T) {
	full := greatTaking(200)
	for place := range 200 {
		what := fmt.Sprint("chunk ", place, " of 200")
		checkGoodTaking(t, what+", its sum", changedTaking(full, func(x *impl.Taking) { x.Got[place].Sum++ }), false)
		if place > 0 {
			checkGoodTaking(t, what+", the one ahead", changedTaking(full, func(x *impl.Taking) { x.Got[place] = x.Got[place-1] }), false)
		}
	}
}
