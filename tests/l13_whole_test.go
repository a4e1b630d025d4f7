package tests

import (
	"fmt"
	"slices"
	"testing"

	"loop.example/g00224/impl"
)

// everyOrder are all orders of the numbers below n.
func everyOrder(n int) [][]int {
	if n == 0 {
		return [][]int{nil}
	}
	var l [][]int
	for _, order := range everyOrder(n - 1) {
		for place := range n {
			l = append(l, slices.Insert(slices.Clone(order), place, n-1))
		}
	}
	return l
}

// fewChunks are files of at most six chunks in all.
func fewChunks() map[string][]string {
	return map[string][]string{
		"none":                nil,
		"empty ones":          {"", ""},
		"one byte":            {"x"},
		"a size less one":     filesSized(1, 63),
		"a size":              filesSized(1, 64),
		"a size and one":      filesSized(1, 65),
		"sizes about one":     filesSized(1, 63, 64, 65),
		"several":             filesSized(1, 200, 0, 1),
		"six of one":          filesSized(1, 384),
		"six of three":        filesSized(1, 65, 129, 1),
		"six files":           filesSized(1, 1, 2, 0, 64, 0, 3, 5, 0, 6),
		"alike":               {"same", "same", "same"},
		"pieces that are one": {repeated('x', 192), repeated('x', 65)},
		"noughts":             {repeated(0, 129), repeated(0, 64)},
	}
}

// wantWholeOrNothing is promise 13, asked of what is told of files.
func wantWholeOrNothing(t *testing.T, what string, files []string, told []string, ok bool) {
	t.Helper()
	if ok && !slices.Equal(told, files) {
		t.Errorf("%s: told is %s, and the files are %s", what, shown(told), shown(files))
	}
	if !ok && len(told) != 0 {
		t.Errorf("%s: told is %s beside a false", what, shown(told))
	}
}

// takenOf hands chunks in, and asks of what is there in the end.
func takenOf(t *testing.T, what string, files []string, l []impl.Chunk) bool {
	t.Helper()
	want, _ := impl.WantOf(files)
	x, ok := impl.NewTaking(want)
	if !ok {
		t.Fatalf("%s: what is wanted is refused", what)
	}
	for _, c := range l {
		if next, ok := impl.TakeChunk(x, c); ok {
			x = next
		}
	}
	told, ok := impl.FinishTaking(x)
	wantWholeOrNothing(t, what, files, told, ok)
	return ok
}

// In every order each chunk is taken, and the files are told with the last one and not ahead of it.
func TestFilesComeWholeInEveryOrder(t *testing.T) {
	for name, files := range fewChunks() {
		l, ok := impl.ChunksOf(files)
		if !ok {
			t.Fatalf("%s: no chunks", name)
		}
		for _, order := range everyOrder(len(l)) {
			what := fmt.Sprint(name, " in the order ", order)
			want, _ := impl.WantOf(files)
			x, _ := impl.NewTaking(want)
			for i, number := range order {
				wantNotFinished(t, what, x)
				next, ok := impl.TakeChunk(x, l[number])
				if !ok {
					t.Fatalf("%s: chunk %d is not taken", what, number)
				}
				x = next
				if missing, ok := impl.MissingIn(x); !ok || len(missing) != len(l)-i-1 {
					t.Errorf("%s: %d are missing behind %d", what, len(missing), i)
				}
			}
			wantFinished(t, what, x, files...)
			wantPlayTaking(t, what, files, order, unturned(len(order)), files, len(order))
		}
	}
}

// However often each of three chunks comes, and in whatever order: the files are told if each came.
func TestFilesComeWholeHoweverOftenChunksCome(t *testing.T) {
	for _, files := range [][]string{filesSized(1, 130), filesSized(1, 64, 0, 65), {"same", "same", "same"}} {
		orders := [][]int{nil}
		for range 6 {
			var longer [][]int
			for _, order := range orders {
				for number := range 4 {
					longer = append(longer, append(slices.Clone(order), number))
				}
			}
			orders = longer
			for _, order := range orders {
				all := slices.Contains(order, 0) && slices.Contains(order, 1) && slices.Contains(order, 2)
				if told := checkPlayTaking(t, fmt.Sprint(order), files, order, unturned(len(order))); told != all {
					t.Errorf("the order %v: told is %v", order, told)
				}
			}
		}
	}
}

// Of every set of chunks that come, all of them alone make the files.
func TestFilesAreNotToldWhereSomethingDidNotCome(t *testing.T) {
	files := filesSized(2, 0, 1, 63, 64, 65, 127, 128, 129)
	for set := range 1 << 12 {
		var order []int
		for number := range 12 {
			if set>>number&1 == 1 {
				order = append(order, number)
			}
		}
		d := dealingOf(set)
		for i := range order {
			j := d.below(i + 1)
			order[i], order[j] = order[j], order[i]
		}
		if told := checkPlayTaking(t, fmt.Sprint(order), files, order, unturned(len(order))); told != (len(order) == 12) {
			t.Errorf("%v came: told is %v", order, told)
		}
	}
}

// Every single bit of every chunk turned: it is not taken, whether the right one is there or not, and does no harm to it.
func TestEveryTurnedBitOfAChunkIsSeen(t *testing.T) {
	for name, files := range fewChunks() {
		l, _ := impl.ChunksOf(files)
		all := allBelow(len(l))
		none := takingOf(files)
		full := takingOf(files, all...)
		for number, c := range l {
			for bit := range 8 * len(c.Data) {
				what := fmt.Sprintf("%s: bit %d of chunk %d", name, bit, number)
				wrong := c
				wrong.Data = turned(c.Data, bit)
				for _, x := range []impl.Taking{none, full} {
					if got, ok := impl.TakeChunk(x, wrong); ok || !sameTaking(got, impl.Taking{}) {
						t.Errorf("%s is taken", what)
					}
				}
				order := append(slices.Clone(all), number)
				alone, ahead, behind := unturned(len(all)), unturned(len(order)), unturned(len(order))
				alone[number], ahead[number], behind[len(all)] = bit, bit, bit
				wantPlayTaking(t, what+", alone", files, all, alone, nil, len(all)-1)
				wantPlayTaking(t, what+", ahead", files, order, ahead, files, len(all))
				wantPlayTaking(t, what+", behind", files, order, behind, files, len(all))
			}
		}
	}
}

// A turned bit with a right sum behind it is not seen in the chunk, but in the file: no file is told then.
func TestEveryTurnedBitWithARightSumIsSeenInTheEnd(t *testing.T) {
	for name, files := range fewChunks() {
		l, _ := impl.ChunksOf(files)
		for number, c := range l {
			for bit := range 8 * len(c.Data) {
				what := fmt.Sprintf("%s: bit %d of chunk %d, with a right sum", name, bit, number)
				wrong := pieceOf(c.File, c.At, turned(c.Data, bit))
				ahead := slices.Insert(slices.Clone(l), 0, wrong)
				if takenOf(t, what+", ahead", files, ahead) {
					t.Errorf("%s: the files are told", what)
				}
				behind := append(slices.Clone(l), wrong)
				if !takenOf(t, what+", behind", files, behind) {
					t.Errorf("%s, behind all: the files are not told", what)
				}
			}
		}
	}
}

// Every single bit of a chunk's File, At and Sum turned.
func TestEveryTurnedBitOfAChunksNumbersIsSeen(t *testing.T) {
	for name, files := range manyFiles() {
		l, _ := impl.ChunksOf(files)
		if len(l) > 20 {
			continue
		}
		for number, c := range l {
			for bit := range 160 {
				wrong := c
				switch {
				case bit < 64:
					wrong.File ^= 1 << bit
				case bit < 128:
					wrong.At ^= 1 << (bit - 64)
				default:
					wrong.Sum ^= 1 << (bit - 128)
				}
				what := fmt.Sprintf("%s: bit %d of the numbers of chunk %d", name, bit, number)
				wantNotTaken(t, what, takingOf(files), wrong)
				come := slices.Clone(l)
				come[number] = wrong
				if takenOf(t, what, files, come) {
					t.Errorf("%s: the files are told", what)
				}
				if !takenOf(t, what+", all behind", files, append(come, l...)) {
					t.Errorf("%s, all behind it: the files are not told", what)
				}
			}
		}
	}
}

// Every single bit of what is wanted turned: nothing is told.
func TestEveryTurnedBitOfWhatIsWantedIsSeen(t *testing.T) {
	for name, files := range fewChunks() {
		l, _ := impl.ChunksOf(files)
		want, _ := impl.WantOf(files)
		for file := range want {
			for bit := range 96 {
				wrong := slices.Clone(want)
				if bit < 64 {
					wrong[file].Size ^= 1 << bit
				} else {
					wrong[file].Sum ^= 1 << (bit - 64)
				}
				x, _ := impl.NewTaking(wrong)
				for _, c := range l {
					if next, ok := impl.TakeChunk(x, c); ok {
						x = next
					}
				}
				if len(x.Want) > 0 {
					wantNotFinished(t, fmt.Sprintf("%s: bit %d of what is wanted of %d", name, bit, file), x)
				}
			}
		}
	}
}

// Chunks of other files of the same sizes among those of the files: what is told are the files, or nothing.
func TestChunksOfOtherFilesAmongThem(t *testing.T) {
	told := 0
	for seed := range 400 {
		d := dealingOf(seed)
		sizes := [][]int{{65}, {64, 64}, {130, 0, 1}, {63, 65}}[d.below(4)]
		files, others := filesSized(1, sizes...), filesSized(2, sizes...)
		l, _ := impl.ChunksOf(files)
		strange, _ := impl.ChunksOf(others)
		var come []impl.Chunk
		for range 3 * len(l) {
			number := d.below(len(l))
			if d.below(6) == 0 {
				come = append(come, strange[number])
			} else {
				come = append(come, l[number])
			}
		}
		first := map[[2]int]impl.Chunk{}
		for _, c := range come {
			if _, there := first[[2]int{c.File, c.At}]; !there {
				first[[2]int{c.File, c.At}] = c
			}
		}
		whole := true
		for _, c := range l {
			whole = whole && first[[2]int{c.File, c.At}] == c
		}
		if ok := takenOf(t, fmt.Sprint("drawn ", seed), files, come); ok != whole {
			t.Errorf("drawn %d: told is %v, want %v", seed, ok, whole)
		}
		if whole {
			told++
		}
	}
	if told < 40 || told > 360 {
		t.Errorf("the test itself is wrong: %d of 400 are told", told)
	}
}

// Drawn files in drawn orders, with numbers that come often, or not at all, and bits that are turned.
func TestFilesAreToldWholeOrNotAtAll(t *testing.T) {
	told := 0
	for seed := range 1500 {
		d := dealingOf(seed)
		files := d.files(1 + seed%12)
		chunks, ok := impl.ChunksOf(files)
		if !ok {
			t.Fatalf("drawn %d: no chunks", seed)
		}
		order, flips := d.play(chunks, min(400, d.below(8*len(chunks)+2)))
		what := fmt.Sprint("drawn ", seed)
		got, _, ok := impl.PlayTaking(files, order, flips)
		wantWholeOrNothing(t, what, files, got, ok && len(got) > 0)
		if checkPlayTaking(t, what, files, order, flips) {
			told++
		}
	}
	if told < 200 || told > 1300 {
		t.Errorf("the test itself is wrong: %d of 1500 are told", told)
	}
}

// As many chunks as there may be, in several orders, twice each, without one, and with a bit of one turned.
func TestTheMostChunksComeWhole(t *testing.T) {
	for _, name := range []string{"full", "full, twelve"} {
		files := manyFiles()[name]
		rising := allBelow(200)
		falling := slices.Clone(rising)
		slices.Reverse(falling)
		d := dealingOf(9)
		drawn := slices.Clone(rising)
		for i := range drawn {
			j := d.below(i + 1)
			drawn[i], drawn[j] = drawn[j], drawn[i]
		}
		for kind, order := range map[string][]int{"rising": rising, "falling": falling, "drawn": drawn} {
			what := name + ", " + kind
			wantPlayTaking(t, what, files, order, unturned(200), files, 200)
			wantPlayTaking(t, what+", each twice", files, append(slices.Clone(order), order...), unturned(400), files, 400)
			wantPlayTaking(t, what+", one another turn", files, append(slices.Clone(order), falling...), unturned(400), files, 400)
			for _, place := range []int{0, 1, 99, 198, 199} {
				without := slices.Delete(slices.Clone(order), place, place+1)
				wantPlayTaking(t, what+", without one", files, without, unturned(199), nil, 199)
				flips := unturned(200)
				flips[place] = 7 * place % 64
				wantPlayTaking(t, what+", one turned", files, order, flips, nil, 199)
				twice := append(flips, unturned(200)...)
				wantPlayTaking(t, what+", one turned once", files, append(slices.Clone(order), order...), twice, files, 399)
			}
		}
	}
}
