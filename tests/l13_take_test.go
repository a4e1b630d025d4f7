package tests

import (
	"fmt"
	"slices"
	"testing"

	"loop.example/g00224/impl"
)

func TestChunksAreTakenInTheirPlace(t *testing.T) {
	files := filesSized(7, 150, 0, 64, 65)
	l, _ := chunksByHand(files)
	for _, x := range []struct {
		what   string
		before []int
		takes  int
		after  []int
	}{
		{"the first of all", nil, 0, []int{0}},
		{"one alone", nil, 3, []int{3}},
		{"ahead of all", []int{1, 2, 5}, 0, []int{0, 1, 2, 5}},
		{"behind all", []int{0, 1, 3}, 5, []int{0, 1, 3, 5}},
		{"between two of its file", []int{0, 2}, 1, []int{0, 1, 2}},
		{"between two of other files", []int{2, 4}, 3, []int{2, 3, 4}},
		{"the last that is missing", []int{0, 1, 2, 4, 5}, 3, []int{0, 1, 2, 3, 4, 5}},
		{"there already, alone", []int{4}, 4, []int{4}},
		{"there already, first", []int{0, 2, 4}, 0, []int{0, 2, 4}},
		{"there already, between", []int{0, 2, 4}, 2, []int{0, 2, 4}},
		{"there already, last", []int{0, 2, 4}, 4, []int{0, 2, 4}},
		{"there already, all", []int{0, 1, 2, 3, 4, 5}, 3, []int{0, 1, 2, 3, 4, 5}},
	} {
		wantTaken(t, x.what, takingOf(files, x.before...), l[x.takes], takingOf(files, x.after...))
	}
}

// Every chunk into every taking of four files.
func TestEveryChunkIsTakenIntoEveryTaking(t *testing.T) {
	files := filesSized(7, 150, 0, 64, 65)
	l, _ := chunksByHand(files)
	for set := range 64 {
		var has []int
		for number := range 6 {
			if set>>number&1 == 1 {
				has = append(has, number)
			}
		}
		for number, c := range l {
			after := slices.Clone(has)
			if !slices.Contains(has, number) {
				after = append(after, number)
				slices.Sort(after)
			}
			wantTaken(t, fmt.Sprint(number, " into ", has), takingOf(files, has...), c, takingOf(files, after...))
		}
	}
}

func TestChunksThatAreNotTaken(t *testing.T) {
	files := filesSized(7, 150, 0, 64, 65)
	for name, c := range badChunks() {
		wantNotTaken(t, name, takingOf(files), c)
		wantNotTaken(t, name+", beside some", takingOf(files, 0, 2, 4), c)
		wantNotTaken(t, name+", beside all", takingOf(files, 0, 1, 2, 3, 4, 5), c)
		wantNotTaken(t, name+", of nothing", impl.Taking{}, c)
	}
}

// Another chunk of the same place, with a right sum, is not taken, whichever came first.
func TestOtherDataOfTheSamePlaceIsNotTaken(t *testing.T) {
	files := filesSized(7, 150, 0, 64, 65)
	l, _ := chunksByHand(files)
	for number, c := range l {
		for _, others := range [][]int{nil, {0, 1, 2, 3, 4, 5}} {
			var has []int
			for _, other := range others {
				if other != number {
					has = append(has, other)
				}
			}
			other := pieceOf(c.File, c.At, turned(c.Data, 0))
			x, ok := impl.TakeChunk(takingOf(files, has...), c)
			if !ok {
				t.Fatalf("chunk %d is not taken", number)
			}
			wantNotTaken(t, fmt.Sprint("another ", number), x, other)
			y, ok := impl.TakeChunk(takingOf(files, has...), other)
			if !ok {
				t.Fatalf("another chunk %d is not taken", number)
			}
			wantNotTaken(t, fmt.Sprint(number, " behind another"), y, c)
			wantTaken(t, fmt.Sprint("another ", number, " again"), y, other, y)
		}
	}
	// The same bytes in another place are another chunk.
	same := []string{repeated('x', 128), repeated('x', 64)}
	wantTaken(t, "the same bytes elsewhere", takingOf(same, 0), pieceOf(0, 64, repeated('x', 64)), takingOf(same, 0, 1))
	wantTaken(t, "the same bytes of another file", takingOf(same, 0), pieceOf(1, 0, repeated('x', 64)), takingOf(same, 0, 2))
}

// A taking may want more than it may have: what goes beyond is not taken, what is there is.
func TestATakingThatIsFull(t *testing.T) {
	all := greatTaking(756).Got
	wantTaken(t, "the 200th", greatTaking(199), all[199], greatTaking(200))
	for _, number := range []int{200, 201, 500, 755} {
		wantNotTaken(t, fmt.Sprint(number, " into a full one"), greatTaking(200), all[number])
	}
	for _, number := range []int{0, 1, 100, 199} {
		wantTaken(t, fmt.Sprint(number, " into a full one"), greatTaking(200), all[number], greatTaking(200))
		wantNotTaken(t, fmt.Sprint("another ", number, " into a full one"), greatTaking(200), pieceOf(all[number].File, all[number].At, turned(all[number].Data, 3)))
	}
	last := impl.Taking{Want: greatTaking(0).Want, Got: all[556:]}
	wantNotTaken(t, "ahead of a full one", last, all[0])
	wantTaken(t, "there in a full one", last, all[755], last)
}

func TestNothingIsTakenIntoATakingThatIsNotGood(t *testing.T) {
	files := filesSized(7, 150, 0, 64, 65)
	l, _ := chunksByHand(files)
	for name, x := range badTakings() {
		for _, c := range append(l, impl.Chunk{}, pieceOf(0, 0, "")) {
			wantNotTaken(t, name, x, c)
		}
		for _, c := range x.Got {
			wantNotTaken(t, name+", its own", x, c)
		}
	}
}

func TestChunksIntoManyTakings(t *testing.T) {
	for name, x := range manyTakings() {
		slots := slotsByHand(x.Want)
		for i, slot := range slots {
			if i%7 == len(slots)%7 || i < 2 || i > len(slots)-3 {
				checkTake(t, name, x, pieceOf(slot.File, slot.At, mixed(len(slot.Data), i)))
			}
		}
		for i, c := range x.Got {
			if i%13 == 0 {
				checkTake(t, name+", there", x, c)
			}
		}
	}
}

func TestWhatIsMissing(t *testing.T) {
	files := filesSized(7, 150, 0, 64, 65)
	all := []impl.Chunk{placed(0, 0), placed(0, 64), placed(0, 128), placed(2, 0), placed(3, 0), placed(3, 64)}
	wantMissing(t, "nothing got", takingOf(files), all...)
	wantMissing(t, "all got", takingOf(files, 0, 1, 2, 3, 4, 5))
	wantMissing(t, "some got", takingOf(files, 0, 2, 4), placed(0, 64), placed(2, 0), placed(3, 64))
	wantMissing(t, "the others got", takingOf(files, 1, 3, 5), placed(0, 0), placed(0, 128), placed(3, 0))
	wantMissing(t, "the last got", takingOf(files, 5), all[:5]...)
	wantMissing(t, "the first got", takingOf(files, 0), all[1:]...)
	wantMissing(t, "nothing wanted", impl.Taking{})
	wantMissing(t, "empty files", impl.Taking{Want: wantedSizes(0, 0, 0)})
	wantMissing(t, "an empty file between", impl.Taking{Want: wantedSizes(1, 0, 64)}, placed(0, 0), placed(2, 0))
	wantMissing(t, "another sum", impl.Taking{Want: []impl.Wanted{{Size: 65, Sum: 7}}, Got: []impl.Chunk{pieceOf(0, 64, "x")}}, placed(0, 0))
	for name, x := range manyTakings() {
		checkTaking(t, name, x)
	}
	for name, x := range badTakings() {
		if got, ok := impl.MissingIn(x); ok || len(got) != 0 {
			t.Errorf("%s: MissingIn: %s %v", name, shown(got), ok)
		}
	}
}

// What is missing may be more than a taking may have.
func TestMuchIsMissing(t *testing.T) {
	got, ok := impl.MissingIn(greatTaking(0))
	if !ok || len(got) != 756 || got[0] != placed(0, 0) || got[63] != placed(1, 0) || got[755] != placed(11, 3968) {
		t.Errorf("%d are missing, %v", len(got), ok)
	}
	got, ok = impl.MissingIn(greatTaking(200))
	if !ok || len(got) != 556 || got[0] != placed(3, 11*64) {
		t.Errorf("%d are missing, %v", len(got), ok)
	}
}

// For every set of the chunks of four files just the others are missing, and what is missing is what may be taken.
func TestEverySetThatIsMissing(t *testing.T) {
	files := filesSized(7, 150, 0, 64, 65)
	l, _ := chunksByHand(files)
	for set := range 64 {
		var has []int
		var missing []impl.Chunk
		for number, c := range l {
			if set>>number&1 == 1 {
				has = append(has, number)
			} else {
				missing = append(missing, placed(c.File, c.At))
			}
		}
		what := fmt.Sprint(has, " got")
		x := takingOf(files, has...)
		wantMissing(t, what, x, missing...)
		if len(missing) > 0 {
			wantNotFinished(t, what, x)
		} else {
			wantFinished(t, what, x, files...)
		}
	}
}

func TestFinished(t *testing.T) {
	wantFinished(t, "nothing wanted", impl.Taking{})
	wantFinished(t, "an empty file", impl.Taking{Want: wantedSizes(0)}, "")
	wantFinished(t, "empty files", impl.Taking{Want: make([]impl.Wanted, 12)}, make([]string, 12)...)
	wantFinished(t, "one byte", takingOf([]string{"x"}, 0), "x")
	for name, files := range manyFiles() {
		chunks, _ := chunksByHand(files)
		all := allBelow(len(chunks))
		wantFinished(t, name, takingOf(files, all...), files...)
		for _, number := range all {
			if number%5 == 0 || number == len(all)-1 {
				wantNotFinished(t, fmt.Sprint(name, " without ", number), takingOf(files, slices.Delete(slices.Clone(all), number, number+1)...))
			}
		}
	}
	for name, x := range badTakings() {
		wantNotFinished(t, name, x)
	}
}

// Nothing is missing, and the sum of one file is another than is wanted: no file is told.
func TestNotFinishedWithAnotherSum(t *testing.T) {
	for name, files := range manyFiles() {
		chunks, _ := chunksByHand(files)
		x := takingOf(files, allBelow(len(chunks))...)
		for file := range files {
			for _, bit := range []int{0, 7, 16, 31} {
				wantNotFinished(t, fmt.Sprint(name, ", another sum of ", file), changedTaking(x, func(x *impl.Taking) { x.Want[file].Sum ^= 1 << bit }))
			}
		}
	}
	// The sums of two files of one size, each wanted of the other.
	x := takingOf(filesSized(1, 100, 100), 0, 1, 2, 3)
	wantNotFinished(t, "sums that are changed over", changedTaking(x, func(x *impl.Taking) { x.Want[0], x.Want[1] = x.Want[1], x.Want[0] }))
	wantNotFinished(t, "an empty file with a sum", impl.Taking{Want: []impl.Wanted{{Size: 0, Sum: 1}}})
	wantNotFinished(t, "an empty file with a sum behind one without", impl.Taking{Want: []impl.Wanted{{}, {Size: 0, Sum: 0xffffffff}}})
}

// The chunks of one file's pieces, each in the other's place and with a right sum there: they are taken, but the file is not told.
func TestNotFinishedWithPiecesChangedOver(t *testing.T) {
	text := mixed(128, 5)
	x := takingOf([]string{text})
	x, _ = checkTake(t, "the second first", x, pieceOf(0, 0, text[64:]))
	x, ok := checkTake(t, "the first second", x, pieceOf(0, 64, text[:64]))
	if !ok {
		t.Fatal("a chunk with a right sum is not taken")
	}
	wantMissing(t, "pieces changed over", x)
	wantNotFinished(t, "pieces changed over", x)
}
