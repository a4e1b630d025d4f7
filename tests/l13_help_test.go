package tests

import (
	"fmt"
	"slices"
	"strings"
	"testing"

	"loop.example/g00224/impl"
)

// pieceOf is a chunk with a right sum, wherever it would go.
func pieceOf(file int, at int, data string) impl.Chunk {
	return impl.Chunk{File: file, At: at, Data: data, Sum: chunkSumByHand(file, at, data)}
}

// placed is a chunk with File and At alone.
func placed(file int, at int) impl.Chunk {
	return impl.Chunk{File: file, At: at}
}

func wantedSizes(sizes ...int) []impl.Wanted {
	var l []impl.Wanted
	for i, size := range sizes {
		l = append(l, impl.Wanted{Size: size, Sum: uint32(i)})
	}
	return l
}

// filesSized are files of such sizes, other ones for each seed.
func filesSized(seed int, sizes ...int) []string {
	var l []string
	for i, size := range sizes {
		l = append(l, mixed(size, seed*100+i))
	}
	return l
}

// fullFiles have just as many chunks as there may be.
func fullFiles() []string {
	return filesSized(3, 4000, 4000, 704, 4000)
}

// takingOf has some of the chunks of files, by their numbers, which must rise.
func takingOf(files []string, numbers ...int) impl.Taking {
	chunks, _ := chunksByHand(files)
	want, _ := wantByHand(files)
	t := impl.Taking{Want: want}
	for _, number := range numbers {
		t.Got = append(t.Got, chunks[number])
	}
	return t
}

// allBelow are the numbers from 0 on.
func allBelow(n int) []int {
	var l []int
	for i := range n {
		l = append(l, i)
	}
	return l
}

// unturned are as many flips, none of which turns a bit.
func unturned(n int) []int {
	return slices.Repeat([]int{-1}, n)
}

func copiedTaking(t impl.Taking) impl.Taking {
	return impl.Taking{Want: slices.Clone(t.Want), Got: slices.Clone(t.Got)}
}

func changedTaking(t impl.Taking, change func(t *impl.Taking)) impl.Taking {
	t = copiedTaking(t)
	change(&t)
	return t
}

func sameTaking(a impl.Taking, b impl.Taking) bool {
	return slices.Equal(a.Want, b.Want) && slices.Equal(a.Got, b.Got)
}

// What follows does by the document's words, without the program's functions, what is done with chunks.

func chunkSumByHand(file int, at int, data string) uint32 {
	return sumByLibrary(numberByLibrary(max(file, 0)) + numberByLibrary(max(at, 0)) + data)
}

func areFilesByHand(files []string) bool {
	return len(files) <= 12 && !slices.ContainsFunc(files, func(s string) bool { return len(s) > 4000 })
}

func wantByHand(files []string) ([]impl.Wanted, bool) {
	if !areFilesByHand(files) {
		return nil, false
	}
	var l []impl.Wanted
	for _, s := range files {
		l = append(l, impl.Wanted{Size: len(s), Sum: sumByLibrary(s)})
	}
	return l, true
}

// chunksByHand takes 64 bytes off the front of each file as long as there are any.
func chunksByHand(files []string) ([]impl.Chunk, bool) {
	if !areFilesByHand(files) {
		return nil, false
	}
	var l []impl.Chunk
	for file, rest := range files {
		for at := 0; rest != ""; at += 64 {
			size := 64
			if len(rest) < size {
				size = len(rest)
			}
			l = append(l, pieceOf(file, at, rest[:size]))
			rest = rest[size:]
		}
	}
	if len(l) > 200 {
		return nil, false
	}
	return l, true
}

func isWantByHand(want []impl.Wanted) bool {
	return len(want) <= 12 && !slices.ContainsFunc(want, func(w impl.Wanted) bool { return !isWithin(w.Size, 0, 4000) })
}

// slotsByHand are the chunks that are wanted; their Data is of the right length, and no more than that.
func slotsByHand(want []impl.Wanted) []impl.Chunk {
	var l []impl.Chunk
	for file, w := range want {
		for at := range w.Size {
			if at%64 == 0 {
				l = append(l, impl.Chunk{File: file, At: at, Data: sized(min(64, w.Size-at))})
			}
		}
	}
	return l
}

// slotByHand answers which of the chunks that are wanted one is; -1: none.
func slotByHand(slots []impl.Chunk, c impl.Chunk) int {
	return slices.IndexFunc(slots, func(x impl.Chunk) bool {
		return x.File == c.File && x.At == c.At && len(x.Data) == len(c.Data) && c.Sum == chunkSumByHand(c.File, c.At, c.Data)
	})
}

func isTakingByHand(t impl.Taking) bool {
	if !isWantByHand(t.Want) || len(t.Got) > 200 {
		return false
	}
	slots := slotsByHand(t.Want)
	last := -1
	for _, c := range t.Got {
		slot := slotByHand(slots, c)
		if slot <= last {
			return false
		}
		last = slot
	}
	return true
}

// takeByHand puts a chunk behind all, and then all in the order of what is wanted.
func takeByHand(t impl.Taking, c impl.Chunk) (impl.Taking, bool) {
	if !isTakingByHand(t) {
		return impl.Taking{}, false
	}
	slots := slotsByHand(t.Want)
	if slotByHand(slots, c) < 0 {
		return impl.Taking{}, false
	}
	out := copiedTaking(t)
	for _, x := range t.Got {
		if x.File == c.File && x.At == c.At {
			if x.Data != c.Data {
				return impl.Taking{}, false
			}
			return out, true
		}
	}
	if len(t.Got) == 200 {
		return impl.Taking{}, false
	}
	out.Got = append(out.Got, c)
	slices.SortFunc(out.Got, func(a impl.Chunk, b impl.Chunk) int { return slotByHand(slots, a) - slotByHand(slots, b) })
	return out, true
}

func missingByHand(t impl.Taking) ([]impl.Chunk, bool) {
	if !isTakingByHand(t) {
		return nil, false
	}
	var l []impl.Chunk
	for _, x := range slotsByHand(t.Want) {
		if !slices.ContainsFunc(t.Got, func(c impl.Chunk) bool { return c.File == x.File && c.At == x.At }) {
			l = append(l, placed(x.File, x.At))
		}
	}
	return l, true
}

func finishByHand(t impl.Taking) ([]string, bool) {
	if missing, ok := missingByHand(t); !ok || len(missing) > 0 {
		return nil, false
	}
	var l []string
	for file, w := range t.Want {
		var text strings.Builder
		for _, c := range t.Got {
			if c.File == file {
				text.WriteString(c.Data)
			}
		}
		if sumByLibrary(text.String()) != w.Sum {
			return nil, false
		}
		l = append(l, text.String())
	}
	return l, true
}

// playTakingByHand takes every chunk that comes without a turned bit, and none that comes with one.
func playTakingByHand(files []string, order []int, flips []int) ([]string, int, bool) {
	chunks, ok := chunksByHand(files)
	if !ok || len(order) > 400 || len(order) != len(flips) {
		return nil, 0, false
	}
	came := map[int]bool{}
	taken := 0
	for i, number := range order {
		if isWithin(number, 0, len(chunks)-1) && !isWithin(flips[i], 0, 8*len(chunks[number].Data)-1) {
			came[number] = true
			taken++
		}
	}
	if len(came) < len(chunks) {
		return nil, taken, true
	}
	return slices.Clone(files), taken, true
}

// What follows are files and takings to be asked for.

func everyByte() string {
	var out []byte
	for i := range 256 {
		out = append(out, byte(i))
	}
	return string(out)
}

func manyFiles() map[string][]string {
	l := map[string][]string{
		"none":                nil,
		"an empty one":        {""},
		"empty ones":          {"", "", ""},
		"one byte":            {"x"},
		"a nought":            {"\x00"},
		"a size less one":     filesSized(1, 63),
		"a size":              filesSized(1, 64),
		"a size and one":      filesSized(1, 65),
		"two sizes":           filesSized(1, 128),
		"two sizes and one":   filesSized(1, 129),
		"all edges":           filesSized(2, 0, 1, 63, 64, 65, 127, 128, 129),
		"edges backwards":     filesSized(2, 129, 64, 0, 63, 1, 0),
		"empty ones between":  filesSized(2, 0, 70, 0, 0, 3, 0),
		"alike":               {mixed(100, 1), mixed(100, 1), mixed(100, 1)},
		"pieces that are one": {strings.Repeat(mixed(64, 1), 4), strings.Repeat(mixed(64, 1), 2)},
		"noughts":             {repeated(0, 130), repeated(0, 64)},
		"every byte":          {everyByte(), everyByte()[1:]},
		"twelve":              filesSized(4, 1, 2, 3, 64, 65, 66, 127, 0, 129, 130, 0, 7),
		"twelve empty ones":   make([]string, 12),
		"the greatest":        filesSized(5, 4000),
		"full":                fullFiles(),
		"full, twelve":        filesSized(6, 1088, 1024, 1088, 1024, 1088, 1024, 1088, 1024, 1088, 1088, 1088, 1088),
	}
	for seed := range 12 {
		l[fmt.Sprint("drawn ", seed)] = dealingOf(seed).files(5)
	}
	return l
}

// files are at most so many, most of them short.
func (d *dealing) files(most int) []string {
	sizes := []int{0, 0, 1, 2, 63, 64, 65, 100, 127, 128, 129, 192, 200, 320}
	var l []string
	for range d.below(most + 1) {
		l = append(l, mixed(sizes[d.below(len(sizes))], d.below(1000)))
	}
	return l
}

// greatTaking wants the most that may be wanted, and has the first chunks of it.
func greatTaking(many int) impl.Taking {
	t := impl.Taking{Want: wantedSizes(slices.Repeat([]int{4000}, 12)...)}
	for _, x := range slotsByHand(t.Want)[:many] {
		t.Got = append(t.Got, pieceOf(x.File, x.At, mixed(len(x.Data), x.File*100+x.At)))
	}
	return t
}

// fairTaking wants four files and has three chunks of them.
func fairTaking() impl.Taking {
	return takingOf(filesSized(7, 150, 0, 64, 65), 0, 2, 4)
}

// manyTakings are good.
func manyTakings() map[string]impl.Taking {
	l := map[string]impl.Taking{
		"fair":                 fairTaking(),
		"other sums wanted":    {Want: wantedSizes(0, 1, 64, 65)},
		"a sum of nothing":     {Want: []impl.Wanted{{Size: 0, Sum: 1}}},
		"the greatest, none":   greatTaking(0),
		"the greatest, some":   greatTaking(199),
		"the greatest, full":   greatTaking(200),
		"all, with other sums": changedTaking(takingOf(filesSized(8, 100, 3), 0, 1, 2), func(t *impl.Taking) { t.Want[1].Sum++ }),
	}
	for name, files := range manyFiles() {
		chunks, _ := chunksByHand(files)
		all := allBelow(len(chunks))
		var even, odd []int
		for _, number := range all {
			if number%2 == 0 {
				even = append(even, number)
			} else {
				odd = append(odd, number)
			}
		}
		l[name+", none"] = takingOf(files)
		l[name+", all"] = takingOf(files, all...)
		l[name+", even ones"] = takingOf(files, even...)
		l[name+", odd ones"] = takingOf(files, odd...)
		if len(all) > 0 {
			l[name+", all but the first"] = takingOf(files, all[1:]...)
			l[name+", all but the last"] = takingOf(files, all[:len(all)-1]...)
		}
	}
	return l
}

// What follows asks the program.

func checkWant(t *testing.T, what string, files []string) {
	t.Helper()
	want, is := wantByHand(files)
	got, ok := impl.WantOf(files)
	if ok != is || !slices.Equal(got, want) {
		t.Errorf("%s: WantOf: %s %v, want %s %v", what, shown(got), ok, shown(want), is)
	}
	wantNothingBehind(t, what+": WantOf", got)
}

func checkChunks(t *testing.T, what string, files []string) {
	t.Helper()
	want, is := chunksByHand(files)
	got, ok := impl.ChunksOf(files)
	if ok != is || !slices.Equal(got, want) {
		t.Errorf("%s: ChunksOf: %d %v, want %d %v: %s, want %s", what, len(got), ok, len(want), is, shown(got), shown(want))
	}
	wantNothingBehind(t, what+": ChunksOf", got)
}

func checkGoodTaking(t *testing.T, what string, x impl.Taking, good bool) {
	t.Helper()
	if isTakingByHand(x) != good {
		t.Errorf("%s: the test itself is wrong: %s", what, shown(x))
	}
	if impl.GoodTaking(x) != good {
		t.Errorf("%s: GoodTaking of %s: %v", what, shown(x), !good)
	}
}

func wantTaking(t *testing.T, what string, got impl.Taking, ok bool, want impl.Taking) {
	t.Helper()
	if !ok || !sameTaking(got, want) {
		t.Errorf("%s: %s %v, want %s", what, shown(got), ok, shown(want))
	}
	if ok && !impl.GoodTaking(got) {
		t.Errorf("%s: the taking is not good: %s", what, shown(got))
	}
	wantNothingBehind(t, what, got.Want)
	wantNothingBehind(t, what, got.Got)
}

func wantNoTaking(t *testing.T, what string, got impl.Taking, ok bool) {
	t.Helper()
	if ok || !sameTaking(got, impl.Taking{}) {
		t.Errorf("%s: %s %v, want nothing", what, shown(got), ok)
	}
}

func checkNewTaking(t *testing.T, what string, want []impl.Wanted) {
	t.Helper()
	got, ok := impl.NewTaking(want)
	if !isWantByHand(want) {
		wantNoTaking(t, what+": NewTaking", got, ok)
		return
	}
	wantTaking(t, what+": NewTaking", got, ok, impl.Taking{Want: want})
}

// checkTake holds TakeChunk against the document's words; it answers the taking, as it was where TakeChunk tells false.
func checkTake(t *testing.T, what string, x impl.Taking, c impl.Chunk) (impl.Taking, bool) {
	t.Helper()
	want, is := takeByHand(x, c)
	got, ok := impl.TakeChunk(x, c)
	if !is {
		wantNoTaking(t, what+": TakeChunk", got, ok)
		return x, false
	}
	wantTaking(t, what+": TakeChunk", got, ok, want)
	return got, ok
}

func wantTaken(t *testing.T, what string, x impl.Taking, c impl.Chunk, want impl.Taking) {
	t.Helper()
	got, ok := impl.TakeChunk(x, c)
	wantTaking(t, what, got, ok, want)
	checkTake(t, what, x, c)
}

func wantNotTaken(t *testing.T, what string, x impl.Taking, c impl.Chunk) {
	t.Helper()
	got, ok := impl.TakeChunk(x, c)
	wantNoTaking(t, what, got, ok)
	checkTake(t, what, x, c)
}

func wantMissing(t *testing.T, what string, x impl.Taking, want ...impl.Chunk) {
	t.Helper()
	if got, ok := impl.MissingIn(x); !ok || !slices.Equal(got, want) {
		t.Errorf("%s: MissingIn: %s %v, want %s", what, shown(got), ok, shown(want))
	}
}

func wantFinished(t *testing.T, what string, x impl.Taking, want ...string) {
	t.Helper()
	if got, ok := impl.FinishTaking(x); !ok || !slices.Equal(got, want) {
		t.Errorf("%s: FinishTaking: %s %v, want %s", what, shown(got), ok, shown(want))
	}
}

func wantNotFinished(t *testing.T, what string, x impl.Taking) {
	t.Helper()
	if got, ok := impl.FinishTaking(x); ok || len(got) != 0 {
		t.Errorf("%s: FinishTaking: %s %v, want nothing", what, shown(got), ok)
	}
}

// checkTaking holds what may be asked of a taking against the document's words.
func checkTaking(t *testing.T, what string, x impl.Taking) {
	t.Helper()
	checkGoodTaking(t, what, x, isTakingByHand(x))
	missing, is := missingByHand(x)
	got, ok := impl.MissingIn(x)
	if ok != is || !slices.Equal(got, missing) {
		t.Errorf("%s: MissingIn: %s %v, want %s %v", what, shown(got), ok, shown(missing), is)
	}
	wantNothingBehind(t, what+": MissingIn", got)
	files, all := finishByHand(x)
	told, finished := impl.FinishTaking(x)
	if finished != all || !slices.Equal(told, files) {
		t.Errorf("%s: FinishTaking: %s %v, want %s %v", what, shown(told), finished, shown(files), all)
	}
	wantNothingBehind(t, what+": FinishTaking", told)
}

func wantPlayTaking(t *testing.T, what string, files []string, order []int, flips []int, want []string, many int) {
	t.Helper()
	got, taken, ok := impl.PlayTaking(files, order, flips)
	if !ok || taken != many || !slices.Equal(got, want) {
		t.Errorf("%s: PlayTaking: %s %d %v, want %s %d", what, shown(got), taken, ok, shown(want), many)
	}
	checkPlayTaking(t, what, files, order, flips)
}

func wantNoPlayTaking(t *testing.T, what string, files []string, order []int, flips []int) {
	t.Helper()
	if got, taken, ok := impl.PlayTaking(files, order, flips); ok || taken != 0 || len(got) != 0 {
		t.Errorf("%s: PlayTaking: %s %d %v, want nothing", what, shown(got), taken, ok)
	}
	checkPlayTaking(t, what, files, order, flips)
}

// checkPlayTaking holds PlayTaking against the document's words; it answers whether the files were told.
func checkPlayTaking(t *testing.T, what string, files []string, order []int, flips []int) bool {
	t.Helper()
	want, many, is := playTakingByHand(files, order, flips)
	got, taken, ok := impl.PlayTaking(files, order, flips)
	if ok != is || taken != many || !slices.Equal(got, want) {
		t.Errorf("%s: PlayTaking: %s %d %v, want %s %d %v", what, shown(got), taken, ok, shown(want), many, is)
	}
	wantNothingBehind(t, what+": PlayTaking", got)
	return len(got) > 0
}
