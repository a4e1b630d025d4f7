package tests

import (
	"fmt"
	"math"
	"reflect"
	"runtime"
	"slices"
	"sync"
	"testing"

	"loop.example/g00224/impl"
)

// behindWanted would do as one more file that is wanted, behindChunk as its only chunk.
func behindWanted() impl.Wanted {
	return impl.Wanted{Size: 6, Sum: sumByLibrary("behind")}
}

func behindChunk(file int) impl.Chunk {
	return pieceOf(file, 0, "behind")
}

// roomyTaking copies a taking into lists with something behind their lengths that would do there.
func roomyTaking(x impl.Taking) impl.Taking {
	return impl.Taking{Want: roomy(x.Want, behindWanted()), Got: roomy(x.Got, behindChunk(len(x.Want)))}
}

func untouchedTaking(got impl.Taking, x impl.Taking) bool {
	made := roomyTaking(x)
	return sameTaking(got, x) && slices.Equal(whole(got.Want), whole(made.Want)) && slices.Equal(whole(got.Got), whole(made.Got))
}

func scribbleTaking(x impl.Taking) {
	fill(whole(x.Want), impl.Wanted{Size: 77, Sum: 77})
	fill(whole(x.Got), impl.Chunk{File: 77, At: 77, Data: "scribble", Sum: 77})
}

// A chunksMade is all that one call makes: any of it may be empty.
type chunksMade struct {
	Taking impl.Taking
	Want   []impl.Wanted
	Chunks []impl.Chunk
	Files  []string
	Many   int
	Ok     bool
}

func sameChunksMade(a chunksMade, b chunksMade) bool {
	return sameTaking(a.Taking, b.Taking) && slices.Equal(a.Want, b.Want) && slices.Equal(a.Chunks, b.Chunks) &&
		slices.Equal(a.Files, b.Files) && a.Many == b.Many && a.Ok == b.Ok
}

func (x chunksMade) scribble() {
	scribbleTaking(x.Taking)
	scribbleTaking(impl.Taking{Want: x.Want, Got: x.Chunks})
	fill(whole(x.Files), "scribble")
}

func (x chunksMade) wantNothingBehind(t *testing.T, what string) {
	t.Helper()
	wantNothingBehind(t, what, x.Taking.Want)
	wantNothingBehind(t, what, x.Taking.Got)
	wantNothingBehind(t, what, x.Want)
	wantNothingBehind(t, what, x.Chunks)
	wantNothingBehind(t, what, x.Files)
}

// A takingCall calls the program, and does the same by the document's words.
type takingCall struct {
	name   string
	call   func(x impl.Taking) chunksMade
	byHand func(x impl.Taking) chunksMade
}

func takingCalls(x impl.Taking) []takingCall {
	took := func(x impl.Taking, ok bool) chunksMade { return chunksMade{Taking: x, Ok: ok} }
	missed := func(l []impl.Chunk, ok bool) chunksMade { return chunksMade{Chunks: l, Ok: ok} }
	finished := func(l []string, ok bool) chunksMade { return chunksMade{Files: l, Ok: ok} }
	l := []takingCall{
		{"GoodTaking", func(x impl.Taking) chunksMade { return chunksMade{Ok: impl.GoodTaking(x)} }, func(x impl.Taking) chunksMade { return chunksMade{Ok: isTakingByHand(x)} }},
		{"MissingIn", func(x impl.Taking) chunksMade { return missed(impl.MissingIn(x)) }, func(x impl.Taking) chunksMade { return missed(missingByHand(x)) }},
		{"FinishTaking", func(x impl.Taking) chunksMade { return finished(impl.FinishTaking(x)) }, func(x impl.Taking) chunksMade { return finished(finishByHand(x)) }},
		{"NewTaking", func(x impl.Taking) chunksMade { return took(impl.NewTaking(x.Want)) }, func(x impl.Taking) chunksMade {
			if !isWantByHand(x.Want) {
				return chunksMade{}
			}
			return chunksMade{Taking: impl.Taking{Want: slices.Clone(x.Want)}, Ok: true}
		}},
	}
	for _, c := range someChunksFor(x) {
		l = append(l, takingCall{fmt.Sprint("TakeChunk ", c.File, " ", c.At, " ", len(c.Data)),
			func(x impl.Taking) chunksMade { return took(impl.TakeChunk(x, c)) },
			func(x impl.Taking) chunksMade { return took(takeByHand(x, c)) }})
	}
	return l
}

// someChunksFor are chunks that are there, some that are not, and some that are not good; the last lies behind what is wanted.
func someChunksFor(x impl.Taking) []impl.Chunk {
	l := []impl.Chunk{{}, pieceOf(-1, 0, "x"), pieceOf(0, -64, mixed(64, 1)), pieceOf(0, 0, "")}
	if isWantByHand(x.Want) {
		slots := slotsByHand(x.Want)
		for _, place := range []int{0, 1, len(slots) / 2, len(slots) - 1} {
			if isWithin(place, 0, len(slots)-1) {
				l = append(l, pieceOf(slots[place].File, slots[place].At, mixed(len(slots[place].Data), place)))
			}
		}
	}
	for _, place := range []int{0, len(x.Got) / 2, len(x.Got) - 1} {
		if isWithin(place, 0, len(x.Got)-1) {
			l = append(l, x.Got[place])
		}
	}
	return append(l, behindChunk(len(x.Want)))
}

// allTakings are takings, good and not.
func allTakings() map[string]impl.Taking {
	l := badTakings()
	for name, x := range manyTakings() {
		l["good: "+name] = x
	}
	return l
}

// No two lists of an answer share memory, nor one of them with the argument.
func TestListsOfATakingShareNothing(t *testing.T) {
	for name, x := range allTakings() {
		for _, c := range takingCalls(x) {
			arg := roomyTaking(x)
			got := c.call(arg)
			wantApart(t, name+": "+c.name, append(spansOf("the argument", reflect.ValueOf(arg)), spansOf("the answer", reflect.ValueOf(got))...))
		}
	}
}

// No taking is written into, nothing behind its lists is read, and nothing of it is kept: what was answered stays when it is written over.
func TestNothingOfATakingIsWrittenIntoOrKept(t *testing.T) {
	for name, x := range allTakings() {
		for _, c := range takingCalls(x) {
			arg := roomyTaking(x)
			got := c.call(arg)
			if !untouchedTaking(arg, x) {
				t.Errorf("%s: %s writes into the taking", name, c.name)
			}
			scribbleTaking(arg)
			if want := c.byHand(x); !sameChunksMade(got, want) {
				t.Errorf("%s: %s: %s, want %s", name, c.name, shown(got), shown(want))
			}
		}
	}
}

// What was answered may be written into: neither the taking nor a later answer changes.
func TestWhatIsMadeOfATakingMayBeWrittenInto(t *testing.T) {
	for name, x := range allTakings() {
		arg := copiedTaking(x)
		for _, c := range takingCalls(x) {
			want := c.byHand(x)
			for range 2 {
				got := c.call(arg)
				if !sameChunksMade(got, want) {
					t.Errorf("%s: %s: %s, want %s", name, c.name, shown(got), shown(want))
				}
				got.wantNothingBehind(t, name+": "+c.name)
				got.scribble()
			}
			if !sameTaking(arg, x) {
				t.Fatalf("%s: the taking is changed with what %s answered", name, c.name)
			}
		}
	}
}

// A filesCall calls the program with files, an order and flips, and does the same by the document's words.
type filesCall struct {
	name   string
	call   func(files []string, order []int, flips []int) chunksMade
	byHand func(files []string, order []int, flips []int) chunksMade
}

func filesCalls() []filesCall {
	wanted := func(l []impl.Wanted, ok bool) chunksMade { return chunksMade{Want: l, Ok: ok} }
	cut := func(l []impl.Chunk, ok bool) chunksMade { return chunksMade{Chunks: l, Ok: ok} }
	played := func(l []string, many int, ok bool) chunksMade { return chunksMade{Files: l, Many: many, Ok: ok} }
	return []filesCall{
		{"WantOf", func(files []string, _ []int, _ []int) chunksMade { return wanted(impl.WantOf(files)) },
			func(files []string, _ []int, _ []int) chunksMade { return wanted(wantByHand(files)) }},
		{"ChunksOf", func(files []string, _ []int, _ []int) chunksMade { return cut(impl.ChunksOf(files)) },
			func(files []string, _ []int, _ []int) chunksMade { return cut(chunksByHand(files)) }},
		{"PlayTaking", func(files []string, order []int, flips []int) chunksMade {
			return played(impl.PlayTaking(files, order, flips))
		}, func(files []string, order []int, flips []int) chunksMade {
			return played(playTakingByHand(files, order, flips))
		}},
	}
}

// allFiles are files, as said and not.
func allFiles() map[string][]string {
	l := manyFiles()
	l["13 files"] = alike(13, "x")
	l["4001 bytes"] = []string{"a", sized(4001)}
	l["201 chunks"] = filesSized(1, 4000, 4000, 4000, 705)
	return l
}

// playsFor are orders with their flips, as said and not.
func playsFor(files []string) map[string][2][]int {
	chunks, _ := chunksByHand(files)
	all := allBelow(len(chunks))
	order, flips := dealingOf(len(files)).play(chunks, 30)
	return map[string][2][]int{
		"none":            {nil, nil},
		"all":             {all, unturned(len(all))},
		"all, turned":     {all, make([]int, len(all))},
		"drawn":           {order, flips},
		"no flips":        {{0, 1}, nil},
		"flips alone":     {nil, {0, 1}},
		"401 numbers":     {make([]int, 401), make([]int, 401)},
		"numbers of none": {{-1, 200, math.MaxInt, math.MinInt}, {0, math.MinInt, 0, math.MaxInt}},
	}
}

// Neither files nor numbers are written into or kept, nothing behind them is read, and no answer shares memory.
func TestNothingOfFilesIsWrittenIntoOrKept(t *testing.T) {
	for name, files := range allFiles() {
		for kind, play := range playsFor(files) {
			for _, c := range filesCalls() {
				what := name + ", " + kind + ": " + c.name
				texts, order, flips := roomy(files, "behind"), roomy(play[0], 0), roomy(play[1], -1)
				want := c.byHand(files, play[0], play[1])
				got := c.call(texts, order, flips)
				if !slices.Equal(whole(texts), whole(roomy(files, "behind"))) || !slices.Equal(whole(order), whole(roomy(play[0], 0))) || !slices.Equal(whole(flips), whole(roomy(play[1], -1))) {
					t.Errorf("%s writes into an argument", what)
				}
				args := slices.Concat(spansOf("files", reflect.ValueOf(texts)), spansOf("order", reflect.ValueOf(order)), spansOf("flips", reflect.ValueOf(flips)))
				wantApart(t, what, append(args, spansOf("the answer", reflect.ValueOf(got))...))
				fill(whole(texts), "scribble")
				fill(whole(order), 1)
				fill(whole(flips), 1)
				if !sameChunksMade(got, want) {
					t.Errorf("%s: %s, want %s", what, shown(got), shown(want))
				}
				got.wantNothingBehind(t, what)
				got.scribble()
				if again := c.call(files, play[0], play[1]); !sameChunksMade(again, want) {
					t.Errorf("%s again: %s, want %s", what, shown(again), shown(want))
				}
			}
		}
	}
}

// The order and the flips may be one list.
func TestAnOrderThatIsItsFlips(t *testing.T) {
	for name, files := range manyFiles() {
		for many := range 5 {
			l := allBelow(many * 100)
			checkPlayTaking(t, name, files, l, l)
		}
	}
}

// Several takings may lie in one memory: each is read as its own, and what lies behind it stays.
func TestTakingsThatLieInEachOther(t *testing.T) {
	files := filesSized(7, 150, 0, 64, 65)
	chunks, _ := chunksByHand(files)
	full := takingOf(files, 0, 1, 2, 3, 4, 5)
	kept := copiedTaking(full)
	for from := range 7 {
		for to := from; to <= 6; to++ {
			x := impl.Taking{Want: full.Want, Got: full.Got[from:to]}
			checkTaking(t, "in each other", x)
			for _, c := range append(chunks, impl.Chunk{}) {
				checkTake(t, "in each other", x, c)
				got, _ := impl.TakeChunk(x, c)
				scribbleTaking(got)
				if !sameTaking(full, kept) {
					t.Fatalf("chunks %d to %d: what they lie in is written into", from, to)
				}
			}
		}
	}
	for many := range 5 {
		got, ok := impl.NewTaking(full.Want[:many])
		wantTaking(t, "wanted in each other", got, ok, impl.Taking{Want: kept.Want[:many]})
		scribbleTaking(got)
		if !sameTaking(full, kept) {
			t.Fatal("what is wanted is written into")
		}
	}
}

// What was answered ahead stays as it was, whatever is asked for later.
func TestTakingsThatWereAnsweredStay(t *testing.T) {
	for seed := range 40 {
		d := dealingOf(seed)
		files := d.files(6)
		chunks, _ := impl.ChunksOf(files)
		want, _ := impl.WantOf(files)
		x, _ := impl.NewTaking(want)
		row, kept := []impl.Taking{x}, []impl.Taking{copiedTaking(x)}
		for range 3 * len(chunks) {
			next, _ := impl.TakeChunk(x, chunks[d.below(len(chunks))])
			x = next
			row, kept = append(row, x), append(kept, copiedTaking(x))
			impl.MissingIn(x)
			impl.FinishTaking(x)
			impl.PlayTaking(files, []int{0, 1}, []int{0, -1})
		}
		for i := range row {
			if !sameTaking(row[i], kept[i]) {
				t.Errorf("drawn %d: answer %d is changed by a later call", seed, i)
			}
		}
		if l, _ := chunksByHand(files); !slices.Equal(chunks, l) {
			t.Errorf("drawn %d: the chunks are changed by a later call", seed)
		}
	}
}

// Each wrong beside all else right or wrong: no call fails to answer.
func TestTakingsAtAnyArguments(t *testing.T) {
	numbers := []int{math.MinInt, math.MinInt + 63, -64, -1, 0, 1, 5, 12, 63, 64, 65, 128, 4000, 4001, math.MaxInt - 63, math.MaxInt}
	for _, x := range numbers {
		checkNewTaking(t, "any", []impl.Wanted{{Size: x}})
		for _, y := range numbers {
			if got := impl.ChunkSum(x, y, "any"); got != chunkSumByHand(x, y, "any") {
				t.Errorf("ChunkSum(%d, %d): %x", x, y, got)
			}
			checkPlayTaking(t, "any", []string{"any"}, []int{x, 0}, []int{y, x})
			checkPlayTaking(t, "any", []string{sized(65), "any"}, []int{x, y, 1}, []int{y, 1, x})
			for _, data := range []string{"", "x", mixed(64, 1), mixed(65, 1)} {
				for _, c := range []impl.Chunk{pieceOf(x, y, data), {File: x, At: y, Data: data}} {
					checkTake(t, "any", fairTaking(), c)
					checkTake(t, "any", impl.Taking{}, c)
					checkTake(t, "any", impl.Taking{Want: []impl.Wanted{{Size: x}, {Size: y}}}, c)
					checkTaking(t, "any", impl.Taking{Want: fairTaking().Want, Got: []impl.Chunk{c}})
					checkTaking(t, "any", impl.Taking{Want: []impl.Wanted{{Size: y}, {Size: x}}, Got: []impl.Chunk{c, c}})
				}
			}
		}
	}
}

// No call leaves anything running, and calls at the same time do not meet.
func TestTakingsAnswerAlikeEachTime(t *testing.T) {
	before := runtime.NumGoroutine()
	files := filesSized(8, 200, 0, 64, 1, 700)
	chunks, _ := chunksByHand(files)
	order, flips := dealingOf(4).play(chunks, 300)
	want, many, _ := playTakingByHand(files, order, flips)
	for range 200 {
		got, taken, ok := impl.PlayTaking(files, order, flips)
		if !ok || taken != many || !slices.Equal(got, want) {
			t.Fatalf("PlayTaking: %s %d %v, want %s %d", shown(got), taken, ok, shown(want), many)
		}
	}
	if after := runtime.NumGoroutine(); after > before {
		t.Errorf("%d goroutines are left", after-before)
	}
	var all sync.WaitGroup
	faults := make([]string, 8)
	for i := range faults {
		all.Go(func() {
			for range 50 {
				if got, taken, ok := impl.PlayTaking(files, order, flips); !ok || taken != many || !slices.Equal(got, want) {
					faults[i] = fmt.Sprint(shown(got), taken, ok)
				}
			}
		})
	}
	all.Wait()
	for _, fault := range faults {
		if fault != "" {
			t.Errorf("PlayTaking beside others: %s", fault)
		}
	}
	for name, x := range manyTakings() {
		for _, c := range takingCalls(x) {
			first := c.call(x)
			for range 2 {
				if got := c.call(x); !sameChunksMade(got, first) {
					t.Errorf("%s: %s: %s, and then %s", name, c.name, shown(first), shown(got))
				}
			}
		}
	}
}
