package tests

import (
	"fmt"
	"maps"
	"math"
	"slices"
	"testing"

	"loop.example/g00224/impl"
)

func backwards(l []int) []int {
	l = slices.Clone(l)
	slices.Reverse(l)
	return l
}

func twice(l []int) []int {
	return slices.Concat(l, l)
}

// shuffled is another order for each seed.
func (d *dealing) shuffled(l []int) []int {
	l = slices.Clone(l)
	for i := range l {
		j := i + d.below(len(l)-i)
		l[i], l[j] = l[j], l[i]
	}
	return l
}

// manyMoved are engines without items in Mem that can be sent.
func manyMoved() map[string]kept {
	l := map[string]kept{}
	for name, k := range manyKept() {
		l[name] = k
		if flushed, ok := k.flushed(); ok {
			l[name+", flushed"] = flushed
		}
	}
	for seed := range 10 {
		d := dealingOf(seed)
		k, _ := buildByHand(d.aClient(60, 4), d.plans(60))
		l[fmt.Sprint("built ", seed)] = k.orAsItWas(k.flushed())
	}
	for name, k := range l {
		if k.chunksIn() < 0 {
			delete(l, name)
		}
	}
	return l
}

func TestMovingInSomeOrders(t *testing.T) {
	moved := manyMoved()
	if len(moved) < 30 {
		t.Errorf("%d engines: too few", len(moved))
	}
	most := 0
	for name, k := range moved {
		all := allBelow(k.chunksIn())
		most = max(most, len(all))
		wantMoved(t, name+", forwards", k, all)
		wantMoved(t, name+", backwards", k, backwards(all))
		wantMoved(t, name+", twice", k, twice(all))
		wantMoved(t, name+", there and back", k, slices.Concat(all, backwards(all)))
		wantMoved(t, name+", one often", k, slices.Concat(slices.Repeat(all[:1], 10), all))
		wantNotMoved(t, name+", no order", k, nil)
		wantNotMoved(t, name+", without the first", k, all[1:])
		wantNotMoved(t, name+", without the last", k, all[:len(all)-1])
		wantNotMoved(t, name+", without the last, twice", k, twice(all[:len(all)-1]))
	}
	if most < 50 {
		t.Errorf("%d chunks at most: too few", most)
	}
}

// The new engine has an edit alone: one chunk.
func TestMovingAnEngineThatIsEmpty(t *testing.T) {
	for _, k := range []kept{newKept(), keptIn(9, 7), keptIn(greatestSeq, greatestNext)} {
		wantMoved(t, "empty", k, []int{0})
		wantMoved(t, "empty, twice", k, []int{0, 0})
		wantMoved(t, "empty, and other numbers", k, []int{-1, 1, 0, 1})
		wantNotMoved(t, "empty, no order", k, nil)
		wantNotMoved(t, "empty, other numbers", k, []int{1, -1})
	}
}

// movedThree is sent in a few chunks: of an edit and two tables.
func movedThree() kept {
	return keptIn(40, 9, held(2, 0, put("a", 5, sized(30)), gone("b", 7), put("c", 9, sized(30))), held(5, 1, put("a", 1, "old"), put("b", 2, sized(40)), put("d", 3, "")))
}

// Every order of all chunks, and every one with a chunk left out.
func TestMovingInEveryOrder(t *testing.T) {
	k := movedThree()
	many := k.chunksIn()
	if many != 6 {
		t.Fatalf("%d chunks, want 6", many)
	}
	for _, order := range everyOrder(many) {
		wantMoved(t, fmt.Sprint(order), k, order)
		if order[many-1] == many-1 {
			wantNotMoved(t, fmt.Sprint(order[:many-1]), k, order[:many-1])
		}
	}
	for out := range many {
		left := slices.Delete(allBelow(many), out, out+1)
		for _, order := range [][]int{left, backwards(left), twice(left), append(slices.Clone(left), -1, many, math.MaxInt, math.MinInt)} {
			wantNotMoved(t, fmt.Sprint(order), k, order)
		}
		wantMoved(t, fmt.Sprint("late ", out), k, append(twice(left), out))
		wantMoved(t, fmt.Sprint("early ", out), k, append([]int{out, out}, left...))
	}
}

func TestMovingInDrawnOrders(t *testing.T) {
	came, left := 0, 0
	moved := manyMoved()
	for _, name := range slices.Sorted(maps.Keys(moved)) {
		k := moved[name]
		d := dealingOf(k.seq)
		many := k.chunksIn()
		for range 6 {
			order := d.shuffled(allBelow(many))
			if d.below(3) == 0 {
				order = order[:many-1-d.below(min(many, 2))]
			}
			for range d.below(30) {
				order = slices.Insert(order, d.below(len(order)+1), d.below(many+4)-2)
			}
			if checkMove(t, fmt.Sprint(name, ": ", order), k, order) {
				came++
			} else {
				left++
			}
		}
	}
	if came < 100 || left < 20 {
		t.Errorf("%d came over and %d did not: too few", came, left)
	}
}

func TestHowLongTheOrderOfAMoveMayBe(t *testing.T) {
	k := movedThree()
	for _, many := range []int{6, 7, 399, 400} {
		order := append(slices.Repeat([]int{0}, many-6), allBelow(6)...)
		wantMoved(t, fmt.Sprint(many, " numbers"), k, order)
		wantMoved(t, fmt.Sprint(many, " numbers, backwards"), k, backwards(order))
	}
	for _, many := range []int{401, 402, 1000} {
		wantNotMoved(t, fmt.Sprint(many, " numbers"), k, append(allBelow(6), slices.Repeat([]int{0}, many-6)...))
		wantNotMoved(t, fmt.Sprint(many, " numbers, of no chunk"), k, append(allBelow(6), slices.Repeat([]int{-1}, many-6)...))
	}
}

// Numbers of no chunk do nothing, wherever they stand.
func TestNumbersOfNoChunkOfAnEngine(t *testing.T) {
	k := movedThree()
	for _, none := range []int{math.MinInt, -7, -6, -1, 6, 7, 200, math.MaxInt} {
		for at := range 7 {
			wantMoved(t, fmt.Sprint(none, " at ", at), k, slices.Insert(allBelow(6), at, none))
		}
		for at := range 6 {
			order := allBelow(6)
			order[at] = none
			wantNotMoved(t, fmt.Sprint(none, " for ", at), k, order)
		}
	}
}

func TestMovingAnEngineThatIsNotGood(t *testing.T) {
	for name, e := range badEngines() {
		for _, order := range [][]int{nil, {0}, allBelow(20), allBelow(400), twice(allBelow(200))} {
			got, ok := impl.MoveState(e, order)
			wantNoEngine(t, name+": MoveState", got, ok)
		}
	}
	k := movedThree()
	for _, e := range []impl.Engine{
		changedIn(k, func(e *impl.Engine) { e.Tables[0].Data = turned(e.Tables[0].Data, 5) }),
		changedIn(k, func(e *impl.Engine) { e.Tables[0].Number = 3 }),
		changedIn(k, func(e *impl.Engine) { e.Version.Seq++ }),
		changedIn(k, func(e *impl.Engine) { e.Seq = 8 }),
	} {
		got, ok := impl.MoveState(e, allBelow(6))
		wantNoEngine(t, "MoveState", got, ok)
	}
}

func TestMovingAnEngineWithItemsInMem(t *testing.T) {
	for name, k := range manyKept() {
		if len(k.mem) == 0 {
			continue
		}
		for _, order := range [][]int{nil, allBelow(20), allBelow(200), twice(allBelow(200))} {
			wantNotMoved(t, name, k, order)
		}
		// Flushed, or with nothing in Mem at all, it may be.
		checkMove(t, name+", without Mem", k.withMem(), allBelow(200))
	}
	k := movedThree().withMem(put("z", 40, ""))
	wantNotMoved(t, "one in Mem", k, allBelow(20))
	wantMoved(t, "none in Mem", k.withMem(), allBelow(20))
}

// Each file beside the edit is a table: eleven may be sent, twelve not.
func TestMovingManyTables(t *testing.T) {
	for many := range 31 {
		k := keptIn(1, 31, rowOfFiles(many, 1, 1)...)
		what := fmt.Sprint(many, " tables")
		if many <= 11 {
			wantMoved(t, what, k, allBelow(200))
			wantMoved(t, what, k, backwards(allBelow(200)))
		} else {
			wantNotMoved(t, what, k, allBelow(200))
			wantNotMoved(t, what, k, twice(allBelow(200)))
		}
	}
}

// wideItems are so many items with values of 40 bytes.
func wideItems(first int, many int) []impl.Item {
	var l []impl.Item
	for i := range many {
		l = append(l, put(fmt.Sprintf("wide%04d", first+i), 1, mixed(40, first+i)))
	}
	return l
}

// A table may have more bytes than a file that is sent, and all together more than the chunks that are.
func TestMovingTablesThatAreTooGreat(t *testing.T) {
	came := 0
	for many := 60; many <= 100; many++ {
		k := keptIn(9, 2, held(1, 0, wideItems(0, many)...))
		size := len(k.engine().Tables[0].Data)
		if checkMove(t, fmt.Sprint(size, " bytes"), k, allBelow(200)) != (size <= 4000) {
			t.Errorf("a table of %d bytes", size)
		}
		if size <= 4000 {
			came++
		}
	}
	if came < 5 || came > 36 {
		t.Errorf("%d tables came over", came)
	}
	came = 0
	for many := 40; many <= 70; many++ {
		k := keptIn(9, 6)
		for i := range 4 {
			k = k.with(held(1+i, 1, wideItems(100*i, many)...))
		}
		texts, _ := k.checkpoint()
		chunks := 0
		for _, text := range texts {
			chunks += (len(text) + 63) / 64
		}
		if checkMove(t, fmt.Sprint(chunks, " chunks"), k, twice(allBelow(200))) != (chunks <= 200) {
			t.Errorf("%d chunks", chunks)
		}
		if chunks <= 200 {
			came++
		}
	}
	if came < 5 || came > 26 {
		t.Errorf("%d engines came over", came)
	}
}

// An edit of more bytes than a frame is no checkpoint.
func TestMovingAVersionThatIsTooLong(t *testing.T) {
	var files []keptFile
	for i := range 30 {
		files = append(files, held(1+i, 1, put(fmt.Sprintf("%02d", i)+sized(14), 1, "")))
	}
	wantNotMoved(t, "long keys", keptIn(1, 31, files...), allBelow(200))
}

// What came over may be gone on with: it has all that the one ahead had, Next and Seq too.
func TestGoingOnWithWhatCameOver(t *testing.T) {
	came := 0
	for seed := range 10 {
		d := dealingOf(seed)
		l := d.aClient(50, 4)
		k, _ := buildByHand(l, d.plans(50))
		k = k.orAsItWas(k.flushed())
		if k.chunksIn() < 0 {
			continue
		}
		came++
		e, ok := impl.MoveState(k.engine(), d.shuffled(allBelow(k.chunksIn())))
		for range 10 {
			w := d.writes(3)
			next, is := k.written(w...)
			if !is {
				break
			}
			k = next
			e, ok = impl.WriteBatch(e, w)
			wantEngine(t, fmt.Sprint("seed ", seed), e, ok, k)
		}
	}
	if came < 5 {
		t.Errorf("%d came over: too few", came)
	}
}
