package tests

import (
	"fmt"
	"math"
	"slices"
	"testing"

	"loop.example/g00224/impl"
)

func TestPlays(t *testing.T) {
	files := filesSized(1, 100, 0, 3)
	wantPlayTaking(t, "in order", files, []int{0, 1, 2}, []int{-1, -1, -1}, files, 3)
	wantPlayTaking(t, "backwards", files, []int{2, 1, 0}, []int{-1, -1, -1}, files, 3)
	wantPlayTaking(t, "without one", files, []int{0, 2}, []int{-1, -1}, nil, 2)
	wantPlayTaking(t, "one alone", files, []int{1}, []int{-1}, nil, 1)
	wantPlayTaking(t, "one twice", files, []int{0, 1, 1, 2}, []int{-1, -1, -1, -1}, files, 4)
	wantPlayTaking(t, "one twice, one not", files, []int{0, 0, 1}, []int{-1, -1, -1}, nil, 3)
	wantPlayTaking(t, "a bit turned", files, []int{0, 1, 2}, []int{-1, 0, -1}, nil, 2)
	wantPlayTaking(t, "a bit of each turned", files, []int{0, 1, 2}, []int{511, 0, 23}, nil, 0)
	wantPlayTaking(t, "no order", files, nil, nil, nil, 0)
	wantPlayTaking(t, "no order", files, []int{}, []int{}, nil, 0)
	wantPlayTaking(t, "other numbers alone", files, []int{3, -1, 9}, []int{-1, -1, -1}, nil, 0)
}

// Of nothing, and of empty files, nothing is missing.
func TestPlaysOfNoChunks(t *testing.T) {
	for many := range 13 {
		files := make([]string, many)
		wantPlayTaking(t, fmt.Sprint(many, " empty files"), files, nil, nil, files, 0)
		wantPlayTaking(t, fmt.Sprint(many, " empty files, numbers"), files, []int{0, 1, -1}, []int{0, -1, 5}, files, 0)
	}
	got, many, ok := impl.PlayTaking(nil, nil, nil)
	if !ok || many != 0 || len(got) != 0 {
		t.Errorf("no files: %v %d %v", got, many, ok)
	}
	wantNoPlayTaking(t, "13 empty files", make([]string, 13), nil, nil)
}

func TestHowLongAnOrderMayBe(t *testing.T) {
	files := filesSized(1, 100, 0, 3)
	for _, many := range []int{3, 399, 400} {
		order := make([]int, many)
		order[many-2], order[many-1] = 1, 2
		wantPlayTaking(t, fmt.Sprint(many, " numbers"), files, order, unturned(many), files, many)
	}
	for _, many := range []int{401, 402, 1000} {
		wantNoPlayTaking(t, fmt.Sprint(many, " numbers"), files, make([]int, many), unturned(many))
		wantNoPlayTaking(t, fmt.Sprint(many, " other numbers"), files, unturned(many), unturned(many))
	}
	wantNoPlayTaking(t, "401 numbers of no files", nil, unturned(401), unturned(401))
}

func TestAsManyFlipsAsNumbers(t *testing.T) {
	files := filesSized(1, 100, 0, 3)
	for numbers := range 6 {
		for flips := range 6 {
			order := []int{0, 1, 2, 0, 1}[:numbers]
			if numbers == flips {
				checkPlayTaking(t, fmt.Sprint(numbers), files, order, unturned(flips))
			} else {
				wantNoPlayTaking(t, fmt.Sprintf("%d flips for %d numbers", flips, numbers), files, order, unturned(flips))
			}
		}
	}
	wantNoPlayTaking(t, "no flips", files, []int{0, 1, 2}, nil)
	wantNoPlayTaking(t, "flips alone", files, nil, []int{0})
	wantNoPlayTaking(t, "399 flips for 400", files, make([]int, 400), unturned(399))
	wantNoPlayTaking(t, "401 flips for 400", files, make([]int, 400), unturned(401))
	wantNoPlayTaking(t, "400 flips for 401", files, make([]int, 401), unturned(400))
}

// A number that is no chunk's is nothing, with whatever flip.
func TestNumbersOfNoChunk(t *testing.T) {
	files := filesSized(1, 100, 0, 3)
	for _, number := range []int{math.MinInt, -200, -2, -1, 3, 4, 199, 200, 400, math.MaxInt} {
		for _, flip := range []int{math.MinInt, -1, 0, 5, math.MaxInt} {
			what := fmt.Sprint("the number ", number)
			wantPlayTaking(t, what, files, []int{number}, []int{flip}, nil, 0)
			for place := range 4 {
				order := slices.Insert([]int{0, 1, 2}, place, number)
				flips := slices.Insert(unturned(3), place, flip)
				wantPlayTaking(t, what, files, order, flips, files, 3)
			}
		}
	}
	for number := range 3 {
		order := []int{0, 1, 2}
		order[number] = number - 3
		wantPlayTaking(t, fmt.Sprint("a number from the end for ", number), files, order, unturned(3), nil, 2)
	}
	full := fullFiles()
	for _, last := range []int{199, 200} {
		order := allBelow(200)
		order[199] = last
		if last == 199 {
			wantPlayTaking(t, "up to the last", full, order, unturned(200), full, 200)
		} else {
			wantPlayTaking(t, "beyond the last", full, order, unturned(200), nil, 199)
		}
	}
}

// Each chunk has as many bits as its Data: beyond them nothing is turned.
func TestWhichBitsAreTurned(t *testing.T) {
	files := filesSized(1, 100, 1, 3)
	for number, bits := range []int{512, 288, 8, 24} {
		order := []int{0, 1, 2, 3}
		for _, flip := range []int{math.MinInt, -512, -8, -1, bits, bits + 1, bits + 8, 8 * bits, 1 << 20, math.MaxInt} {
			flips := unturned(4)
			flips[number] = flip
			wantPlayTaking(t, fmt.Sprintf("flip %d of chunk %d", flip, number), files, order, flips, files, 4)
		}
		for flip := range bits {
			flips := unturned(4)
			flips[number] = flip
			wantPlayTaking(t, fmt.Sprintf("bit %d of chunk %d", flip, number), files, order, flips, nil, 3)
		}
	}
}

// The flip at a number's own place counts, not one at another.
func TestFlipsGoWithTheirNumbers(t *testing.T) {
	files := filesSized(1, 100, 0, 3)
	wantPlayTaking(t, "bit 400 of a longer one", files, []int{2, 1, 0}, []int{400, 400, -1}, files, 3)
	wantPlayTaking(t, "bit 400 of the longest", files, []int{2, 1, 0}, []int{-1, -1, 400}, nil, 2)
	wantPlayTaking(t, "turned where a number is none", files, []int{7, 0, 1, 2}, []int{3, -1, -1, -1}, files, 3)
	wantPlayTaking(t, "turned behind one that is none", files, []int{7, 0, 1, 2}, []int{-1, 3, -1, -1}, nil, 2)
}

func TestAChunkThatComesTwiceOnceTurned(t *testing.T) {
	files := filesSized(1, 100, 0, 3)
	for number, bits := range []int{512, 288, 24} {
		for _, flip := range []int{0, 1, bits / 2, bits - 1} {
			order := []int{0, 1, 2, number}
			last := []int{-1, -1, -1, flip}
			wantPlayTaking(t, "turned behind", files, order, last, files, 3)
			first := unturned(4)
			first[number] = flip
			wantPlayTaking(t, "turned ahead", files, order, first, files, 3)
			both := unturned(4)
			both[number], both[3] = flip, flip
			wantPlayTaking(t, "turned twice", files, order, both, nil, 2)
		}
	}
}

func TestPlaysOfFilesThatAreNotAsSaid(t *testing.T) {
	for name, files := range map[string][]string{
		"13 files":              alike(13, "x"),
		"4001 bytes":            {sized(4001)},
		"4001 bytes, the last":  {"a", "b", sized(4001)},
		"4001 bytes, the first": {sized(4001), "a"},
		"201 chunks":            filesSized(1, 4000, 4000, 4000, 705),
		"201 chunks, twelve":    append(filesSized(1, slices.Repeat([]int{1024}, 11)...), mixed(1600, 1)),
		"756 chunks":            alike(12, sized(4000)),
		"many files":            make([]string, 1000),
	} {
		wantNoPlayTaking(t, name, files, nil, nil)
		wantNoPlayTaking(t, name, files, []int{0, 1, 2}, unturned(3))
		wantNoPlayTaking(t, name, files, make([]int, 400), unturned(400))
	}
	files := alike(12, sized(1))
	wantPlayTaking(t, "12 files", files, allBelow(12), unturned(12), files, 12)
	files = []string{sized(4000)}
	wantPlayTaking(t, "4000 bytes", files, allBelow(63), unturned(63), files, 63)
}

// What is played is what comes of the functions one by one.
func TestPlaysAreStepByStep(t *testing.T) {
	for seed := range 150 {
		d := dealingOf(seed)
		files := d.files(6)
		chunks, ok := impl.ChunksOf(files)
		if !ok {
			t.Fatalf("drawn %d: no chunks", seed)
		}
		order, flips := d.play(chunks, d.below(60))
		want, _ := impl.WantOf(files)
		x, _ := impl.NewTaking(want)
		many := 0
		for i, number := range order {
			if !isWithin(number, 0, len(chunks)-1) {
				continue
			}
			c := chunks[number]
			if isWithin(flips[i], 0, 8*len(c.Data)-1) {
				c.Data = turned(c.Data, flips[i])
			}
			if next, ok := checkTake(t, fmt.Sprint("drawn ", seed), x, c); ok {
				x = next
				many++
			}
		}
		checkTaking(t, fmt.Sprint("drawn ", seed), x)
		told, _ := impl.FinishTaking(x)
		wantPlayTaking(t, fmt.Sprint("drawn ", seed), files, order, flips, told, many)
	}
}

// play draws an order, with numbers that are none, and flips, of which most turn nothing.
func (d *dealing) play(chunks []impl.Chunk, many int) ([]int, []int) {
	var order, flips []int
	for range many {
		number := d.below(len(chunks)+2) - 1
		flip := -1
		switch d.below(6) {
		case 0:
			flip = d.below(600)
		case 1:
			flip = 512 + d.below(5)
		}
		order, flips = append(order, number), append(flips, flip)
	}
	return order, flips
}
