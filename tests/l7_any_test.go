package tests

import (
	"fmt"
	"math"
	"slices"
	"strings"
	"testing"

	"loop.example/g00224/impl"
)

// allTableRuns are runs, good and not, and longer ones than a table may have.
func allTableRuns() map[string][]impl.Item {
	l := tableRuns()
	for fault, run := range badRuns() {
		l["bad: "+fault] = run
	}
	for _, n := range []int{0, 121, 200, 1000} {
		l[fmt.Sprint("length ", n)] = someRun(n, n)
	}
	return l
}

func TestNoRunOfATableIsWrittenInto(t *testing.T) {
	behind := put("behind", 7, "behind")
	for name, l := range allTableRuns() {
		arg := roomy(l, behind)
		impl.TableBytes(arg)
		if !slices.Equal(arg, l) || !slices.Equal(whole(arg), whole(roomy(l, behind))) {
			t.Errorf("%s: the run is written into", name)
		}
	}
}

// What lies behind the list is no item of the run, whether it would do there or not.
func TestNothingBehindARunIsInItsTable(t *testing.T) {
	for name, l := range tableRuns() {
		for _, behind := range []impl.Item{{}, put("behind", 7, "behind"), put(repeated(0xff, 16), 0, "last"), put(sized(17), -1, "")} {
			wantTableBytes(t, name+", something behind", roomy(l, behind), tableByHand(l))
		}
	}
	wantNoTableBytes(t, "no items, something behind", roomy(nil, put("behind", 7, "behind")))
}

func TestWhatIsReadFromATableMayBeWrittenInto(t *testing.T) {
	for name, l := range tableRuns() {
		s := tableByHand(l)
		for range 2 {
			wantTable(t, name, s, l)
			items, _ := impl.ReadTable(s)
			fill(whole(items), put("scribble", 99, "scribble"))
			index, _ := impl.IndexOf(s)
			fill(whole(index), impl.Place{Last: "scribble", Seq: 99, At: 99, Size: 99})
		}
		wantGet(t, name, s, l[0].Key, l[0].Seq, l[0], 1)
		if s != tableByHand(l) {
			t.Errorf("%s: the text is changed", name)
		}
	}
}

func TestNothingLiesBehindWhatIsReadFromATable(t *testing.T) {
	for name, l := range tableRuns() {
		items, _ := impl.ReadTable(tableByHand(l))
		wantNothingBehind(t, name+", the run", items)
		index, _ := impl.IndexOf(tableByHand(l))
		wantNothingBehind(t, name+", the index", index)
	}
}

// What was read ahead stays as it was, whatever is read or made later.
func TestTablesThatWereReadStay(t *testing.T) {
	first := closeRun(60, 1)
	items, _ := impl.ReadTable(tableByHand(first))
	index, _ := impl.IndexOf(tableByHand(first))
	filter, _ := impl.FilterIn(tableByHand(first))
	for seed := range 20 {
		other := closeRun(60, seed+2)
		s, _ := impl.TableBytes(other)
		impl.ReadTable(s)
		impl.IndexOf(s)
		impl.FilterIn(s)
		impl.RangeOf(s)
		impl.GetFrom(s, other[seed].Key, other[seed].Seq)
	}
	if !slices.Equal(items, first) || !slices.Equal(index, indexByHand(first)) || filter != filterByHand(4, keysByHand(first)...) {
		t.Error("what was read is changed by a later call")
	}
}

// The run may be written over once its bytes are made.
func TestTablesKeepNothingOfTheirRun(t *testing.T) {
	for name, l := range tableRuns() {
		arg := slices.Clone(l)
		s, _ := impl.TableBytes(arg)
		fill(arg, put("scribble", 99, "scribble"))
		wantTable(t, name+", after the run is written over", s, l)
	}
}

// anyTables are texts that look like a table in some of their parts, and in all their sums.
func anyTables(size int, seed int) []string {
	s := mixed(size, seed)
	block := sealed(s + "\x00\x00\x01\x00")
	place := toldAt(put("a", seed, ""), 0, len(block)).text()
	filter := frameByLibrary(mixed(32, seed))
	return []string{
		s,
		sealed(s),
		s + sealed(longWordByLibrary(size)),
		s + sealed(longWordByLibrary(size/2)),
		frameByLibrary(s) + sealed(longWordByLibrary(0)),
		frameByLibrary(s) + filter + sealed(longWordByLibrary(0)),
		s + frameByLibrary(s) + filter + sealed(longWordByLibrary(size)),
		block + frameByLibrary(place) + filter + sealed(longWordByLibrary(len(block))),
		blockByHand(nil) + frameByLibrary(s) + filter + sealed(longWordByLibrary(6)),
	}
}

// Any texts whatever: each call ends, and what is read as a table is one.
func TestTablesOfAnyTexts(t *testing.T) {
	for size := range 300 {
		for seed := range 5 {
			for i, s := range anyTables(size, size*5+seed) {
				wantTableOrNone(t, fmt.Sprint("any, ", i), s)
			}
		}
	}
}

func TestTablesOfLongTexts(t *testing.T) {
	for _, s := range []string{repeated(0, 100000), repeated(1, 100000), repeated(0xff, 100000), repeated(0x80, 100000), mixed(100000, 1)} {
		wantNoTable(t, "long", s)
		for _, begins := range []int{0, 1, 99000, 100000, 100001, math.MaxUint32} {
			wantNoTable(t, "long, with an end", s+sealed(longWordByLibrary(begins)))
		}
		wantNoTable(t, "long, with an index", s+frameByLibrary(toldAt(put("a", 1, ""), 0, 100000).text())+frameByLibrary(mixed(32, 1))+sealed(longWordByLibrary(100000)))
	}
	// As many empty blocks as an index can tell of, and of full ones.
	for _, l := range [][]impl.Item{nil, byteRun(40)} {
		block := blockByHand(l)
		place := toldAt(put("a", 1, ""), 0, len(block)).text()
		many := 1000 / len(place)
		s := strings.Repeat(block, many) + frameByLibrary(strings.Repeat(place, many)) + frameByLibrary(repeated(0, 32)) + sealed(longWordByLibrary(many*len(block)))
		wantNoTable(t, "many blocks", s)
	}
}

func TestGetFromAtAnyArguments(t *testing.T) {
	good := tableByHand(severalSeqs(30))
	for _, s := range []string{"", "\x00", repeated(0, 8), good[1:], good + "\x00", turned(good, 3)} {
		for _, key := range append(badKeys(), "a", "b", sized(16)) {
			for _, seq := range []int{math.MinInt, -1, 0, 100, greatestSeq, greatestSeq + 1, math.MaxInt} {
				wantNoGet(t, "any", s, key, seq, 0)
			}
		}
	}
}

func TestTablesAnswerAlikeEachTime(t *testing.T) {
	l := closeRun(100, 7)
	s := tableByHand(l)
	for range 3 {
		wantTableBytes(t, "again", l, s)
		wantTable(t, "again", s, l)
		wantGet(t, "again", s, l[17].Key, l[17].Seq, l[17], 1)
		wantNoTable(t, "again", turned(s, 100))
		wantNoTableBytes(t, "again", append(slices.Clone(l), l[99]))
	}
}
