package tests

import (
	"fmt"
	"math"
	"slices"
	"testing"

	"loop.example/g00224/impl"
)

// allRuns are runs, good and not, and longer ones than a block may have.
func allRuns() map[string][]impl.Item {
	l := manyRuns()
	for fault, run := range badRuns() {
		l["bad: "+fault] = run
	}
	for _, n := range []int{41, 121} {
		l[fmt.Sprint("long ", n)] = someRun(n, n)
	}
	return l
}

func TestNoRunIsWrittenInto(t *testing.T) {
	behind := put("behind", 7, "behind")
	for name, l := range allRuns() {
		arg := roomy(l, behind)
		impl.GoodRun(arg)
		impl.BlockBytes(arg)
		for _, key := range []string{"", "\x00", "k", sized(16), sized(17)} {
			for _, seq := range []int{math.MinInt, -1, 0, 1, greatestSeq, greatestSeq + 1, math.MaxInt} {
				impl.SeekRun(arg, key, seq)
			}
		}
		if !slices.Equal(arg, l) || !slices.Equal(whole(arg), whole(roomy(l, behind))) {
			t.Errorf("%s: the run is written into", name)
		}
	}
}

// What lies behind the list is no item of the run, whether it would do there or not.
func TestNothingBehindARunIsRead(t *testing.T) {
	for name, l := range manyRuns() {
		for _, behind := range []impl.Item{{}, put("behind", 7, "behind"), put(repeated(0xff, 16), 0, "last"), put(sized(17), -1, "")} {
			arg := roomy(l, behind)
			if !impl.GoodRun(arg) {
				t.Errorf("%s: no run, with something behind it", name)
			}
			wantBytes(t, name+", something behind", arg, blockByHand(l))
			if len(l) == 0 || l[len(l)-1].Key < repeated(0xff, 16) {
				wantSeekRun(t, name+", something behind", arg, repeated(0xff, 16), 0, len(l))
			}
		}
	}
}

func TestWhatIsReadFromABlockMayBeWrittenInto(t *testing.T) {
	for name, l := range manyRuns() {
		s := blockByHand(l)
		for range 2 {
			wantBlock(t, name, s, l)
			items, _ := impl.ReadBlock(s)
			fill(whole(items), put("scribble", 99, "scribble"))
			places, _ := impl.RestartsOf(s)
			fill(whole(places), 99)
		}
		if s != blockByHand(l) {
			t.Errorf("%s: the text is changed", name)
		}
	}
}

// wantNothingBehind asks for noughts alone behind a list's length.
func wantNothingBehind[T comparable](t *testing.T, what string, l []T) {
	t.Helper()
	var nothing T
	for _, x := range whole(l)[len(l):] {
		if x != nothing {
			t.Errorf("%s: behind the list lies %s", what, shown(x))
		}
	}
}

func TestNothingLiesBehindWhatIsReadFromABlock(t *testing.T) {
	for name, l := range manyRuns() {
		items, _ := impl.ReadBlock(blockByHand(l))
		wantNothingBehind(t, name+", the run", items)
		places, _ := impl.RestartsOf(blockByHand(l))
		wantNothingBehind(t, name+", the places", places)
	}
}

// What was read ahead stays as it was, whatever is read or made later.
func TestRunsThatWereReadStay(t *testing.T) {
	first := closeRun(40, 1)
	items, _ := impl.ReadBlock(blockByHand(first))
	places, _ := impl.RestartsOf(blockByHand(first))
	for seed := range 20 {
		other := closeRun(40, seed+2)
		impl.ReadBlock(blockByHand(other))
		impl.RestartsOf(blockByHand(other))
		impl.BlockBytes(other)
		impl.FirstIn(blockByHand(other))
	}
	if !slices.Equal(items, first) || !slices.Equal(places, toldOf(first).places) {
		t.Error("what was read is changed by a later call")
	}
}

// The run may be written over once its bytes are made.
func TestBlocksKeepNothingOfTheirRun(t *testing.T) {
	for name, l := range manyRuns() {
		arg := slices.Clone(l)
		s, _ := impl.BlockBytes(arg)
		fill(arg, put("scribble", 99, "scribble"))
		wantBlock(t, name+", after the run is written over", s, l)
	}
}

// Any texts whatever: each call ends, and what is read as a block is one.
func TestBlocksOfAnyTexts(t *testing.T) {
	for size := range 400 {
		for seed := range 5 {
			s := mixed(size, size*5+seed)
			wantNoBlock(t, "any", s)
			wantBlockOrNone(t, "any, with a sum", sealed(s))
			wantBlockOrNone(t, "any, with places", sealed(s+"\x00\x00\x01\x00"))
			wantBlockOrNone(t, "any, with no places", sealed(s+"\x00\x00"))
		}
	}
	for _, s := range []string{repeated(0, 100000), repeated(1, 100000), repeated(0xff, 100000), repeated(0x80, 100000), mixed(100000, 1)} {
		wantNoBlock(t, "long", s)
		wantNoBlock(t, "long, with a sum", sealed(s))
		wantNoBlock(t, "long, with no places", sealed(s+"\x00\x00"))
		wantNoBlock(t, "long, with many places", sealed(s+"\xff\xff"))
	}
}

func TestBlocksAnswerAlikeEachTime(t *testing.T) {
	l := closeRun(40, 7)
	for range 3 {
		wantBytes(t, "again", l, blockByHand(l))
		wantBlock(t, "again", blockByHand(l), l)
		wantSeekRun(t, "again", l, l[17].Key, l[17].Seq, 17)
		wantNoBlock(t, "again", turned(blockByHand(l), 100))
		wantNoBytes(t, "again", append(slices.Clone(l), l[39]))
	}
}
