package tests

import (
	"fmt"
	"slices"
	"testing"

	"loop.example/g00224/impl"
)

func TestPutLines(t *testing.T) {
	wantTalk(t, "put", "put a 1", "seq 1", "put b 2", "seq 2", "put a 3", "seq 3", "put a 3", "seq 4", "scan", "cells a=3 b=2", "get a 1", "value 1", "get a 3", "value 3")
	for many, answer := range map[int]string{1: "seq 1", 2: "seq 1", 15: "seq 1", 16: "seq 1", 17: "no", 18: "no", 100: "no"} {
		wantTalk(t, fmt.Sprint("a key of ", many), "put "+sized(many)+" v", answer, "put z w", map[string]string{"seq 1": "seq 2", "no": "seq 1"}[answer])
		wantTalk(t, fmt.Sprint("a key of ", many, " and an empty value"), "put "+sized(many)+" ", answer)
		wantTalk(t, fmt.Sprint("another key of ", many), "put "+repeated(0xff, many)+" v", answer)
	}
	for many, answer := range map[int]string{0: "seq 1", 1: "seq 1", 39: "seq 1", 40: "seq 1", 41: "no", 42: "no", 1000: "no"} {
		wantTalk(t, fmt.Sprint("a value of ", many), "put k "+sized(many), answer)
		wantTalk(t, fmt.Sprint("a value of ", many, " blanks"), "put k "+repeated(' ', many), answer)
		wantTalk(t, fmt.Sprint("another value of ", many), "put k "+repeated(0xff, many), answer)
		wantTalk(t, fmt.Sprint("a great key and a value of ", many), "put "+sized(16)+" "+sized(many), answer)
	}
	wantTalk(t, "both too long", "put "+sized(17)+" "+sized(41), "no", "scan", "cells", "put k v", "seq 1")
	wantTalk(t, "a key of no byte", "put  v", "what", "put  ", "what", "put ", "what", "put k v", "seq 1")
	// Bytes are counted, not what they stand for.
	wantTalk(t, "bytes", "put éééééééé v", "seq 1", "put ééééééééé v", "no", "put k éééééééééééééééééééé", "seq 2", "put k éééééééééééééééééééé1", "no")
}

func TestDelLines(t *testing.T) {
	wantTalk(t, "del", "put a 1", "seq 1", "del a", "seq 2", "get a", "none", "get a 1", "value 1", "scan", "cells", "del a", "seq 3", "del b", "seq 4", "put a 2", "seq 5", "get a", "value 2", "get a 4", "none")
	for many, answer := range map[int]string{1: "seq 2", 16: "seq 2", 17: "no", 18: "no", 500: "no"} {
		wantTalk(t, fmt.Sprint("a key of ", many), "put k v", "seq 1", "del "+sized(many), answer, "get k", "value v")
	}
	wantTalk(t, "a key of no byte", "del ", "what", "del", "what", "del  ", "what", "del k", "seq 1")
	wantTalk(t, "an empty engine", "del k", "seq 1", "scan", "cells", "get k", "none", "flush", "files 1", "compact 0", "files 0", "scan", "cells")
}

// A list takes MaxSkip items; behind a flush there is room again.
func TestALineToAListThatIsFull(t *testing.T) {
	wantTalkBehind(t, "one left", putLines(59), "put z 1", "seq 60", "put z 2", "no", "del z", "no", "get z", "value 1", "put y 1", "no", "get y", "none", "flush", "files 1", "put z 2", "seq 61", "get z", "value 2", "get z 60", "value 1", "del z", "seq 62")
	wantTalkBehind(t, "none left", putLines(60), "put n00 x", "no", "del n00", "no", "get n00", "value v0", "compact 0", "no", "flush", "files 1", "del n00", "seq 61", "get n00", "none")
	dels := linesFrom(60, func(int) string { return "del k" })
	wantTalkBehind(t, "of deletions", dels, "del k", "no", "put k v", "no", "flush", "files 1", "put k v", "seq 61", "get k 60", "none", "get k", "value v")
}

func TestGetLines(t *testing.T) {
	ahead := []string{"put a 1", "put b ", "del a", "put a 2", "flush", "put c 3", "del b"}
	wantTalkBehind(t, "get", ahead,
		"get a", "value 2", "get b", "none", "get c", "value 3", "get d", "none",
		"get a 0", "none", "get a 1", "value 1", "get a 2", "value 1", "get a 3", "none", "get a 4", "value 2", "get a 5", "value 2", "get a 6", "value 2", "get a 7", "no",
		"get b 1", "none", "get b 2", "value ", "get b 5", "value ", "get b 6", "none", "get b 7", "no", "get c 4", "none", "get c 5", "value 3",
		"get d 0", "none", "get d 6", "none", "get d 7", "no", "get d 999999999", "no", "get a 1000000000", "what", "get a 06", "what")
	wantTalk(t, "an empty engine", "get a", "none", "get a 0", "none", "get a 1", "no", "get a 999999999", "no")
	wantTalk(t, "a key of 16 and more", "get "+sized(16), "none", "get "+sized(16)+" 0", "none", "get "+sized(17), "no", "get "+sized(17)+" 0", "no", "get "+sized(17)+" 1", "no", "get "+sized(2000), "no")
	wantTalk(t, "a key of no byte", "get", "what", "get ", "what", "get  ", "what", "get  0", "what")
	// The Seq moves on, and what is told of a number stays.
	wantTalk(t, "the Seq", "put k 1", "seq 1", "get k", "value 1", "get k 2", "no", "put j 1", "seq 2", "get k 2", "value 1", "put k 3", "seq 3", "get k", "value 3", "get k 2", "value 1", "get k 3", "value 3", "get k 4", "no")
	wantTalk(t, "a number is a key, too", "put 1 one", "seq 1", "get 1", "value one", "get 1 1", "value one", "get 1 0", "none", "get 01", "none", "put - minus", "seq 2", "get -", "value minus")
}

func TestScanLines(t *testing.T) {
	wantTalk(t, "scan", "scan", "cells", "put b 2", "seq 1", "scan", "cells b=2", "put a ", "seq 2", "scan", "cells a= b=2", "put c x y ", "seq 3", "scan", "cells a= b=2 c=x y ", "del b", "seq 4", "scan", "cells a= c=x y ",
		"flush", "files 1", "scan", "cells a= c=x y ", "put = =", "seq 5", "scan", "cells === a= c=x y ", "compact 0", "files 1", "scan", "cells === a= c=x y ", "scan 1", "what", "scan ", "what")
}

func TestFlushLines(t *testing.T) {
	wantTalk(t, "flush", "flush", "no", "put a 1", "seq 1", "flush", "files 1", "flush", "no", "del a", "seq 2", "flush", "files 2", "get a", "none", "get a 1", "value 1", "flush", "no", "put b 1", "seq 3", "flush", "files 3")
	wantTalk(t, "a refused flush", "flush", "no", "scan", "cells", "put a 1", "seq 1", "get a", "value 1")
}

// An engine has at most MaxMetas tables.
func TestAFlushTooMany(t *testing.T) {
	var ahead []string
	for i := range 30 {
		ahead = append(ahead, fmt.Sprint("put a ", i), "flush")
	}
	wantTalkBehind(t, "30 tables", ahead, "flush", "no", "put b 30", "seq 31", "flush", "no", "scan", "cells a=29 b=30", "get a 30", "value 29", "get a 7", "value 6", "compact 1", "no", "compact 0", "files 1", "flush", "files 2", "scan", "cells a=29 b=30")
	wantTalkBehind(t, "29 tables", ahead[2:], "put b 30", "seq 30", "flush", "files 30", "put b 31", "seq 31", "flush", "no", "compact 0 0", "files 2", "get a 1", "value 1", "flush", "files 3")
}

func TestCompactLines(t *testing.T) {
	ahead := []string{"put a 1", "put b 2", "flush", "put a 3", "del b", "flush"}
	for _, x := range []struct {
		line   string
		answer string
		behind []string
	}{
		{"compact 0", "files 1", []string{"get a 3", "value 3", "get a 2", "none", "get b 2", "none", "scan", "cells a=3"}},
		{"compact 0 4", "files 1", []string{"get a 3", "value 3", "get a 2", "none", "get b 3", "none", "scan", "cells a=3"}},
		{"compact 0 3", "files 1", []string{"get a 3", "value 3", "get a 2", "none", "get b 3", "value 2", "get b 2", "value 2", "get b", "none", "scan", "cells a=3"}},
		{"compact 0 2", "files 1", []string{"get a 2", "value 1", "get b 2", "value 2", "get b 3", "value 2", "get b", "none", "scan", "cells a=3"}},
		{"compact 0 0", "files 1", []string{"get a 1", "value 1", "get b 2", "value 2", "scan", "cells a=3"}},
		{"compact 0 5", "no", []string{"get a 1", "value 1", "flush", "no", "compact 0", "files 1"}},
		{"compact 0 999999999", "no", []string{"get a 1", "value 1"}},
		{"compact 1", "no", []string{"get a 1", "value 1"}},
		{"compact 2", "no", []string{"get a 1", "value 1"}},
		{"compact 3", "no", []string{"get a 1", "value 1"}},
		{"compact 4", "no", []string{"get a 1", "value 1"}},
		{"compact 999999999", "no", []string{"get a 1", "value 1"}},
		{"compact 1 0", "no", []string{"get a 1", "value 1"}},
		{"compact 3 4", "no", []string{"get a 1", "value 1"}},
		{"compact", "what", []string{"get a 1", "value 1"}},
		{"compact -1", "what", []string{"get a 1", "value 1"}},
		{"compact 0 1 2", "what", []string{"get a 1", "value 1"}},
	} {
		wantTalkBehind(t, x.line, ahead, append([]string{x.line, x.answer}, x.behind...)...)
	}
	wantTalk(t, "an empty engine", "compact 0", "no", "compact 0 0", "no", "put a 1", "seq 1", "compact 0", "no", "flush", "files 1", "compact 0 1", "files 1")
}

// From level to level, as far as there is a next one.
func TestCompactLinesAtEachLevel(t *testing.T) {
	wantTalk(t, "down", "put a 1", "seq 1", "flush", "files 1", "compact 0", "files 1", "compact 0", "no", "compact 1", "files 1", "compact 1", "no", "compact 2", "files 1", "compact 2", "no", "compact 3", "no", "compact 4", "no",
		"get a", "value 1", "del a", "seq 2", "flush", "files 2", "compact 0 2", "files 2", "compact 1 2", "files 2", "get a", "none", "get a 1", "value 1", "compact 2 2", "files 0", "get a", "none", "get a 1", "none", "scan", "cells")
	e, _, ok := impl.StoreOf(scriptOf("put a 1", "flush", "compact 0", "compact 1", "put b 2", "flush", "put c 3"))
	wantEngine(t, "levels", e, ok, keptIn(3, 5, held(3, 2, put("a", 1, "1")), held(4, 0, put("b", 2, "2"))).withMem(put("c", 3, "3")))
	// A table begins anew behind 24 items.
	lines := append(putLines(60), "flush")
	wantTalkBehind(t, "many tables", lines, "compact 0", "files 3", "compact 1", "files 3", "compact 1", "files 3", "compact 2", "files 3", "compact 1 60", "files 3", "compact 1", "no", "compact 2 60", "files 3", "get n59", "value v59")
}

// The engine's Seq is what is told where no number is, at each time.
func TestTheSeqWhereNoNumberIsTold(t *testing.T) {
	for many := range 6 {
		ahead := []string{"put a 0", "flush"}
		for i := range many {
			ahead = append(ahead, fmt.Sprint("put a ", i+1), "flush")
		}
		seq := many + 1
		with := checkScript(t, "told", scriptOf(append(slices.Clone(ahead), fmt.Sprint("get a ", seq), fmt.Sprint("compact 0 ", seq))...))
		without := checkScript(t, "not told", scriptOf(append(slices.Clone(ahead), "get a", "compact 0")...))
		if with != without {
			t.Errorf("Seq %d: %s and %s", seq, shown(with), shown(without))
		}
		a, _, _ := impl.StoreOf(scriptOf(append(slices.Clone(ahead), fmt.Sprint("compact 0 ", seq))...))
		b, _, _ := impl.StoreOf(scriptOf(append(slices.Clone(ahead), "compact 0")...))
		if !sameEngine(a, b) {
			t.Errorf("Seq %d: %s and %s", seq, briefly(a), briefly(b))
		}
	}
}

// What the lines of one do is nothing to the other.
func TestEngineAndClusterAreApart(t *testing.T) {
	for seed := range 20 {
		d := dealingOf(seed)
		engine, cluster := linesFrom(40, func(int) string { return d.engineLine() }), append(leading(), linesFrom(37, func(int) string { return d.clusterLine() })...)
		var both []string
		for i := range engine {
			both = append(both, engine[i], cluster[i])
		}
		e, c, ok := impl.StoreOf(scriptOf(both...))
		alone, newly, is := impl.StoreOf(scriptOf(engine...))
		if !ok || !is || !sameEngine(e, alone) || !sameCluster(newly, newCluster(3)) {
			t.Errorf("seed %d: the engine hangs on the cluster", seed)
		}
		empty, other, is := impl.StoreOf(scriptOf(cluster...))
		if !is || !sameCluster(c, other) || !sameEngine(empty, impl.NewEngine()) {
			t.Errorf("seed %d: the cluster hangs on the engine", seed)
		}
	}
}
