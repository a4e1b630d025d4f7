package tests

import (
	"fmt"
	"slices"
	"strings"
	"testing"

	"loop.example/g00224/impl"
)

// Promise 16.

// Drawn scripts of lines of every kind, against the document's words and the calls of the chapters ahead.
func TestDrawnScripts(t *testing.T) {
	heard := map[string]int{}
	for seed := range 250 {
		d := dealingOf(seed)
		lines := d.script(20 + d.below(81))
		answers := linesOf(checkScript(t, fmt.Sprint("seed ", seed), scriptOf(lines...)))
		for i, answer := range answers {
			name, _, _ := strings.Cut(lines[i], " ")
			word, rest, _ := strings.Cut(answer, " ")
			if word == "cells" && rest != "" {
				word = "cells that are some"
			}
			heard[name+": "+word]++
		}
	}
	for _, x := range []string{"put: seq", "put: no", "del: seq", "del: no", "get: value", "get: none", "get: no", "scan: cells that are some", "flush: files", "flush: no", "compact: files", "compact: no",
		"timeout: net", "timeout: no", "crash: net", "crash: no", "deliver: net", "deliver: no", "lose: net", "lose: no", "double: net", "double: no", "send: net", "send: no", "propose: net", "propose: no",
		"command: index", "command: no", "state: cells", "state: cells that are some", "state: no", "role: role", "role: no", "put: what", "deliver: what"} {
		if heard[x] < 5 {
			t.Errorf("the test itself is too thin: %s comes %d times", x, heard[x])
		}
	}
}

// The answers to a script's first lines, taken alone, are the beginning of the answers to the whole.
func TestAnswersDoNotHangOnWhatFollows(t *testing.T) {
	for seed := range 40 {
		d := dealingOf(seed)
		lines := d.script(60)
		whole := linesOf(impl.RunStore(scriptOf(lines...)))
		if len(whole) != len(lines) {
			t.Fatalf("seed %d: %d answers to %d lines", seed, len(whole), len(lines))
		}
		for many := range len(lines) + 1 {
			first := scriptOf(lines[:many]...)
			if got := impl.RunStore(first); got != scriptOf(whole[:many]...) {
				t.Errorf("seed %d: %d lines alone: %s", seed, many, unlikeAnswers(first, got, scriptOf(whole[:many]...)))
			}
		}
	}
}

// Nor do they hang on what else may follow: also where that is as long as it may be.
func TestAnswersBeforeOtherLines(t *testing.T) {
	for seed := range 60 {
		d := dealingOf(seed)
		first := d.script(1 + d.below(40))
		want := impl.RunStore(scriptOf(first...))
		for _, behind := range [][]string{d.script(40), linesFrom(100-len(first), func(int) string { return "" }), {sized(2500 - len(scriptOf(first...)) - 1)}, {"crash 0", "del a", "flush"}, {first[0]}} {
			text := scriptOf(slices.Concat(first, behind)...)
			if len(text) > 2500 {
				continue
			}
			if got := impl.RunStore(text); !strings.HasPrefix(got, want) || len(linesOf(got)) != len(first)+len(behind) {
				t.Errorf("seed %d: %s ahead of others are answered %s, alone %s", seed, shown(first), shown(got), shown(want))
			}
		}
		// Where it is no script any more there is no answer at all.
		wantNoScript(t, "too long", scriptOf(append(slices.Clone(first), sized(2500-len(scriptOf(first...))))...))
		wantNoScript(t, "too many lines", scriptOf(append(slices.Clone(first), linesFrom(101-len(first), func(int) string { return "" })...)...))
	}
}

// Behind each line the engine and the cluster are good, and what the calls make of the lines up to there.
func TestStoresBehindEachLine(t *testing.T) {
	for seed := range 25 {
		lines := dealingOf(seed).script(60)
		made := newCalledStore()
		x := newScripted()
		for many := range len(lines) + 1 {
			what := fmt.Sprintf("seed %d: behind %d lines", seed, many)
			e, c, ok := impl.StoreOf(scriptOf(lines[:many]...))
			if !ok || !impl.GoodEngine(e) || !impl.GoodCluster(c) || !sameEngine(e, made.e) || !sameCluster(c, made.c) {
				t.Errorf("%s: %v %s %s, want %s %s", what, ok, briefly(e), shown(c), briefly(made.e), shown(made.c))
			}
			wantEngine(t, what, e, ok, x.k)
			wantCluster(t, what, c, ok, x.c)
			if many < len(lines) {
				made.call(lines[many])
				x.answerByHand(lines[many])
			}
		}
	}
}

// A line that is answered by `no` or `what`, or that asks alone, leaves all as it was: without it the others are answered alike.
func TestLinesThatChangeNothing(t *testing.T) {
	asks := []string{"get", "scan", "state", "role"}
	for seed := range 80 {
		lines := dealingOf(seed).script(80)
		answers := linesOf(impl.RunStore(scriptOf(lines...)))
		var does, asked, doesSay, askedSay []string
		for i, answer := range answers {
			if answer == "no" || answer == "what" {
				continue
			}
			asked, askedSay = append(asked, lines[i]), append(askedSay, answer)
			if name, _, _ := strings.Cut(lines[i], " "); !slices.Contains(asks, name) {
				does, doesSay = append(does, lines[i]), append(doesSay, answer)
			}
		}
		e, c, _ := impl.StoreOf(scriptOf(lines...))
		for name, x := range map[string][2][]string{"without what is refused": {asked, askedSay}, "without what asks, too": {does, doesSay}} {
			text := scriptOf(x[0]...)
			if got := impl.RunStore(text); got != scriptOf(x[1]...) {
				t.Errorf("seed %d: %s: %s", seed, name, unlikeAnswers(text, got, scriptOf(x[1]...)))
			}
			other, another, ok := impl.StoreOf(text)
			if !ok || !sameEngine(e, other) || !sameCluster(c, another) {
				t.Errorf("seed %d: %s: StoreOf tells something else", seed, name)
			}
		}
	}
}

// Lines that are refused, put at each place of a script, change no other answer.
func TestRefusedLinesAtEachPlace(t *testing.T) {
	refused := []string{"put " + sized(17) + " v", "put k " + sized(41), "del " + sized(17), "get " + sized(17), "get a 999999999", "compact 3", "compact 0 999999999", "timeout 3", "crash 3", "deliver 60", "lose 60", "double 60",
		"send 0 0 1", "send 3 0 1", "propose 3 x", "propose 0 " + sized(101), "command 0 100 1 k v", "command 3 1 1 k v", "state 3", "role 3", "", "fly", "put k", "compact 00"}
	lines := slices.Concat(leading(), []string{"put a 1", "command 0 1 1 k v", "flush", "send 0 1 1", "del a", "deliver 1", "flush", "deliver 1", "compact 0 1", "state 0", "get a 1", "role 0", "scan"})
	answers := linesOf(impl.RunStore(scriptOf(lines...)))
	for _, line := range refused {
		for at := range len(lines) + 1 {
			got := linesOf(checkScript(t, "refused", scriptOf(slices.Insert(slices.Clone(lines), at, line)...)))
			if len(got) != len(lines)+1 || got[at] != "no" && got[at] != "what" || !slices.Equal(slices.Delete(got, at, at+1), answers) {
				t.Errorf("%q at %d: %s, want %s", line, at, shown(got), shown(answers))
			}
		}
	}
}

// All scripts of up to three lines of a few, with either state ahead.
func TestAllShortScripts(t *testing.T) {
	few := []string{"put a 1", "del a", "get a", "get a 1", "flush", "compact 0", "compact 1", "compact 0 1", "scan", "x"}
	for _, a := range few {
		for _, b := range few {
			if t.Failed() {
				return
			}
			for _, c := range few {
				checkScript(t, "engine", scriptOf(a, b, c))
				checkScript(t, "engine", scriptOf("put a 0", "flush", a, b, c, "scan"))
			}
		}
	}
	few = []string{"timeout 0", "timeout 1", "crash 0", "deliver 0", "lose 0", "double 0", "send 0 1 1", "propose 0 x", "command 0 1 1 k v", "state 0", "role 0"}
	for _, a := range few {
		for _, b := range few {
			if t.Failed() {
				return
			}
			for _, c := range few {
				checkScript(t, "cluster", scriptOf(a, b, c))
				checkScript(t, "cluster", scriptOf(slices.Concat(leading(), []string{"command 0 1 1 k u", "send 0 1 1", "deliver 1", a, b, c, "state 0", "role 0", "role 1"})...))
			}
		}
	}
}
