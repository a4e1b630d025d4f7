package tests

import (
	"fmt"
	"math"
	"slices"
	"testing"

	"loop.example/g00224/impl"
)

func wantAppend(t *testing.T, what string, n impl.RaftNode, peer int, many int, want impl.RaftMsg) {
	t.Helper()
	got, ok := impl.AppendFor(n, peer, many)
	if !ok || !sameMsg(got, want) {
		t.Errorf("%s: AppendFor %d, %d: %s %v, want %s", what, peer, many, shown(got), ok, shown(want))
	}
	checkAppend(t, what, n, peer, many)
}

func wantNoAppend(t *testing.T, what string, n impl.RaftNode, peer int, many int) {
	t.Helper()
	if got, ok := impl.AppendFor(n, peer, many); ok || !sameMsg(got, impl.RaftMsg{}) {
		t.Errorf("%s: AppendFor %d, %d: %s %v, want nothing", what, peer, many, shown(got), ok)
	}
}

func TestAppendForPeers(t *testing.T) {
	log := logOf(1, 2, 2, 6, 6)
	n := leadingNode(1, 4, 6, log, 2, 0, 5, 3, 5)
	wantAppend(t, "nothing there yet", n, 0, 60, appendMsg(1, 0, 6, 0, 0, 2, log...))
	wantAppend(t, "in the middle", n, 2, 60, appendMsg(1, 2, 6, 3, 2, 2, log[3:]...))
	wantAppend(t, "all there", n, 3, 60, appendMsg(1, 3, 6, 5, 6, 2))
	for _, peer := range []int{1, -1, -2, 4, 5, math.MinInt, math.MaxInt} {
		for _, many := range []int{0, 1, 60} {
			wantNoAppend(t, "no other peer", n, peer, many)
		}
	}
}

func TestAppendForMany(t *testing.T) {
	log := logOf(1, 2, 2, 6, 6)
	n := leadingNode(1, 3, 6, log, 4, 0, 5, 3)
	for _, many := range []int{0, 1, 2, 3, 4, 5, 6, 7, 59, 60} {
		wantAppend(t, "from the front", n, 0, many, appendMsg(1, 0, 6, 0, 0, 4, log[:min(many, 5)]...))
		wantAppend(t, "from the middle", n, 2, many, appendMsg(1, 2, 6, 3, 2, 4, log[3:3+min(many, 2)]...))
	}
	for _, many := range []int{-1, -2, 61, 62, math.MinInt, math.MaxInt} {
		wantNoAppend(t, "not so many", n, 0, many)
		wantNoAppend(t, "not so many", n, 2, many)
	}
	full := entriesOf(60, 6, 2)
	n = leadingNode(1, 3, 6, full, 60, 0, 60, 59)
	wantAppend(t, "a full log", n, 0, 60, appendMsg(1, 0, 6, 0, 0, 60, full...))
	wantAppend(t, "but one of a full log", n, 0, 59, appendMsg(1, 0, 6, 0, 0, 60, full[:59]...))
	wantAppend(t, "the last of a full log", n, 2, 60, appendMsg(1, 2, 6, 59, 6, 60, full[59:]...))
	wantNoAppend(t, "more than a full log", n, 0, 61)
}

func TestAppendForOfOneThatDoesNotLead(t *testing.T) {
	for name, n := range manyNodes() {
		for peer := range n.Peers {
			if n.Role != impl.RoleLeads || peer == n.Id {
				wantNoAppend(t, name, n, peer, 1)
			}
		}
	}
	for name, n := range badNodes() {
		for peer := -1; peer < 8; peer++ {
			wantNoAppend(t, name, n, peer, 1)
		}
	}
}

func TestAppendForOfManyNodes(t *testing.T) {
	for name, n := range manyNodes() {
		for peer := -1; peer <= n.Peers; peer++ {
			for _, many := range []int{-1, 0, 1, 2, 3, len(n.Log), 59, 60, 61} {
				checkAppend(t, name, n, peer, many)
			}
		}
	}
}

func wantPropose(t *testing.T, what string, n impl.RaftNode, data string, index int, want impl.RaftNode) {
	t.Helper()
	got, at, ok := impl.ProposeNode(n, data)
	if at != index {
		t.Errorf("%s: ProposeNode: the index is %d, want %d", what, at, index)
	}
	wantNode(t, what+": ProposeNode", got, ok, want)
	checkPropose(t, what, n, data)
}

func wantNoPropose(t *testing.T, what string, n impl.RaftNode, data string) {
	t.Helper()
	got, at, ok := impl.ProposeNode(n, data)
	if at != 0 {
		t.Errorf("%s: ProposeNode: the index is %d, want nothing", what, at)
	}
	wantNoNode(t, what+": ProposeNode", got, ok)
}

// logWith is a log with an entry behind it, in memory of its own.
func logWith(log []impl.Entry, term int, data string) []impl.Entry {
	return append(slices.Clone(log), impl.Entry{Term: term, Data: data})
}

func TestProposeAmongSeveral(t *testing.T) {
	log := logOf(1, 2)
	n := leadingNode(1, 3, 6, log, 1, 0, 2, 2)
	for _, data := range []string{"", "x", sized(99), sized(100), mixed(100, 3)} {
		wantPropose(t, fmt.Sprint(len(data), " bytes"), n, data, 3, leadingNode(1, 3, 6, logWith(log, 6, data), 1, 0, 3, 2))
	}
	for _, data := range []string{sized(101), sized(102), sized(5000)} {
		wantNoPropose(t, fmt.Sprint(len(data), " bytes"), n, data)
	}
	wantPropose(t, "the first of all", leadingNode(0, 2, 1, nil, 0, 0, 0), "x", 1, leadingNode(0, 2, 1, logWith(nil, 1, "x"), 0, 1, 0))
}

// One alone is more than half: Commit goes on at once, over entries of earlier terms too.
func TestProposeAlone(t *testing.T) {
	n := leadingNode(0, 1, 1, nil, 0, 0)
	wantPropose(t, "the first", n, "x", 1, leadingNode(0, 1, 1, logWith(nil, 1, "x"), 1, 1))
	log := logOf(2, 4, 4)
	for commit := range 4 {
		n = leadingNode(0, 1, 7, log, commit, 3)
		wantPropose(t, fmt.Sprint("Commit ", commit), n, "x", 4, leadingNode(0, 1, 7, logWith(log, 7, "x"), 4, 4))
	}
}

func TestProposeToAFullLog(t *testing.T) {
	full := entriesOf(60, 6, 2)
	wantPropose(t, "59 entries", leadingNode(1, 3, 6, full[:59], 20, 0, 59, 20), "x", 60, leadingNode(1, 3, 6, logWith(full[:59], 6, "x"), 20, 0, 60, 20))
	wantNoPropose(t, "60 entries", leadingNode(1, 3, 6, full, 20, 0, 60, 20), "x")
	wantPropose(t, "59 entries, alone", leadingNode(0, 1, 6, full[:59], 59, 59), "", 60, leadingNode(0, 1, 6, logWith(full[:59], 6, ""), 60, 60))
	wantNoPropose(t, "60 entries, alone", leadingNode(0, 1, 6, full, 60, 60), "")
}

// Commit goes on by what the others have as well, to an entry of its own Term alone.
func TestProposeLetsCommitGoOn(t *testing.T) {
	log := logOf(1, 2, 6, 6)
	with := logWith(log, 6, "x")
	wantPropose(t, "two of three have 3", leadingNode(0, 3, 6, log, 1, 4, 3, 0), "x", 5, leadingNode(0, 3, 6, with, 3, 5, 3, 0))
	wantPropose(t, "all have 4", leadingNode(0, 3, 6, log, 1, 4, 4, 4), "x", 5, leadingNode(0, 3, 6, with, 4, 5, 4, 4))
	wantPropose(t, "two of three have 2, of an earlier term", leadingNode(0, 3, 6, log, 1, 4, 2, 0), "x", 5, leadingNode(0, 3, 6, with, 1, 5, 2, 0))
	wantPropose(t, "two of four have 4", leadingNode(0, 4, 6, log, 1, 4, 4, 0, 0), "x", 5, leadingNode(0, 4, 6, with, 1, 5, 4, 0, 0))
	wantPropose(t, "both have 4", leadingNode(0, 2, 6, log, 1, 4, 4), "x", 5, leadingNode(0, 2, 6, with, 4, 5, 4))
}

func TestProposeToOneThatDoesNotLead(t *testing.T) {
	for name, n := range manyNodes() {
		if n.Role != impl.RoleLeads {
			wantNoPropose(t, name, n, "x")
		}
	}
	for name, n := range badNodes() {
		wantNoPropose(t, name, n, "x")
		wantNoPropose(t, name, n, "")
	}
}

func TestProposeToManyNodes(t *testing.T) {
	for name, n := range manyNodes() {
		for _, size := range []int{0, 1, 99, 100, 101, 1000} {
			checkPropose(t, name, n, mixed(size, size))
		}
	}
}

// One that leads is filled up to the last entry.
func TestProposeUntilFull(t *testing.T) {
	for peers := 1; peers <= 7; peers++ {
		n := leadingNode(0, peers, 3, nil, 0, make([]int, peers)...)
		for i := range 62 {
			what := fmt.Sprint(i, " among ", peers)
			next, ok := checkPropose(t, what, n, fmt.Sprint("entry ", i))
			if ok != (i < 60) {
				t.Errorf("%s: told %v", what, ok)
			}
			n = next
		}
		if len(n.Log) != 60 || peers == 1 && n.Commit != 60 || peers > 1 && n.Commit != 0 {
			t.Errorf("among %d: %s", peers, shown(n))
		}
	}
}
