package tests

import (
	"fmt"
	"math"
	"slices"
	"testing"

	"loop.example/g00224/impl"
)

func wantTimeout(t *testing.T, what string, n impl.RaftNode, want impl.RaftNode, asks ...impl.RaftMsg) {
	t.Helper()
	got, l, ok := impl.TimeoutNode(n)
	wantNode(t, what, got, ok, want)
	wantMsgs(t, what, l, n.Peers, asks...)
	checkTimeout(t, what, n)
}

func wantNoTimeout(t *testing.T, what string, n impl.RaftNode) {
	t.Helper()
	got, l, ok := impl.TimeoutNode(n)
	wantNoNode(t, what, got, ok)
	wantMsgs(t, what, l, n.Peers)
}

func TestTimeoutOfOneThatFollows(t *testing.T) {
	n, _ := impl.NewNode(1, 3)
	wantTimeout(t, "new", n, askingNode(1, 3, 1, nil, 0, 1), askMsg(1, 0, 1, 0, 0), askMsg(1, 2, 1, 0, 0))
	log := logOf(1, 3, 3)
	for vote := -1; vote <= 3; vote++ {
		n = followingNode(2, 4, 6, vote, log, 2)
		wantTimeout(t, fmt.Sprint("follows, Vote ", vote), n, askingNode(2, 4, 7, log, 2, 2), askMsg(2, 0, 7, 3, 3), askMsg(2, 1, 7, 3, 3), askMsg(2, 3, 7, 3, 3))
	}
}

// Who asks and asks again begins with its own vote alone.
func TestTimeoutOfOneThatAsks(t *testing.T) {
	log := logOf(2, 5)
	n := askingNode(0, 5, 5, log, 1, 0, 4)
	asks := []impl.RaftMsg{askMsg(0, 1, 6, 2, 5), askMsg(0, 2, 6, 2, 5), askMsg(0, 3, 6, 2, 5), askMsg(0, 4, 6, 2, 5)}
	wantTimeout(t, "asks", n, askingNode(0, 5, 6, log, 1, 0), asks...)
}

func TestNoTimeoutOfOneThatLeads(t *testing.T) {
	for name, n := range manyNodes() {
		if n.Role == impl.RoleLeads {
			wantNoTimeout(t, name, n)
		}
	}
}

func TestTimeoutInTheLastTerms(t *testing.T) {
	for _, term := range []int{0, 1, 998, 999} {
		follows := followingNode(0, 2, term, -1, nil, 0)
		wantTimeout(t, fmt.Sprint("follows in ", term), follows, askingNode(0, 2, term+1, nil, 0, 0), askMsg(0, 1, term+1, 0, 0))
		if term > 0 {
			asks := askingNode(1, 2, term, nil, 0, 1)
			wantTimeout(t, fmt.Sprint("asks in ", term), asks, askingNode(1, 2, term+1, nil, 0, 1), askMsg(1, 0, term+1, 0, 0))
		}
		alone := followingNode(0, 1, term, -1, nil, 0)
		wantTimeout(t, fmt.Sprint("alone in ", term), alone, leadingNode(0, 1, term+1, nil, 0, 0))
	}
	for _, n := range []impl.RaftNode{followingNode(0, 2, 1000, -1, nil, 0), askingNode(1, 2, 1000, nil, 0, 1), followingNode(0, 1, 1000, 0, logOf(3), 1)} {
		wantNoTimeout(t, "in the last term", n)
	}
}

// One alone has more than half with its own vote; what it has from earlier terms stays as little committed as it was.
func TestOneAloneLeadsAtOnce(t *testing.T) {
	n, _ := impl.NewNode(0, 1)
	wantTimeout(t, "new", n, leadingNode(0, 1, 1, nil, 0, 0))
	for commit := range 4 {
		for vote := -1; vote <= 0; vote++ {
			n = followingNode(0, 1, 7, vote, logOf(2, 7, 7), commit)
			wantTimeout(t, fmt.Sprint("alone, Commit ", commit), n, leadingNode(0, 1, 8, logOf(2, 7, 7), commit, 3))
		}
	}
}

// To each other one, rising, field by field.
func TestAsksOfATimeout(t *testing.T) {
	for peers := 2; peers <= 7; peers++ {
		for id := range peers {
			for many := range 4 {
				log := logOf(1, 4, 9)[:many]
				term := []int{0, 1, 4, 9}[many]
				got, l, ok := impl.TimeoutNode(followingNode(id, peers, 11, -1, log, 0))
				what := fmt.Sprintf("%d of %d, %d entries", id, peers, many)
				wantNode(t, what, got, ok, askingNode(id, peers, 12, log, 0, id))
				var others []int
				for _, m := range l {
					others = append(others, m.To)
					if m.Kind != impl.RaftAsk || m.From != id || m.Term != 12 || m.Index != many || m.Before != term || m.Commit != 0 || m.Yes || len(m.Entries) != 0 {
						t.Errorf("%s: asks by %s", what, shown(m))
					}
				}
				var want []int
				for peer := range peers {
					if peer != id {
						want = append(want, peer)
					}
				}
				if !slices.Equal(others, want) {
					t.Errorf("%s: asks %v, want %v", what, others, want)
				}
			}
		}
	}
}

func TestTimeoutOfManyNodes(t *testing.T) {
	for name, n := range manyNodes() {
		checkTimeout(t, name, n)
	}
	for name, n := range badNodes() {
		wantNoTimeout(t, name, n)
	}
}

func TestUpToDate(t *testing.T) {
	n := followingNode(0, 3, 9, -1, logOf(1, 4, 4, 6), 2)
	for index, atLast := range map[int]bool{0: false, 1: false, 3: false, 4: true, 5: true, 60: true, 61: true, math.MaxInt: true} {
		for term, want := range map[int]bool{0: false, 1: false, 5: false, 6: atLast, 7: true, 9: true, 1000: true, 1001: true, math.MaxInt: true} {
			if got, ok := impl.UpToDate(n, index, term); got != want || !ok {
				t.Errorf("UpToDate %d of term %d: %v %v, want %v", index, term, got, ok, want)
			}
			checkUpToDate(t, "one log", n, index, term)
		}
	}
}

func TestUpToDateWithAnEmptyLog(t *testing.T) {
	n := followingNode(0, 3, 9, 1, nil, 0)
	for _, index := range []int{0, 1, 60, math.MaxInt} {
		for _, term := range []int{0, 1, 9, math.MaxInt} {
			if got, ok := impl.UpToDate(n, index, term); !got || !ok {
				t.Errorf("UpToDate %d of term %d with an empty log: %v %v", index, term, got, ok)
			}
		}
	}
}

func TestUpToDateBelowNought(t *testing.T) {
	for name, n := range manyNodes() {
		for _, below := range []int{-1, -2, math.MinInt} {
			for _, other := range []int{below, 0, 1, 6, 1000, math.MaxInt} {
				if got, ok := impl.UpToDate(n, below, other); got || ok {
					t.Errorf("%s: UpToDate of index %d, term %d: %v %v", name, below, other, got, ok)
				}
				if got, ok := impl.UpToDate(n, other, below); got || ok {
					t.Errorf("%s: UpToDate of index %d, term %d: %v %v", name, other, below, got, ok)
				}
			}
		}
	}
}

func TestUpToDateOfManyNodes(t *testing.T) {
	for name, n := range manyNodes() {
		lastIndex, lastTerm := lastByHand(n.Log)
		for _, index := range []int{-1, 0, lastIndex - 1, lastIndex, lastIndex + 1} {
			for _, term := range []int{-1, 0, lastTerm - 1, lastTerm, lastTerm + 1} {
				checkUpToDate(t, name, n, index, term)
			}
		}
	}
	for name, n := range badNodes() {
		for _, index := range []int{math.MinInt, -1, 0, 4, 60, math.MaxInt} {
			if got, ok := impl.UpToDate(n, index, index); got || ok {
				t.Errorf("%s: UpToDate: %v %v", name, got, ok)
			}
		}
	}
}

func TestCrashOfANode(t *testing.T) {
	log := logOf(1, 3, 3, 5)
	for commit := range 5 {
		for name, n := range map[string]impl.RaftNode{
			"follows": followingNode(1, 3, 5, 1, log, commit),
			"asks":    askingNode(1, 3, 5, log, commit, 1),
			"leads":   leadingNode(1, 3, 5, log, commit, 4, 4, 0),
		} {
			got, ok := impl.CrashNode(n)
			wantNode(t, fmt.Sprint(name, ", Commit ", commit), got, ok, followingNode(1, 3, 5, 1, log, 0))
		}
		for vote := -1; vote < 3; vote++ {
			got, ok := impl.CrashNode(followingNode(1, 3, 5, vote, log, commit))
			wantNode(t, fmt.Sprint("Vote ", vote, ", Commit ", commit), got, ok, followingNode(1, 3, 5, vote, log, 0))
		}
	}
}

func TestCrashOfManyNodes(t *testing.T) {
	for name, n := range manyNodes() {
		once, ok := checkCrashNode(t, name, n)
		if !ok || once.Commit != 0 || once.Role != impl.RoleFollows || len(once.Votes)+len(once.Match) != 0 {
			t.Errorf("%s: crashed: %s", name, shown(once))
		}
		twice, ok := checkCrashNode(t, name+", again", once)
		wantNode(t, name+", again", twice, ok, once)
	}
	for name, n := range badNodes() {
		got, ok := impl.CrashNode(n)
		wantNoNode(t, name, got, ok)
	}
}

func TestCommittedIn(t *testing.T) {
	log := logOf(1, 3, 3, 5)
	for commit := range 5 {
		for name, n := range map[string]impl.RaftNode{
			"follows": followingNode(1, 3, 5, 1, log, commit),
			"asks":    askingNode(1, 3, 5, log, commit, 1),
			"leads":   leadingNode(1, 3, 5, log, commit, 4, 4, 0),
		} {
			if got, ok := impl.CommittedIn(n); !slices.Equal(got, log[:commit]) || !ok {
				t.Errorf("%s, Commit %d: %v %v", name, commit, got, ok)
			}
		}
	}
	for name, n := range manyNodes() {
		checkCommitted(t, name, n)
	}
	for name, n := range badNodes() {
		if got, ok := impl.CommittedIn(n); len(got) != 0 || ok {
			t.Errorf("%s: CommittedIn: %s %v", name, shown(got), ok)
		}
	}
}
