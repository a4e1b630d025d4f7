package tests

import (
	"fmt"
	"slices"
	"testing"

	"loop.example/g00224/impl"
)

// A RaftAsk: by the Term of who asks.

func TestAskOfALesserTerm(t *testing.T) {
	log := logOf(1, 3)
	for name, n := range map[string]impl.RaftNode{
		"follows":            followingNode(1, 3, 5, -1, log, 1),
		"follows, has voted": followingNode(1, 3, 5, 0, log, 1),
		"asks":               askingNode(1, 3, 5, log, 1, 1),
		"leads":              leadingNode(1, 3, 5, log, 1, 0, 2, 0),
	} {
		for _, term := range []int{1, 3, 4} {
			wantHandled(t, name, n, askMsg(0, 1, term, 60, 1000), n, voteMsg(1, 0, 5, false))
		}
	}
}

func TestAskOfTheSameTerm(t *testing.T) {
	log := logOf(1, 3)
	m := askMsg(0, 1, 5, 2, 3)
	voted := followingNode(1, 3, 5, 0, log, 1)
	wantHandled(t, "no Vote yet", followingNode(1, 3, 5, -1, log, 1), m, voted, voteMsg(1, 0, 5, true))
	wantHandled(t, "voted for it", voted, m, voted, voteMsg(1, 0, 5, true))
	other := followingNode(1, 3, 5, 2, log, 1)
	wantHandled(t, "voted for another", other, m, other, voteMsg(1, 0, 5, false))
	own := followingNode(1, 3, 5, 1, log, 1)
	wantHandled(t, "voted for itself", own, m, own, voteMsg(1, 0, 5, false))
	asks := askingNode(1, 3, 5, log, 1, 1)
	wantHandled(t, "asks", asks, m, asks, voteMsg(1, 0, 5, false))
	leads := leadingNode(1, 3, 5, log, 1, 0, 2, 0)
	wantHandled(t, "leads", leads, m, leads, voteMsg(1, 0, 5, false))
}

func TestAskOfAGreaterTerm(t *testing.T) {
	log := logOf(1, 3)
	for name, n := range map[string]impl.RaftNode{
		"follows":              followingNode(1, 3, 5, -1, log, 1),
		"voted for it":         followingNode(1, 3, 5, 0, log, 1),
		"voted for another":    followingNode(1, 3, 5, 2, log, 1),
		"asks":                 askingNode(1, 3, 5, log, 1, 1),
		"leads":                leadingNode(1, 3, 5, log, 1, 0, 2, 0),
		"leads and may commit": leadingNode(1, 3, 5, logOf(1, 5), 1, 2, 2, 2),
	} {
		for _, term := range []int{6, 7, 1000} {
			own, _ := lastByHand(n.Log)
			yes := followingNode(1, 3, term, 0, n.Log, 1)
			wantHandled(t, name, n, askMsg(0, 1, term, own, 5), yes, voteMsg(1, 0, term, true))
			// The Term goes on, and the Vote is free, also where the vote is not given.
			no := followingNode(1, 3, term, -1, n.Log, 1)
			wantHandled(t, name+", behind", n, askMsg(0, 1, term, own, 2), no, voteMsg(1, 0, term, false))
		}
	}
	fresh, _ := impl.NewNode(1, 2)
	wantHandled(t, "new", fresh, askMsg(0, 1, 1, 0, 0), followingNode(1, 2, 1, 0, nil, 0), voteMsg(1, 0, 1, true))
}

// Logs behind, equal and ahead, by term and by index.
func TestAskByLog(t *testing.T) {
	log := logOf(1, 4, 4)
	for _, c := range []struct {
		index, before int
		yes           bool
	}{
		{0, 0, false}, {60, 0, false}, {0, 3, false}, {3, 3, false}, {60, 3, false},
		{0, 4, false}, {2, 4, false}, {3, 4, true}, {4, 4, true}, {60, 4, true},
		{0, 5, true}, {2, 5, true}, {3, 5, true}, {60, 5, true}, {1, 1000, true},
	} {
		for _, term := range []int{6, 7} {
			vote := -1
			if c.yes {
				vote = 2
			}
			what := fmt.Sprintf("index %d, term %d, in %d", c.index, c.before, term)
			wantHandled(t, what, followingNode(0, 3, 6, -1, log, 2), askMsg(2, 0, term, c.index, c.before), followingNode(0, 3, term, vote, log, 2), voteMsg(0, 2, term, c.yes))
		}
	}
	for _, m := range []impl.RaftMsg{askMsg(2, 0, 6, 0, 0), askMsg(2, 0, 6, 60, 1000)} {
		wantHandled(t, "an empty log", followingNode(0, 3, 6, -1, nil, 0), m, followingNode(0, 3, 6, 2, nil, 0), voteMsg(0, 2, 6, true))
	}
}

// In one term one alone is voted for, whoever asks, in whatever order, however often.
func TestOneVoteInATerm(t *testing.T) {
	for peers := 2; peers <= 7; peers++ {
		n := followingNode(0, peers, 4, -1, nil, 0)
		var others []int
		for from := 1; from < peers; from++ {
			others = append(others, from)
		}
		for round := range 4 {
			for _, from := range others {
				next, l, ok := checkHandled(t, "round", n, askMsg(from, 0, 4, 5, 4))
				if !ok || next.Vote != 1 || len(l) != 1 || l[0].Yes != (from == 1) || l[0].To != from {
					t.Errorf("%d of %d asks in round %d: %s %s", from, peers, round, shown(next), shown(l))
				}
				n = next
			}
			slices.Reverse(others)
			n, _ = checkCrashNode(t, "between", n)
		}
	}
}

// A RaftVote.

func TestVoteOfAnotherTerm(t *testing.T) {
	log := logOf(1, 3)
	for name, n := range map[string]impl.RaftNode{
		"follows": followingNode(1, 3, 5, 2, log, 1),
		"asks":    askingNode(1, 3, 5, log, 1, 1),
		"leads":   leadingNode(1, 3, 5, log, 1, 0, 2, 0),
	} {
		for _, yes := range []bool{false, true} {
			for _, term := range []int{1, 4} {
				wantHandled(t, name+", lesser", n, voteMsg(0, 1, term, yes), n)
			}
			for _, term := range []int{6, 1000} {
				wantHandled(t, name+", greater", n, voteMsg(0, 1, term, yes), followingNode(1, 3, term, -1, log, 1))
			}
		}
	}
}

func TestVoteToOneThatDoesNotAsk(t *testing.T) {
	log := logOf(1, 3)
	for name, n := range map[string]impl.RaftNode{
		"follows":                   followingNode(1, 3, 5, -1, log, 1),
		"follows, voted for itself": followingNode(1, 3, 5, 1, log, 1),
		"leads":                     leadingNode(1, 3, 5, log, 1, 0, 2, 0),
	} {
		for _, yes := range []bool{false, true} {
			wantHandled(t, name, n, voteMsg(0, 1, 5, yes), n)
		}
	}
}

func TestVoteThatIsNotGiven(t *testing.T) {
	for peers := 2; peers <= 7; peers++ {
		n := askingNode(0, peers, 5, logOf(1), 0, 0)
		for from := 1; from < peers; from++ {
			wantHandled(t, fmt.Sprint(from, " of ", peers), n, voteMsg(from, 0, 5, false), n)
		}
	}
	n := askingNode(1, 5, 5, logOf(1), 0, 1, 3)
	wantHandled(t, "given, then not", n, voteMsg(3, 1, 5, false), n)
}

func TestVotesThatAreGiven(t *testing.T) {
	log := logOf(1, 3)
	wantHandled(t, "the second of three", askingNode(1, 3, 5, log, 1, 1), voteMsg(0, 1, 5, true), leadingNode(1, 3, 5, log, 1, 0, 2, 0))
	wantHandled(t, "the second of two", askingNode(1, 2, 5, log, 1, 1), voteMsg(0, 1, 5, true), leadingNode(1, 2, 5, log, 1, 0, 2))
	wantHandled(t, "the second of four is half", askingNode(1, 4, 5, log, 1, 1), voteMsg(0, 1, 5, true), askingNode(1, 4, 5, log, 1, 0, 1))
	wantHandled(t, "the third of four", askingNode(1, 4, 5, log, 1, 0, 1), voteMsg(3, 1, 5, true), leadingNode(1, 4, 5, log, 1, 0, 2, 0, 0))
	wantHandled(t, "the second of five", askingNode(1, 5, 5, log, 1, 1), voteMsg(4, 1, 5, true), askingNode(1, 5, 5, log, 1, 1, 4))
	wantHandled(t, "the third of five", askingNode(1, 5, 5, log, 1, 1, 4), voteMsg(2, 1, 5, true), leadingNode(1, 5, 5, log, 1, 0, 2, 0, 0, 0))
	wantHandled(t, "between others", askingNode(1, 7, 5, log, 1, 1, 6), voteMsg(4, 1, 5, true), askingNode(1, 7, 5, log, 1, 1, 4, 6))
	wantHandled(t, "ahead of others", askingNode(3, 7, 5, log, 1, 3, 6), voteMsg(0, 3, 5, true), askingNode(3, 7, 5, log, 1, 0, 3, 6))
	wantHandled(t, "the fourth of seven", askingNode(6, 7, 5, nil, 0, 0, 3, 6), voteMsg(1, 6, 5, true), leadingNode(6, 7, 5, nil, 0, 0, 0, 0, 0, 0, 0, 0))
}

func TestVoteThatComesAgain(t *testing.T) {
	for _, n := range []impl.RaftNode{askingNode(1, 4, 5, logOf(1), 0, 0, 1), askingNode(0, 5, 5, nil, 0, 0, 4), askingNode(3, 7, 5, nil, 0, 0, 3, 6)} {
		for _, from := range n.Votes {
			if from != n.Id {
				wantHandled(t, "again", n, voteMsg(from, n.Id, 5, true), n)
			}
		}
	}
}

// All orders in which votes may come: it leads just with the one that makes more than half.
func TestVotesInEveryOrder(t *testing.T) {
	for peers := 2; peers <= 6; peers++ {
		for id := range peers {
			voteOn(t, askingNode(id, peers, 3, logOf(1, 2), 1, id), []int{id})
		}
	}
}

func voteOn(t *testing.T, n impl.RaftNode, given []int) {
	leads := 2*len(given) > n.Peers
	if (n.Role == impl.RoleLeads) != leads || (n.Role == impl.RoleAsks) == leads {
		t.Errorf("with votes of %v of %d: %s", given, n.Peers, shown(n))
	}
	if leads {
		return
	}
	for from := range n.Peers {
		if from == n.Id {
			continue
		}
		next, l, ok := checkHandled(t, fmt.Sprint("votes of ", given, " and ", from), n, voteMsg(from, n.Id, 3, true))
		if !ok || len(l) != 0 {
			t.Errorf("a vote of %d is answered by %s %v", from, shown(l), ok)
		}
		if slices.Contains(given, from) {
			wantNode(t, "a vote that comes again", next, ok, n)
			continue
		}
		voteOn(t, next, append(given[:len(given):len(given)], from))
	}
}
